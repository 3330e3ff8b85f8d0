/-
  Moves (structs of three numbers and bytes) as they came in. Conditions: none.
-/
import Derived.Test.YtfopjilncfndnaaDoorShellCells
import Derived.Test.YtfopjilncfndnaaDoorBa
namespace Go.Proofs.YtfopjilncfndnaaDoor
open Go.ChangeShapes Go.WideShapes Go.ChangeAt Go.RowKit Go.Deep

structure MvM where
  who : Int
  kind : Int
  n : Int
  b : List UInt8
  A : Option Addr
  cb : Nat
instance : Inhabited MvM := ⟨⟨0, 0, 0, [], none, 0⟩⟩
def mvCells (m : MvM) : List Value := [.int .i64 m.who, .int .i64 m.kind, .int .i64 m.n, .slice m.A m.b.length m.cb]
/-- the slice at A0 reads as the moves l, below block B -/
structure MvsAt (w : World) (B : Nat) (A0 : Option Addr) (l : List MvM) : Prop where
  at_ : l ≠ [] → ∃ ad, A0 = some ad ∧ ad.block < B ∧ ∀ k m, l[k]? = some m → ∀ j v, (mvCells m)[j]? = some v → w.cell? ((ad.add (k * 4)).add j) = some v
  b : ∀ m, m ∈ l → BytesAt w B m.A m.b
  who : ∀ m, m ∈ l → -9223372036854775808 ≤ m.who ∧ m.who ≤ 9223372036854775807
  n : ∀ m, m ∈ l → -9223372036854775808 ≤ m.n ∧ m.n ≤ 9223372036854775807
theorem MvsAt.below {w w' : World} {B : Nat} {A0 : Option Addr} {l : List MvM} (h : MvsAt w B A0 l) (hb : Below B w w') : MvsAt w' B A0 l :=
  ⟨fun hne => by
    obtain ⟨ad, e, hB, hc⟩ := h.at_ hne
    exact ⟨ad, e, hB, fun k m hm j v hv => (hb.cell (by rw [block_add, block_add]; exact hB)).trans (hc k m hm j v hv)⟩,
   fun m hm => (h.b m hm).below hb, h.who, h.n⟩
/-- the cells of the move at k -/
theorem mv_at {w wr : World} {A0 : Option Addr} {l : List MvM} {m : MvM} {k : Nat} (hA : MvsAt w w.heap.size A0 l) (hb : Below w.heap.size w wr) (hm : l[k]? = some m) : ∃ ad, A0 = some ad ∧
    wr.cell? (ad.add (k * 4)) = some (.int .i64 m.who) ∧ wr.cell? ⟨(ad.add (k * 4)).block, (ad.add (k * 4)).off + 1, none⟩ = some (.int .i64 m.kind) ∧ wr.cell? ⟨(ad.add (k * 4)).block, (ad.add (k * 4)).off + 2, none⟩ = some (.int .i64 m.n) ∧
    wr.cell? ⟨(ad.add (k * 4)).block, (ad.add (k * 4)).off + 3, none⟩ = some (.slice m.A m.b.length m.cb) := by
  obtain ⟨ad, e, _, hc⟩ := (hA.below hb).at_ (by rintro rfl; simp at hm)
  exact ⟨ad, e, hc k m hm 0 _ rfl, hc k m hm 1 _ rfl, hc k m hm 2 _ rfl, hc k m hm 3 _ rfl⟩
section
variable {H : Type} {enc : TypeId × Value → H} {P : Program}
/-- a slice of moves that came in -/
theorem open_mvsAt {W : World} {base : Nat} {v : Value} {d : DataW H} {p : List MemPlace} {tS tE tO : TypeId} {f0 f1 f2 f3 : Field} (ht : P.underlying tS = some (.slice tE)) (he : P.underlying tE = some (.struct #[f0, f1, f2, f3])) (hc : P.cellsOf tE = 4)
    (o : f0.offset = 0 ∧ f1.offset = 1 ∧ f2.offset = 2 ∧ f3.offset = 3) (c : P.cellsOf f0.type = 1 ∧ P.cellsOf f1.type = 1 ∧ P.cellsOf f2.type = 1 ∧ P.cellsOf f3.type = 1)
    (u0 : P.underlying f0.type = some (.int .i64)) (u1 : P.underlying f1.type = some (.int .i64)) (u2 : P.underlying f2.type = some (.int .i64)) (u3 : P.underlying f3.type = some (.slice tO)) (uO : P.underlying tO = some (.int .u8)) (cO : P.cellsOf tO = 1)
    (hval : Value.okWide P W .any base tS v) (h : DataW.Trod enc P W 0 (fun _ => true) true tS v d p) :
    ∃ (A : Option Addr) (l : List MvM) (c : Nat), v = .slice A l.length c ∧ l.length ≤ c ∧ c ≤ maxLen ∧ MvsAt W W.heap.size A l ∧ (A = none → l = [] ∧ c = 0) := by
  obtain ⟨o0, o1, o2, o3⟩ := o
  obtain ⟨c0, c1, c2, c3⟩ := c
  obtain ⟨a1, len, cap, rfl⟩ := okWide_slice ht hval
  obtain ⟨fuel, hf⟩ := h
  rcases open_slice ht hf with ⟨hcs, hx⟩ | ⟨a, len', cap', m, n, D, Pl, hcs, _, hl, hm, hmm, hx, hel⟩
  · simp [Value.cells] at hcs
    obtain ⟨rfl, rfl, rfl⟩ := hcs
    exact ⟨none, [], 0, rfl, Nat.le_refl _, Nat.zero_le _, ⟨fun h => absurd rfl h, by simp, by simp, by simp⟩, fun _ => ⟨rfl, rfl⟩⟩
  · simp [Value.cells] at hcs
    obtain ⟨rfl, rfl, rfl⟩ := hcs
    simp only [if_true] at hmm
    subst hmm
    obtain ⟨q, hq⟩ := choose_lt (α := MvM) (p := fun i b => (-9223372036854775808 ≤ b.who ∧ b.who ≤ 9223372036854775807) ∧ (-9223372036854775808 ≤ b.n ∧ b.n ≤ 9223372036854775807) ∧ BytesAt W W.heap.size b.A b.b ∧
        ∀ j v, (mvCells b)[j]? = some v → W.cell? ((a.add (i * 4)).add j) = some v) (fun i hi => by
      obtain ⟨cs', h1, h2⟩ := hel i hi
      rw [hc] at h1
      obtain ⟨_, hlen, hcell⟩ := World.cells?_some h1
      obtain ⟨xs, k, _, _, _, hxl, hfs⟩ := DataW.trod_struct he h2
      match xs, hxl, cs', hlen with
      | [y0, y1, y2, y3], _, [v0, v1, v2, v3], _ =>
        have g0 := hfs 0 f0 rfl
        have g1 := hfs 1 f1 rfl
        have g2 := hfs 2 f2 rfl
        have g3 := hfs 3 f3 rfl
        simp [o0, o1, o2, o3, c0, c1, c2, c3] at g0 g1 g2 g3
        obtain ⟨z0, e0, _, w0⟩ := DataW.trod_int u0 g0
        obtain ⟨z1, e1, _, w1⟩ := DataW.trod_int u1 g1
        obtain ⟨z2, e2, _, w2⟩ := DataW.trod_int u2 g2
        obtain ⟨A3, l3, k3, rfl, r3⟩ := cell_bytes u3 uO cO g3
        obtain rfl : v0 = .int .i64 z0 := by simpa using e0
        obtain rfl : v1 = .int .i64 z1 := by simpa using e1
        obtain rfl : v2 = .int .i64 z2 := by simpa using e2
        refine ⟨⟨z0, z1, z2, l3, A3, k3⟩, bounds_i64 w0, bounds_i64 w2, r3, fun j v hv => ?_⟩
        have hj : j < 4 := by
          have := (List.getElem?_eq_some_iff.1 hv).1
          simpa [mvCells] using this
        rw [hcell j hj, ← hv]
        rfl)
    have hlen : ((List.range len).map q).length = len := by simp
    have hat : ∀ {k : Nat} {p : MvM}, ((List.range len).map q)[k]? = some p → k < len ∧ p = q k := fun {k p} hp => by
      rw [List.getElem?_eq_some_iff] at hp
      obtain ⟨h1, h2⟩ := hp
      simp at h1 h2
      exact ⟨h1, h2.symm⟩
    have hmem : ∀ m, m ∈ (List.range len).map q → ∃ k, k < len ∧ m = q k := fun m hm => by
      simp only [List.mem_map, List.mem_range] at hm
      obtain ⟨k, hk, rfl⟩ := hm
      exact ⟨k, hk, rfl⟩
    refine ⟨some a, (List.range len).map q, m, by rw [hlen], by rw [hlen]; exact hl, hm, ⟨fun hne => ?_, fun m hm => ?_, fun m hm => ?_, fun m hm => ?_⟩, (by intro h; cases h)⟩
    · have hpos : 0 < len := by
        rcases Nat.eq_zero_or_pos len with h0 | h0
        · subst h0; exact absurd rfl hne
        · exact h0
      refine ⟨a, rfl, ?_, fun k u hu => ?_⟩
      · have := cell_lt ((hq 0 (by omega)).2.2.2 0 _ rfl)
        rwa [Go.Proofs.YtfopjilncfndnaaDoor.block_add, Go.Proofs.YtfopjilncfndnaaDoor.block_add] at this
      · obtain ⟨hk, rfl⟩ := hat hu
        exact (hq k (by omega)).2.2.2
    · obtain ⟨k, hk, rfl⟩ := hmem m hm
      exact (hq k (by omega)).2.2.1
    · obtain ⟨k, hk, rfl⟩ := hmem m hm
      exact (hq k (by omega)).1
    · obtain ⟨k, hk, rfl⟩ := hmem m hm
      exact (hq k (by omega)).2.1
end
end Go.Proofs.YtfopjilncfndnaaDoor
