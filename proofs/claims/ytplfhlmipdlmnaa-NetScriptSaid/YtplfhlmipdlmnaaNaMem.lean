/-
  Calls of a net (tandemlaw14.Act) as they came in. Conditions: none.
-/
import Derived.Test.YtplfhlmipdlmnaaShellCells
import Derived.Test.YtplfhlmipdlmnaaBa
namespace Go.Proofs.Ytplfhlmipdlmnaa
open Go.ChangeShapes Go.WideShapes Go.ChangeAt Go.RowKit Go.Deep

structure NaM where
  kind : Int
  i : Int
  to : Int
  is : Bool
  b : List UInt8
  A : Option Addr
  cb : Nat
instance : Inhabited NaM := ⟨⟨0, 0, 0, false, [], none, 0⟩⟩
def naCells (m : NaM) : List Value := [.int .i64 m.kind, .int .i64 m.i, .int .i64 m.to, .bool m.is, .slice m.A m.b.length m.cb]
/-- the slice at A0 reads as the moves l, below block B -/
structure NasAt (w : World) (B : Nat) (A0 : Option Addr) (l : List NaM) : Prop where
  at_ : l ≠ [] → ∃ ad, A0 = some ad ∧ ad.block < B ∧ ∀ k m, l[k]? = some m → ∀ j v, (naCells m)[j]? = some v → w.cell? ((ad.add (k * 5)).add j) = some v
  b : ∀ m, m ∈ l → BytesAt w B m.A m.b
  i : ∀ m, m ∈ l → -9223372036854775808 ≤ m.i ∧ m.i ≤ 9223372036854775807
  to : ∀ m, m ∈ l → -9223372036854775808 ≤ m.to ∧ m.to ≤ 9223372036854775807
theorem NasAt.below {w w' : World} {B : Nat} {A0 : Option Addr} {l : List NaM} (h : NasAt w B A0 l) (hb : Below B w w') : NasAt w' B A0 l :=
  ⟨fun hne => by
    obtain ⟨ad, e, hB, hc⟩ := h.at_ hne
    exact ⟨ad, e, hB, fun k m hm j v hv => (hb.cell (by rw [block_add, block_add]; exact hB)).trans (hc k m hm j v hv)⟩,
   fun m hm => (h.b m hm).below hb, h.i, h.to⟩
theorem na_one (m : NaM) : ∀ v ∈ naCells m, v.oneCell' = true := by
  intro v hv
  simp only [naCells, List.mem_cons, List.not_mem_nil, or_false] at hv
  rcases hv with rfl | rfl | rfl | rfl | rfl <;> rfl
theorem na_len (m : NaM) : (naCells m).length = 5 := rfl
/-- the cells of the call at k, as a row -/
theorem na_row {w wr : World} {A0 : Option Addr} {l : List NaM} {m : NaM} {k : Nat} (hA : NasAt w w.heap.size A0 l) (hb : Below w.heap.size w wr) (hm : l[k]? = some m) : ∃ ad, A0 = some ad ∧ ∀ j v, (naCells m)[j]? = some v → wr.cell? ((ad.add (k * 5)).add j) = some v := by
  obtain ⟨ad, e, _, hc⟩ := (hA.below hb).at_ (by rintro rfl; simp at hm)
  exact ⟨ad, e, hc k m hm⟩
section
variable {H : Type} {enc : TypeId × Value → H} {P : Program}
/-- a slice of moves that came in -/
theorem open_nasAt {W : World} {base : Nat} {v : Value} {d : DataW H} {p : List MemPlace} {tS tE tO : TypeId} {f0 f1 f2 f3 f4 : Field} (ht : P.underlying tS = some (.slice tE)) (he : P.underlying tE = some (.struct #[f0, f1, f2, f3, f4])) (hc : P.cellsOf tE = 5)
    (o : f0.offset = 0 ∧ f1.offset = 1 ∧ f2.offset = 2 ∧ f3.offset = 3 ∧ f4.offset = 4) (c : P.cellsOf f0.type = 1 ∧ P.cellsOf f1.type = 1 ∧ P.cellsOf f2.type = 1 ∧ P.cellsOf f3.type = 1 ∧ P.cellsOf f4.type = 1)
    (u0 : P.underlying f0.type = some (.int .i64)) (u1 : P.underlying f1.type = some (.int .i64)) (u2 : P.underlying f2.type = some (.int .i64)) (u3 : P.underlying f3.type = some .bool) (u4 : P.underlying f4.type = some (.slice tO)) (uO : P.underlying tO = some (.int .u8)) (cO : P.cellsOf tO = 1)
    (hval : Value.okWide P W .any base tS v) (h : DataW.Trod enc P W 0 (fun _ => true) true tS v d p) :
    ∃ (A : Option Addr) (l : List NaM) (c : Nat), v = .slice A l.length c ∧ l.length ≤ c ∧ c ≤ maxLen ∧ NasAt W W.heap.size A l ∧ (A = none → l = [] ∧ c = 0) := by
  obtain ⟨o0, o1, o2, o3, o4⟩ := o
  obtain ⟨c0, c1, c2, c3, c4⟩ := c
  obtain ⟨a1, len, cap, rfl⟩ := okWide_slice ht hval
  obtain ⟨fuel, hf⟩ := h
  rcases open_slice ht hf with ⟨hcs, hx⟩ | ⟨a, len', cap', m, n, D, Pl, hcs, _, hl, hm, hmm, hx, hel⟩
  · simp [Value.cells] at hcs
    obtain ⟨rfl, rfl, rfl⟩ := hcs
    exact ⟨none, [], 0, rfl, Nat.le_refl _, Nat.zero_le _, ⟨fun h => absurd rfl h, by simp, by simp, by simp⟩, fun _ => ⟨rfl, rfl⟩⟩
  · simp [Value.cells] at hcs
    obtain ⟨rfl, rfl, rfl⟩ := hcs
    simp only [if_true] at hmm
    subst hmm
    obtain ⟨q, hq⟩ := choose_lt (α := NaM) (p := fun i b => (-9223372036854775808 ≤ b.i ∧ b.i ≤ 9223372036854775807) ∧ (-9223372036854775808 ≤ b.to ∧ b.to ≤ 9223372036854775807) ∧ BytesAt W W.heap.size b.A b.b ∧
        ∀ j v, (naCells b)[j]? = some v → W.cell? ((a.add (i * 5)).add j) = some v) (fun i hi => by
      obtain ⟨cs', h1, h2⟩ := hel i hi
      rw [hc] at h1
      obtain ⟨_, hlen, hcell⟩ := World.cells?_some h1
      obtain ⟨xs, k, _, _, _, hxl, hfs⟩ := DataW.trod_struct he h2
      match xs, hxl, cs', hlen with
      | [y0, y1, y2, y3, y4], _, [v0, v1, v2, v3, v4], _ =>
        have g0 := hfs 0 f0 rfl
        have g1 := hfs 1 f1 rfl
        have g2 := hfs 2 f2 rfl
        have g3 := hfs 3 f3 rfl
        have g4 := hfs 4 f4 rfl
        simp [o0, o1, o2, o3, o4, c0, c1, c2, c3, c4] at g0 g1 g2 g3 g4
        obtain ⟨z0, e0, _, w0⟩ := DataW.trod_int u0 g0
        obtain ⟨z1, e1, _, w1⟩ := DataW.trod_int u1 g1
        obtain ⟨z2, e2, _, w2⟩ := DataW.trod_int u2 g2
        obtain ⟨z3, e3, _⟩ := DataW.trod_bool u3 g3
        obtain ⟨A4, l4, k4, rfl, r4⟩ := cell_bytes u4 uO cO g4
        obtain rfl : v0 = .int .i64 z0 := by simpa using e0
        obtain rfl : v1 = .int .i64 z1 := by simpa using e1
        obtain rfl : v2 = .int .i64 z2 := by simpa using e2
        obtain rfl : v3 = .bool z3 := by simpa using e3
        refine ⟨⟨z0, z1, z2, z3, l4, A4, k4⟩, bounds_i64 w1, bounds_i64 w2, r4, fun j v hv => ?_⟩
        have hj : j < 5 := by
          have := (List.getElem?_eq_some_iff.1 hv).1
          simpa [naCells] using this
        rw [hcell j hj, ← hv]
        rfl)
    have hlen : ((List.range len).map q).length = len := by simp
    have hat : ∀ {k : Nat} {p : NaM}, ((List.range len).map q)[k]? = some p → k < len ∧ p = q k := fun {k p} hp => by
      rw [List.getElem?_eq_some_iff] at hp
      obtain ⟨h1, h2⟩ := hp
      simp at h1 h2
      exact ⟨h1, h2.symm⟩
    have hmem : ∀ m, m ∈ (List.range len).map q → ∃ k, k < len ∧ m = q k := fun m hm => by
      simp only [List.mem_map, List.mem_range] at hm
      obtain ⟨k, hk, rfl⟩ := hm
      exact ⟨k, hk, rfl⟩
    refine ⟨some a, (List.range len).map q, m, by rw [hlen], by rw [hlen]; exact hl, hm, ⟨fun hne => ?_, fun m hm => ?_, fun m hm => ?_, fun m hm => ?_⟩, (by intro h; cases h)⟩
    · have hpos : 0 < len := by
        rcases Nat.eq_zero_or_pos len with h0 | h0
        · subst h0; exact absurd rfl hne
        · exact h0
      refine ⟨a, rfl, ?_, fun k u hu => ?_⟩
      · have := cell_lt ((hq 0 (by omega)).2.2.2 0 _ rfl)
        rwa [Go.Proofs.Ytplfhlmipdlmnaa.block_add, Go.Proofs.Ytplfhlmipdlmnaa.block_add] at this
      · obtain ⟨hk, rfl⟩ := hat hu
        exact (hq k (by omega)).2.2.2
    · obtain ⟨k, hk, rfl⟩ := hmem m hm
      exact (hq k (by omega)).2.2.1
    · obtain ⟨k, hk, rfl⟩ := hmem m hm
      exact (hq k (by omega)).1
    · obtain ⟨k, hk, rfl⟩ := hmem m hm
      exact (hq k (by omega)).2.1
end
end Go.Proofs.Ytplfhlmipdlmnaa
