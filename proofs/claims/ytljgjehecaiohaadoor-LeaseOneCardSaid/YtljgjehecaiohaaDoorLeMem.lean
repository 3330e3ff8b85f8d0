/-
  What came in to the lease's laws: a promise, slices of ticks and of acts. Conditions: none.
-/
import Derived.Test.YtljgjehecaiohaaDoorTkMem
import Derived.Test.YtljgjehecaiohaaDoorShellCells
import Derived.Test.YtljgjehecaiohaaDoorBa
namespace Go.Proofs.YtljgjehecaiohaaDoor
open Go.ChangeShapes Go.WideShapes Go.ChangeAt Go.RowKit Go.Deep

/-- a tick of two clocks -/
structure TcM where
  a : Int
  g : Int
instance : Inhabited TcM := ⟨⟨0, 0⟩⟩
def tcCells (m : TcM) : List Value := [.int .i64 m.a, .int .i64 m.g]
def TcM.In (m : TcM) : Prop := In64 m.a ∧ In64 m.g
/-- an act of three nodes -/
structure LaM where
  kind : Int
  node : Int
  to : Int
  i : Int
  by_ : T3
instance : Inhabited LaM := ⟨⟨0, 0, 0, 0, ⟨0, 0, 0⟩⟩⟩
def laCells (m : LaM) : List Value := [.int .i64 m.kind, .int .i64 m.node, .int .i64 m.to, .int .i64 m.i, .int .i64 m.by_.a, .int .i64 m.by_.b, .int .i64 m.by_.c]
def LaM.In (m : LaM) : Prop := In64 m.kind ∧ In64 m.node ∧ In64 m.to ∧ In64 m.i ∧ m.by_.In

/-- the slice at A0 reads as the ticks l, below block B -/
structure TcsAt (w : World) (B : Nat) (A0 : Option Addr) (l : List TcM) : Prop where
  at_ : l ≠ [] → ∃ ad, A0 = some ad ∧ ad.block < B ∧ ∀ k m, l[k]? = some m → ∀ j v, (tcCells m)[j]? = some v → w.cell? ((ad.add (k * 2)).add j) = some v
  in_ : ∀ m, m ∈ l → m.In
theorem TcsAt.below {w w' : World} {B : Nat} {A0 : Option Addr} {l : List TcM} (h : TcsAt w B A0 l) (hb : Below B w w') : TcsAt w' B A0 l :=
  ⟨fun hne => by
    obtain ⟨ad, e, hB, hc⟩ := h.at_ hne
    exact ⟨ad, e, hB, fun k m hm j v hv => (hb.cell (by rw [block_add, block_add]; exact hB)).trans (hc k m hm j v hv)⟩, h.in_⟩
/-- the cells of the one at k -/
theorem TcsAt.row {w wr : World} {A0 : Option Addr} {l : List TcM} {m : TcM} {k : Nat} (hA : TcsAt w w.heap.size A0 l) (hb : Below w.heap.size w wr) (hm : l[k]? = some m) : ∃ ad, A0 = some ad ∧ ∀ j v, (tcCells m)[j]? = some v → wr.cell? ((ad.add (k * 2)).add j) = some v := by
  obtain ⟨ad, e, _, hc⟩ := (hA.below hb).at_ (by rintro rfl; simp at hm)
  exact ⟨ad, e, hc k m hm⟩
/-- the slice at A0 reads as the acts l, below block B -/
structure LasAt (w : World) (B : Nat) (A0 : Option Addr) (l : List LaM) : Prop where
  at_ : l ≠ [] → ∃ ad, A0 = some ad ∧ ad.block < B ∧ ∀ k m, l[k]? = some m → ∀ j v, (laCells m)[j]? = some v → w.cell? ((ad.add (k * 7)).add j) = some v
  in_ : ∀ m, m ∈ l → m.In
theorem LasAt.below {w w' : World} {B : Nat} {A0 : Option Addr} {l : List LaM} (h : LasAt w B A0 l) (hb : Below B w w') : LasAt w' B A0 l :=
  ⟨fun hne => by
    obtain ⟨ad, e, hB, hc⟩ := h.at_ hne
    exact ⟨ad, e, hB, fun k m hm j v hv => (hb.cell (by rw [block_add, block_add]; exact hB)).trans (hc k m hm j v hv)⟩, h.in_⟩
/-- the cells of the one at k -/
theorem LasAt.row {w wr : World} {A0 : Option Addr} {l : List LaM} {m : LaM} {k : Nat} (hA : LasAt w w.heap.size A0 l) (hb : Below w.heap.size w wr) (hm : l[k]? = some m) : ∃ ad, A0 = some ad ∧ ∀ j v, (laCells m)[j]? = some v → wr.cell? ((ad.add (k * 7)).add j) = some v := by
  obtain ⟨ad, e, _, hc⟩ := (hA.below hb).at_ (by rintro rfl; simp at hm)
  exact ⟨ad, e, hc k m hm⟩
section
variable {H : Type} {enc : TypeId × Value → H} {P : Program} {w : World} {base : Nat} {spare : Nat → Bool} {held : Bool}
/-- a promise that came in -/
theorem open_prom {r : Reach} {b0 : Nat} {t : TypeId} {f0 f1 : Field} {v : Value} {d : DataW H} {p : List MemPlace} (he : P.underlying t = some (.struct #[f0, f1])) (hC : P.cellsOf t = 2)
    (o : f0.offset = 0 ∧ f1.offset = 1) (c : P.cellsOf f0.type = 1 ∧ P.cellsOf f1.type = 1) (u0 : P.underlying f0.type = some (.int .i64)) (u1 : P.underlying f1.type = some (.int .i64))
    (hv : Value.okWide P w r b0 t v) (h : DataW.Trod enc P w base spare held t v d p) : ∃ a b : Int, In64 a ∧ In64 b ∧ v = .agg #[.int .i64 a, .int .i64 b] := by
  obtain ⟨o0, o1⟩ := o
  obtain ⟨c0, c1⟩ := c
  obtain ⟨cs, rfl, hsz⟩ := okWide_struct he hv
  rw [hC] at hsz
  obtain ⟨fuel, hf⟩ := h
  obtain ⟨xs, k, _, _, _, hxl, hfs⟩ := DataW.trod_struct he hf
  rcases cs with ⟨l⟩
  match l, hsz, xs, hxl with
  | [v0, v1], _, [y0, y1], _ =>
    have g0 := hfs 0 f0 rfl
    have g1 := hfs 1 f1 rfl
    simp [o0, o1, c0, c1, Value.cells] at g0 g1
    obtain ⟨z0, e0, _, w0⟩ := DataW.trod_int u0 g0
    obtain ⟨z1, e1, _, w1⟩ := DataW.trod_int u1 g1
    obtain rfl : v0 = .int .i64 z0 := by simpa using e0
    obtain rfl : v1 = .int .i64 z1 := by simpa using e1
    exact ⟨z0, z1, bounds_i64 w0, bounds_i64 w1, rfl⟩

theorem open_tcsAt {W : World} {base : Nat} {v : Value} {d : DataW H} {p : List MemPlace} {tS tE : TypeId} {f0 f1 : Field} (ht : P.underlying tS = some (.slice tE)) (hc : P.cellsOf tE = 2)
    (he : P.underlying tE = some (.struct #[f0, f1])) (o : f0.offset = 0 ∧ f1.offset = 1) (c : P.cellsOf f0.type = 1 ∧ P.cellsOf f1.type = 1)
    (u0 : P.underlying f0.type = some (.int .i64)) (u1 : P.underlying f1.type = some (.int .i64))
    (hval : Value.okWide P W .any base tS v) (h : DataW.Trod enc P W 0 (fun _ => true) true tS v d p) :
    ∃ (A : Option Addr) (l : List TcM) (c : Nat), v = .slice A l.length c ∧ l.length ≤ c ∧ c ≤ maxLen ∧ TcsAt W W.heap.size A l ∧ (A = none → l = [] ∧ c = 0) := by
  obtain ⟨o0, o1⟩ := o
  obtain ⟨c0, c1⟩ := c
  obtain ⟨a1, len, cap, rfl⟩ := okWide_slice ht hval
  obtain ⟨fuel, hf⟩ := h
  rcases open_slice ht hf with ⟨hcs, hx⟩ | ⟨a, len', cap', m, n, D, Pl, hcs, _, hl, hm, hmm, hx, hel⟩
  · simp [Value.cells] at hcs
    obtain ⟨rfl, rfl, rfl⟩ := hcs
    exact ⟨none, [], 0, rfl, Nat.le_refl _, Nat.zero_le _, ⟨fun h => absurd rfl h, by simp⟩, fun _ => ⟨rfl, rfl⟩⟩
  · simp [Value.cells] at hcs
    obtain ⟨rfl, rfl, rfl⟩ := hcs
    simp only [if_true] at hmm
    subst hmm
    obtain ⟨q, hq⟩ := choose_lt (α := TcM) (p := fun i b => b.In ∧ ∀ j v, (tcCells b)[j]? = some v → W.cell? ((a.add (i * 2)).add j) = some v) (fun i hi => by
      obtain ⟨cs', h1, h2⟩ := hel i hi
      rw [hc] at h1
      obtain ⟨_, hlen, hcell⟩ := World.cells?_some h1
      obtain ⟨xs, k, _, _, _, hxl, hfs⟩ := DataW.trod_struct he h2
      match xs, hxl, cs', hlen with
      | [y0, y1], _, [v0, v1], _ =>
        have g0 := hfs 0 f0 rfl
        have g1 := hfs 1 f1 rfl
        simp [o0, o1, c0, c1] at g0 g1
        obtain ⟨z0, e0, _, w0⟩ := DataW.trod_int u0 g0
        obtain ⟨z1, e1, _, w1⟩ := DataW.trod_int u1 g1
        obtain rfl : v0 = .int .i64 z0 := by simpa using e0
        obtain rfl : v1 = .int .i64 z1 := by simpa using e1
        refine ⟨⟨z0, z1⟩, ⟨bounds_i64 w0, bounds_i64 w1⟩, fun j v hv => ?_⟩
        have hj : j < 2 := by
          have := (List.getElem?_eq_some_iff.1 hv).1
          simpa [tcCells] using this
        rw [hcell j hj, ← hv]
        rfl)
    have hlen : ((List.range len).map q).length = len := by simp
    have hat : ∀ {k : Nat} {p : TcM}, ((List.range len).map q)[k]? = some p → k < len ∧ p = q k := fun {k p} hp => by
      rw [List.getElem?_eq_some_iff] at hp
      obtain ⟨h1, h2⟩ := hp
      simp at h1 h2
      exact ⟨h1, h2.symm⟩
    have hmem : ∀ m, m ∈ (List.range len).map q → ∃ k, k < len ∧ m = q k := fun m hm => by
      simp only [List.mem_map, List.mem_range] at hm
      obtain ⟨k, hk, rfl⟩ := hm
      exact ⟨k, hk, rfl⟩
    refine ⟨some a, (List.range len).map q, m, by rw [hlen], by rw [hlen]; exact hl, hm, ⟨fun hne => ?_, fun m hm => ?_⟩, (by intro h; cases h)⟩
    · have hpos : 0 < len := by
        rcases Nat.eq_zero_or_pos len with h0 | h0
        · subst h0; exact absurd rfl hne
        · exact h0
      refine ⟨a, rfl, ?_, fun k u hu => ?_⟩
      · have := cell_lt ((hq 0 (by omega)).2 0 _ rfl)
        rwa [Go.Proofs.YtljgjehecaiohaaDoor.block_add, Go.Proofs.YtljgjehecaiohaaDoor.block_add] at this
      · obtain ⟨hk, rfl⟩ := hat hu
        exact (hq k (by omega)).2
    · obtain ⟨k, hk, rfl⟩ := hmem m hm
      exact (hq k (by omega)).1
theorem open_lasAt {W : World} {base : Nat} {v : Value} {d : DataW H} {p : List MemPlace} {tS tE : TypeId} {tI : TypeId} {f0 f1 f2 f3 f4 : Field} (ht : P.underlying tS = some (.slice tE)) (hc : P.cellsOf tE = 7)
    (he : P.underlying tE = some (.struct #[f0, f1, f2, f3, f4])) (o : f0.offset = 0 ∧ f1.offset = 1 ∧ f2.offset = 2 ∧ f3.offset = 3 ∧ f4.offset = 4) (c : P.cellsOf f0.type = 1 ∧ P.cellsOf f1.type = 1 ∧ P.cellsOf f2.type = 1 ∧ P.cellsOf f3.type = 1 ∧ P.cellsOf f4.type = 3)
    (u0 : P.underlying f0.type = some (.int .i64)) (u1 : P.underlying f1.type = some (.int .i64)) (u2 : P.underlying f2.type = some (.int .i64)) (u3 : P.underlying f3.type = some (.int .i64)) (u4 : P.underlying f4.type = some (.array 3 tI)) (uI : P.underlying tI = some (.int .i64)) (cI : P.cellsOf tI = 1)
    (hval : Value.okWide P W .any base tS v) (h : DataW.Trod enc P W 0 (fun _ => true) true tS v d p) :
    ∃ (A : Option Addr) (l : List LaM) (c : Nat), v = .slice A l.length c ∧ l.length ≤ c ∧ c ≤ maxLen ∧ LasAt W W.heap.size A l ∧ (A = none → l = [] ∧ c = 0) := by
  obtain ⟨o0, o1, o2, o3, o4⟩ := o
  obtain ⟨c0, c1, c2, c3, c4⟩ := c
  obtain ⟨a1, len, cap, rfl⟩ := okWide_slice ht hval
  obtain ⟨fuel, hf⟩ := h
  rcases open_slice ht hf with ⟨hcs, hx⟩ | ⟨a, len', cap', m, n, D, Pl, hcs, _, hl, hm, hmm, hx, hel⟩
  · simp [Value.cells] at hcs
    obtain ⟨rfl, rfl, rfl⟩ := hcs
    exact ⟨none, [], 0, rfl, Nat.le_refl _, Nat.zero_le _, ⟨fun h => absurd rfl h, by simp⟩, fun _ => ⟨rfl, rfl⟩⟩
  · simp [Value.cells] at hcs
    obtain ⟨rfl, rfl, rfl⟩ := hcs
    simp only [if_true] at hmm
    subst hmm
    obtain ⟨q, hq⟩ := choose_lt (α := LaM) (p := fun i b => b.In ∧ ∀ j v, (laCells b)[j]? = some v → W.cell? ((a.add (i * 7)).add j) = some v) (fun i hi => by
      obtain ⟨cs', h1, h2⟩ := hel i hi
      rw [hc] at h1
      obtain ⟨_, hlen, hcell⟩ := World.cells?_some h1
      obtain ⟨xs, k, _, _, _, hxl, hfs⟩ := DataW.trod_struct he h2
      match xs, hxl, cs', hlen with
      | [y0, y1, y2, y3, y4], _, [v0, v1, v2, v3, v4, v5, v6], _ =>
        have g0 := hfs 0 f0 rfl
        have g1 := hfs 1 f1 rfl
        have g2 := hfs 2 f2 rfl
        have g3 := hfs 3 f3 rfl
        have g4 := hfs 4 f4 rfl
        simp [o0, o1, o2, o3, o4, c0, c1, c2, c3, c4] at g0 g1 g2 g3 g4
        obtain ⟨z0, e0, _, w0⟩ := DataW.trod_int u0 g0
        obtain ⟨z1, e1, _, w1⟩ := DataW.trod_int u1 g1
        obtain ⟨z2, e2, _, w2⟩ := DataW.trod_int u2 g2
        obtain ⟨z3, e3, _, w3⟩ := DataW.trod_int u3 g3
        obtain rfl : v0 = .int .i64 z0 := by simpa using e0
        obtain rfl : v1 = .int .i64 z1 := by simpa using e1
        obtain rfl : v2 = .int .i64 z2 := by simpa using e2
        obtain rfl : v3 = .int .i64 z3 := by simpa using e3
        obtain ⟨xs4, k4, _, _, _, _, hel4⟩ := DataW.trod_array u4 g4
        have key : ∀ i, i < 3 → ∃ b : Int, In64 b ∧ ([v4, v5, v6].drop i).take 1 = [.int .i64 b] := fun i hi => by
          have h1 := hel4 i hi
          rw [cI, Nat.mul_one] at h1
          obtain ⟨b, h2, _, hw⟩ := DataW.trod_int uI (h1.trans (List.getElem?_eq_getElem (by omega)))
          exact ⟨b, bounds_i64 hw, h2⟩
        obtain ⟨q0, i0, j0⟩ := key 0 (by decide)
        obtain ⟨q1, i1, j1⟩ := key 1 (by decide)
        obtain ⟨q2, i2, j2⟩ := key 2 (by decide)
        simp at j0 j1 j2
        subst j0; subst j1; subst j2
        refine ⟨⟨z0, z1, z2, z3, ⟨q0, q1, q2⟩⟩, ⟨bounds_i64 w0, bounds_i64 w1, bounds_i64 w2, bounds_i64 w3, i0, i1, i2⟩, fun j v hv => ?_⟩
        have hj : j < 7 := by
          have := (List.getElem?_eq_some_iff.1 hv).1
          simpa [laCells] using this
        rw [hcell j hj, ← hv]
        rfl)
    have hlen : ((List.range len).map q).length = len := by simp
    have hat : ∀ {k : Nat} {p : LaM}, ((List.range len).map q)[k]? = some p → k < len ∧ p = q k := fun {k p} hp => by
      rw [List.getElem?_eq_some_iff] at hp
      obtain ⟨h1, h2⟩ := hp
      simp at h1 h2
      exact ⟨h1, h2.symm⟩
    have hmem : ∀ m, m ∈ (List.range len).map q → ∃ k, k < len ∧ m = q k := fun m hm => by
      simp only [List.mem_map, List.mem_range] at hm
      obtain ⟨k, hk, rfl⟩ := hm
      exact ⟨k, hk, rfl⟩
    refine ⟨some a, (List.range len).map q, m, by rw [hlen], by rw [hlen]; exact hl, hm, ⟨fun hne => ?_, fun m hm => ?_⟩, (by intro h; cases h)⟩
    · have hpos : 0 < len := by
        rcases Nat.eq_zero_or_pos len with h0 | h0
        · subst h0; exact absurd rfl hne
        · exact h0
      refine ⟨a, rfl, ?_, fun k u hu => ?_⟩
      · have := cell_lt ((hq 0 (by omega)).2 0 _ rfl)
        rwa [Go.Proofs.YtljgjehecaiohaaDoor.block_add, Go.Proofs.YtljgjehecaiohaaDoor.block_add] at this
      · obtain ⟨hk, rfl⟩ := hat hu
        exact (hq k (by omega)).2
    · obtain ⟨k, hk, rfl⟩ := hmem m hm
      exact (hq k (by omega)).1
end
end Go.Proofs.YtljgjehecaiohaaDoor
