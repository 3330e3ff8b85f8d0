/-
  Arrays of three numbers as they came in, and slices of them. Conditions: none.
-/
import Derived.Test.YtofecokbpopdnaaShellBools6
import Derived.Test.YtofecokbpopdnaaShellCells
import Derived.Test.YtofecokbpopdnaaBa
namespace Go.Proofs.Ytofecokbpopdnaa
open Go.ChangeShapes Go.WideShapes Go.ChangeAt Go.RowKit Go.Deep

/-- three numbers -/
structure T3 where
  a : Int
  b : Int
  c : Int
deriving DecidableEq
instance : Inhabited T3 := ⟨⟨0, 0, 0⟩⟩
def t3Cells (t : T3) : List Value := [.int .i64 t.a, .int .i64 t.b, .int .i64 t.c]
def In64 (x : Int) : Prop := -9223372036854775808 ≤ x ∧ x ≤ 9223372036854775807
def T3.In (t : T3) : Prop := In64 t.a ∧ In64 t.b ∧ In64 t.c
/-- the slice at A0 reads as the arrays l, below block B -/
structure TksAt (w : World) (B : Nat) (A0 : Option Addr) (l : List T3) : Prop where
  at_ : l ≠ [] → ∃ ad, A0 = some ad ∧ ad.block < B ∧ ∀ k m, l[k]? = some m → ∀ j v, (t3Cells m)[j]? = some v → w.cell? ((ad.add (k * 3)).add j) = some v
  in_ : ∀ m, m ∈ l → m.In
theorem TksAt.below {w w' : World} {B : Nat} {A0 : Option Addr} {l : List T3} (h : TksAt w B A0 l) (hb : Below B w w') : TksAt w' B A0 l :=
  ⟨fun hne => by
    obtain ⟨ad, e, hB, hc⟩ := h.at_ hne
    exact ⟨ad, e, hB, fun k m hm j v hv => (hb.cell (by rw [block_add, block_add]; exact hB)).trans (hc k m hm j v hv)⟩, h.in_⟩
theorem t3_one (m : T3) : ∀ v ∈ t3Cells m, v.oneCell' = true := by
  intro v hv
  simp only [t3Cells, List.mem_cons, List.not_mem_nil, or_false] at hv
  rcases hv with rfl | rfl | rfl <;> rfl
theorem t3_len (m : T3) : (t3Cells m).length = 3 := rfl
/-- the cells of the array at k -/
theorem tk_row {w wr : World} {A0 : Option Addr} {l : List T3} {m : T3} {k : Nat} (hA : TksAt w w.heap.size A0 l) (hb : Below w.heap.size w wr) (hm : l[k]? = some m) : ∃ ad, A0 = some ad ∧ ∀ j v, (t3Cells m)[j]? = some v → wr.cell? ((ad.add (k * 3)).add j) = some v := by
  obtain ⟨ad, e, _, hc⟩ := (hA.below hb).at_ (by rintro rfl; simp at hm)
  exact ⟨ad, e, hc k m hm⟩
section
variable {H : Type} {enc : TypeId × Value → H} {P : Program} {w : World} {base : Nat} {spare : Nat → Bool} {held : Bool}
/-- an array of three numbers that came in by value -/
theorem open_int3 {r : Reach} {b0 : Nat} {t e : TypeId} {v : Value} {d : DataW H} {p : List MemPlace} (ht : P.underlying t = some (.array 3 e)) (he : P.underlying e = some (.int .i64)) (hc : P.cellsOf e = 1) (hC : P.cellsOf t = 3)
    (hv : Value.okWide P w r b0 t v) (h : DataW.Trod enc P w base spare held t v d p) : ∃ m : T3, m.In ∧ v = .agg (t3Cells m).toArray := by
  obtain ⟨cs, rfl, hsz⟩ := okWide_array ht hv
  rw [hC] at hsz
  obtain ⟨fuel, hf⟩ := h
  obtain ⟨xs, m, _, _, _, hl, hel⟩ := DataW.trod_array ht hf
  rcases cs with ⟨l⟩
  match l, hsz with
  | [v0, v1, v2], _ =>
    have key : ∀ i, i < 3 → ∃ b : Int, In64 b ∧ ([v0, v1, v2].drop i).take 1 = [.int .i64 b] := fun i hi => by
      have h1 := hel i hi
      rw [hc, Nat.mul_one] at h1
      obtain ⟨b, h2, _, hw⟩ := DataW.trod_int he (h1.trans (List.getElem?_eq_getElem (by omega)))
      exact ⟨b, bounds_i64 hw, by simpa [Value.cells] using h2⟩
    obtain ⟨b0, i0, h0⟩ := key 0 (by decide)
    obtain ⟨b1, i1, h1⟩ := key 1 (by decide)
    obtain ⟨b2, i2, h2⟩ := key 2 (by decide)
    simp at h0 h1 h2
    subst h0; subst h1; subst h2
    exact ⟨⟨b0, b1, b2⟩, ⟨i0, i1, i2⟩, rfl⟩
/-- a slice of arrays of three numbers that came in -/
theorem open_tksAt {W : World} {base : Nat} {v : Value} {d : DataW H} {p : List MemPlace} {tS tE tI : TypeId} (ht : P.underlying tS = some (.slice tE)) (he : P.underlying tE = some (.array 3 tI)) (hc : P.cellsOf tE = 3)
    (u : P.underlying tI = some (.int .i64)) (c : P.cellsOf tI = 1)
    (hval : Value.okWide P W .any base tS v) (h : DataW.Trod enc P W 0 (fun _ => true) true tS v d p) :
    ∃ (A : Option Addr) (l : List T3) (c : Nat), v = .slice A l.length c ∧ l.length ≤ c ∧ c ≤ maxLen ∧ TksAt W W.heap.size A l ∧ (A = none → l = [] ∧ c = 0) := by
  obtain ⟨a1, len, cap, rfl⟩ := okWide_slice ht hval
  obtain ⟨fuel, hf⟩ := h
  rcases open_slice ht hf with ⟨hcs, hx⟩ | ⟨a, len', cap', m, n, D, Pl, hcs, _, hl, hm, hmm, hx, hel⟩
  · simp [Value.cells] at hcs
    obtain ⟨rfl, rfl, rfl⟩ := hcs
    exact ⟨none, [], 0, rfl, Nat.le_refl _, Nat.zero_le _, ⟨fun h => absurd rfl h, by simp⟩, fun _ => ⟨rfl, rfl⟩⟩
  · simp [Value.cells] at hcs
    obtain ⟨rfl, rfl, rfl⟩ := hcs
    simp only [if_true] at hmm
    subst hmm
    obtain ⟨q, hq⟩ := choose_lt (α := T3) (p := fun i b => b.In ∧ ∀ j v, (t3Cells b)[j]? = some v → W.cell? ((a.add (i * 3)).add j) = some v) (fun i hi => by
      obtain ⟨cs', h1, h2⟩ := hel i hi
      rw [hc] at h1
      obtain ⟨_, hlen, hcell⟩ := World.cells?_some h1
      obtain ⟨xs, k, _, _, _, hxl, hel2⟩ := DataW.trod_array he h2
      match cs', hlen with
      | [v0, v1, v2], _ =>
        have key : ∀ i, i < 3 → ∃ b : Int, In64 b ∧ ([v0, v1, v2].drop i).take 1 = [.int .i64 b] := fun i hi => by
          have h1 := hel2 i hi
          rw [c, Nat.mul_one] at h1
          obtain ⟨b, h2, _, hw⟩ := DataW.trod_int u (h1.trans (List.getElem?_eq_getElem (by omega)))
          exact ⟨b, bounds_i64 hw, h2⟩
        obtain ⟨z0, i0, e0⟩ := key 0 (by decide)
        obtain ⟨z1, i1, e1⟩ := key 1 (by decide)
        obtain ⟨z2, i2, e2⟩ := key 2 (by decide)
        simp at e0 e1 e2
        subst e0; subst e1; subst e2
        refine ⟨⟨z0, z1, z2⟩, ⟨i0, i1, i2⟩, fun j v hv => ?_⟩
        have hj : j < 3 := by
          have := (List.getElem?_eq_some_iff.1 hv).1
          simpa [t3Cells] using this
        rw [hcell j hj, ← hv]
        rfl)
    have hlen : ((List.range len).map q).length = len := by simp
    have hat : ∀ {k : Nat} {p : T3}, ((List.range len).map q)[k]? = some p → k < len ∧ p = q k := fun {k p} hp => by
      rw [List.getElem?_eq_some_iff] at hp
      obtain ⟨h1, h2⟩ := hp
      simp at h1 h2
      exact ⟨h1, h2.symm⟩
    have hmem : ∀ m, m ∈ (List.range len).map q → ∃ k, k < len ∧ m = q k := fun m hm => by
      simp only [List.mem_map, List.mem_range] at hm
      obtain ⟨k, hk, rfl⟩ := hm
      exact ⟨k, hk, rfl⟩
    refine ⟨some a, (List.range len).map q, m, by rw [hlen], by rw [hlen]; exact hl, hm, ⟨fun hne => ?_, fun m hm => ?_⟩, (by intro h; cases h)⟩
    · have hpos : 0 < len := by
        rcases Nat.eq_zero_or_pos len with h0 | h0
        · subst h0; exact absurd rfl hne
        · exact h0
      refine ⟨a, rfl, ?_, fun k u hu => ?_⟩
      · have := cell_lt ((hq 0 (by omega)).2 0 _ rfl)
        rwa [Go.Proofs.Ytofecokbpopdnaa.block_add, Go.Proofs.Ytofecokbpopdnaa.block_add] at this
      · obtain ⟨hk, rfl⟩ := hat hu
        exact (hq k (by omega)).2
    · obtain ⟨k, hk, rfl⟩ := hmem m hm
      exact (hq k (by omega)).1
end
end Go.Proofs.Ytofecokbpopdnaa
