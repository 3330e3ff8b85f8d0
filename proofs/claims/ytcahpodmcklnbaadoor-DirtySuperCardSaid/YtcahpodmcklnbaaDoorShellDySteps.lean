/-
  A slice of steps (structs of three numbers, a set, a slice of Bools, a number) that came in. Conditions: none.
-/
import Derived.Test.YtcahpodmcklnbaaDoorShellCells
import Derived.Test.YtcahpodmcklnbaaDoorDySteps
namespace Go.Proofs.YtcahpodmcklnbaaDoor
open Go.ChangeShapes Go.WideShapes Go.ChangeAt Go.RowKit Go.Deep
instance : Inhabited D10M := ⟨⟨0, 0, 0, 0, [], none, 0, 0⟩⟩
section
variable {H : Type} {enc : TypeId × Value → H} {P : Program}
/-- a slice of steps that came in -/
theorem open_d10sAt {W : World} {base : Nat} {v : Value} {d : DataW H} {p : List MemPlace} {tS tE tO : TypeId} {f0 f1 f2 f3 f4 f5 : Field} (ht : P.underlying tS = some (.slice tE)) (he : P.underlying tE = some (.struct #[f0, f1, f2, f3, f4, f5])) (hc : P.cellsOf tE = 6)
    (o : f0.offset = 0 ∧ f1.offset = 1 ∧ f2.offset = 2 ∧ f3.offset = 3 ∧ f4.offset = 4 ∧ f5.offset = 5) (c : P.cellsOf f0.type = 1 ∧ P.cellsOf f1.type = 1 ∧ P.cellsOf f2.type = 1 ∧ P.cellsOf f3.type = 1 ∧ P.cellsOf f4.type = 1 ∧ P.cellsOf f5.type = 1)
    (u0 : P.underlying f0.type = some (.int .i64)) (u1 : P.underlying f1.type = some (.int .i64)) (u2 : P.underlying f2.type = some (.int .i64)) (u3 : P.underlying f3.type = some (.int .u64)) (u4 : P.underlying f4.type = some (.slice tO)) (uO : P.underlying tO = some .bool) (cO : P.cellsOf tO = 1) (u5 : P.underlying f5.type = some (.int .i64))
    (hval : Value.okWide P W .any base tS v) (h : DataW.Trod enc P W 0 (fun _ => true) true tS v d p) :
    ∃ (A : Option Addr) (l : List D10M) (c : Nat), v = .slice A l.length c ∧ l.length ≤ c ∧ c ≤ maxLen ∧ D10sAt W W.heap.size A l ∧ (A = none → l = [] ∧ c = 0) := by
  obtain ⟨o0, o1, o2, o3, o4, o5⟩ := o
  obtain ⟨c0, c1, c2, c3, c4, c5⟩ := c
  obtain ⟨a1, len, cap, rfl⟩ := okWide_slice ht hval
  obtain ⟨fuel, hf⟩ := h
  rcases open_slice ht hf with ⟨hcs, hx⟩ | ⟨a, len', cap', m, n, D, Pl, hcs, _, hl, hm, hmm, hx, hel⟩
  · simp [Value.cells] at hcs
    obtain ⟨rfl, rfl, rfl⟩ := hcs
    exact ⟨none, [], 0, rfl, Nat.le_refl _, Nat.zero_le _, ⟨fun h => absurd rfl h, by simp, by simp, by simp, by simp⟩, fun _ => ⟨rfl, rfl⟩⟩
  · simp [Value.cells] at hcs
    obtain ⟨rfl, rfl, rfl⟩ := hcs
    simp only [if_true] at hmm
    subst hmm
    obtain ⟨q, hq⟩ := choose_lt (α := D10M) (p := fun i b => (-9223372036854775808 ≤ b.stop ∧ b.stop ≤ 9223372036854775807) ∧ b.v < 2 ^ 64 ∧ b.keeps.length ≤ b.ck ∧ RowAt W W.heap.size b.AK (b.keeps.map Value.bool) ∧
        ∀ j v, (d10Cells b)[j]? = some v → W.cell? ((a.add (i * 6)).add j) = some v) (fun i hi => by
      obtain ⟨cs', h1, h2⟩ := hel i hi
      rw [hc] at h1
      obtain ⟨_, hlen, hcell⟩ := World.cells?_some h1
      obtain ⟨xs, k, _, _, _, hxl, hfs⟩ := DataW.trod_struct he h2
      match xs, hxl, cs', hlen with
      | [y0, y1, y2, y3, y4, y5], _, [v0, v1, v2, v3, v4, v5], _ =>
        have g0 := hfs 0 f0 rfl
        have g1 := hfs 1 f1 rfl
        have g2 := hfs 2 f2 rfl
        have g3 := hfs 3 f3 rfl
        have g4 := hfs 4 f4 rfl
        have g5 := hfs 5 f5 rfl
        simp [o0, o1, o2, o3, o4, o5, c0, c1, c2, c3, c4, c5] at g0 g1 g2 g3 g4 g5
        obtain ⟨z0, e0, _, w0⟩ := DataW.trod_int u0 g0
        obtain ⟨z1, e1, _, w1⟩ := DataW.trod_int u1 g1
        obtain ⟨z2, e2, _, w2⟩ := DataW.trod_int u2 g2
        obtain ⟨z3, e3, _, w3⟩ := DataW.trod_int u3 g3
        have b3 := bounds_u64 w3
        obtain ⟨u3, rfl⟩ : ∃ u : Nat, z3 = (u : Int) := ⟨z3.toNat, by omega⟩
        obtain ⟨A4, l4, k4, rfl, q4, r4⟩ := cell_boolsC u4 uO cO g4
        obtain ⟨z5, e5, _, w5⟩ := DataW.trod_int u5 g5
        obtain rfl : v0 = .int .i64 z0 := by simpa using e0
        obtain rfl : v1 = .int .i64 z1 := by simpa using e1
        obtain rfl : v2 = .int .i64 z2 := by simpa using e2
        obtain rfl : v3 = .int .u64 (u3 : Int) := by simpa using e3
        obtain rfl : v5 = .int .i64 z5 := by simpa using e5
        refine ⟨⟨z0, z1, z2, u3, l4, A4, k4, z5⟩, bounds_i64 w2, by show u3 < 2 ^ 64; omega, q4, r4, fun j v hv => ?_⟩
        have hj : j < 6 := by
          have := (List.getElem?_eq_some_iff.1 hv).1
          simpa [d10Cells] using this
        rw [hcell j hj, ← hv]
        rfl)
    have hlen : ((List.range len).map q).length = len := by simp
    have hat : ∀ {k : Nat} {p : D10M}, ((List.range len).map q)[k]? = some p → k < len ∧ p = q k := fun {k p} hp => by
      rw [List.getElem?_eq_some_iff] at hp
      obtain ⟨h1, h2⟩ := hp
      simp at h1 h2
      exact ⟨h1, h2.symm⟩
    have hmem : ∀ m, m ∈ (List.range len).map q → ∃ k, k < len ∧ m = q k := fun m hm => by
      simp only [List.mem_map, List.mem_range] at hm
      obtain ⟨k, hk, rfl⟩ := hm
      exact ⟨k, hk, rfl⟩
    refine ⟨some a, (List.range len).map q, m, by rw [hlen], by rw [hlen]; exact hl, hm, ⟨fun hne => ?_, fun m hm => ?_, fun m hm => ?_, fun m hm => ?_, fun m hm => ?_⟩, (by intro h; cases h)⟩
    · have hpos : 0 < len := by
        rcases Nat.eq_zero_or_pos len with h0 | h0
        · subst h0; exact absurd rfl hne
        · exact h0
      refine ⟨a, rfl, ?_, fun k u hu => ?_⟩
      · have := cell_lt ((hq 0 (by omega)).2.2.2.2 0 _ rfl)
        rwa [Go.Proofs.YtcahpodmcklnbaaDoor.block_add, Go.Proofs.YtcahpodmcklnbaaDoor.block_add] at this
      · obtain ⟨hk, rfl⟩ := hat hu
        exact (hq k (by omega)).2.2.2.2
    · obtain ⟨k, hk, rfl⟩ := hmem m hm
      exact (hq k (by omega)).2.2.2.1
    · obtain ⟨k, hk, rfl⟩ := hmem m hm
      exact (hq k (by omega)).1
    · obtain ⟨k, hk, rfl⟩ := hmem m hm
      exact (hq k (by omega)).2.1
    · obtain ⟨k, hk, rfl⟩ := hmem m hm
      exact (hq k (by omega)).2.2.1
end
end Go.Proofs.YtcahpodmcklnbaaDoor
