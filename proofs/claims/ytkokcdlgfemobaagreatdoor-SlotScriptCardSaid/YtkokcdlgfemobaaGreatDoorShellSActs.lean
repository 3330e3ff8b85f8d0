/-
  A slice of calls of a script of slots that came in. Conditions: none.
-/
import Derived.Test.YtkokcdlgfemobaaGreatDoorShellHa
import Derived.Test.YtkokcdlgfemobaaGreatDoorSsActs
import Derived.Deep.Strs
namespace Go.Proofs.YtkokcdlgfemobaaGreatDoor
open Go.ChangeShapes Go.WideShapes Go.ChangeAt Go.RowKit Go.Deep
section
variable {H : Type} {enc : TypeId × Value → H} {P : Program}
/-- a slice of calls that came in -/
theorem open_sactsAt {W : World} {base : Nat} {v : Value} {d : DataW H} {p : List MemPlace} {tS tE tB tO : TypeId} {f0 f1 f2 f3 f4 f5 : Field} (ht : P.underlying tS = some (.slice tE)) (hx : P.underlying tE = some (.struct #[f0, f1, f2, f3, f4, f5])) (hc : P.cellsOf tE = 6)
    (o : f0.offset = 0 ∧ f1.offset = 1 ∧ f2.offset = 2 ∧ f3.offset = 3 ∧ f4.offset = 4 ∧ f5.offset = 5) (c : P.cellsOf f0.type = 1 ∧ P.cellsOf f1.type = 1 ∧ P.cellsOf f2.type = 1 ∧ P.cellsOf f3.type = 1 ∧ P.cellsOf f4.type = 1 ∧ P.cellsOf f5.type = 1)
    (u0 : P.underlying f0.type = some (.int .i64)) (u1 : P.underlying f1.type = some (.int .i64)) (u2 : P.underlying f2.type = some (.int .i64)) (u3 : P.underlying f3.type = some (.int .u8)) (u4 : P.underlying f4.type = some (.slice tB)) (uB : P.underlying tB = some (.int .u8)) (cB : P.cellsOf tB = 1)
    (u5 : P.underlying f5.type = some (.slice tO)) (uO : P.underlying tO = some .bool) (cO : P.cellsOf tO = 1)
    (hval : Value.okWide P W .any base tS v) (h : DataW.Trod enc P W 0 (fun _ => true) true tS v d p) :
    ∃ (A : Option Addr) (l : List HaM) (c : Nat), v = .slice A l.length c ∧ l.length ≤ c ∧ c ≤ maxLen ∧ SasAt W W.heap.size A l ∧ (A = none → l = [] ∧ c = 0) := by
  obtain ⟨a1, len, cap, rfl⟩ := okWide_slice ht hval
  obtain ⟨fuel, hf⟩ := h
  rcases open_slice ht hf with ⟨hcs, hx⟩ | ⟨a, len', cap', m, n, D, Pl, hcs, _, hl, hm, hmm, hx2, hel⟩
  · simp [Value.cells] at hcs
    obtain ⟨rfl, rfl, rfl⟩ := hcs
    exact ⟨none, [], 0, rfl, Nat.le_refl _, Nat.zero_le _, ⟨fun h => absurd rfl h, by simp⟩, fun _ => ⟨rfl, rfl⟩⟩
  · simp [Value.cells] at hcs
    obtain ⟨rfl, rfl, rfl⟩ := hcs
    simp only [if_true] at hmm
    subst hmm
    obtain ⟨q, hq⟩ := choose_lt (α := HaM) (p := fun i b => HaIn W W.heap.size b ∧ ∀ j v, (haCells b)[j]? = some v → W.cell? ((a.add (i * 6)).add j) = some v) (fun i hi => by
      obtain ⟨cs', h1, h2⟩ := hel i hi
      rw [hc] at h1
      obtain ⟨_, hlen, hcell⟩ := World.cells?_some h1
      obtain ⟨hm, eh, hin⟩ := trod_ha hx o c u0 u1 u2 u3 u4 uB cB u5 uO cO hlen h2
      refine ⟨hm, hin, fun j v hv => ?_⟩
      have hj : j < 6 := by
        have := (List.getElem?_eq_some_iff.1 hv).1
        simpa [haCells] using this
      rw [hcell j hj, ← hv, eh])
    have hlen : ((List.range len).map q).length = len := by simp
    have hat : ∀ {k : Nat} {p : HaM}, ((List.range len).map q)[k]? = some p → k < len ∧ p = q k := fun {k p} hp => by
      rw [List.getElem?_eq_some_iff] at hp
      obtain ⟨h1, h2⟩ := hp
      simp at h1 h2
      exact ⟨h1, h2.symm⟩
    refine ⟨some a, (List.range len).map q, m, by rw [hlen], by rw [hlen]; exact hl, hm, ⟨fun hne => ?_, fun m hm => ?_⟩, (by intro h; cases h)⟩
    · have hpos : 0 < len := by
        rcases Nat.eq_zero_or_pos len with h0 | h0
        · subst h0; exact absurd rfl hne
        · exact h0
      refine ⟨a, rfl, ?_, fun k u hu => ?_⟩
      · have := cell_lt ((hq 0 (by omega)).2 0 _ rfl)
        rwa [Go.Proofs.YtkokcdlgfemobaaGreatDoor.block_add, Go.Proofs.YtkokcdlgfemobaaGreatDoor.block_add] at this
      · obtain ⟨hk, rfl⟩ := hat hu
        exact (hq k (by omega)).2
    · simp only [List.mem_map, List.mem_range] at hm
      obtain ⟨k, hk, rfl⟩ := hm
      exact (hq k (by omega)).1
end
end Go.Proofs.YtkokcdlgfemobaaGreatDoor
