/-
  A slice of numbers that comes in. Conditions: none.
-/
import Derived.Test.YtljgjehecaiohaaDoorShell
import Derived.Test.YtljgjehecaiohaaDoorBa
namespace Go.Proofs.YtljgjehecaiohaaDoor
open Go.ChangeShapes Go.WideShapes Go.ChangeAt Go.RowKit

section
variable {H : Type} {enc : TypeId × Value → H} {P : Program}
theorem open_intsAt {W : World} {base : Nat} {v : Value} {d : DataW H} {p : List MemPlace} {tS tE : TypeId} (ht : P.underlying tS = some (.slice tE)) (he : P.underlying tE = some (.int .i64)) (hc : P.cellsOf tE = 1)
    (hval : Value.okWide P W .any base tS v) (h : DataW.Trod enc P W 0 (fun _ => true) true tS v d p) :
    ∃ (A : Option Addr) (l : List Int) (c : Nat), v = .slice A l.length c ∧ l.length ≤ c ∧ c ≤ maxLen ∧ RowAt W W.heap.size A (iv l) ∧ (A = none → l = [] ∧ c = 0) := by
  obtain ⟨a1, len, cap, rfl⟩ := okWide_slice ht hval
  obtain ⟨fuel, hf⟩ := h
  rcases open_ints ht he hc hf with ⟨hcs, hx⟩ | ⟨a, len', cap', zs, hcs, _, hl, hm, hz, hx, hcell, hwz⟩
  · simp [Value.cells] at hcs
    obtain ⟨rfl, rfl, rfl⟩ := hcs
    exact ⟨none, [], 0, rfl, Nat.le_refl _, Nat.zero_le _, RowAt.none_, fun _ => ⟨rfl, rfl⟩⟩
  · simp [Value.cells] at hcs
    obtain ⟨rfl, rfl, rfl⟩ := hcs
    simp only [if_true] at hz
    have hlen : (zs.take len).length = len := by simp; omega
    refine ⟨some a, zs.take len, cap, by rw [hlen], by rw [hlen]; exact hl, hm, fun hne => ?_, by intro h; cases h⟩
    have hpos : 0 < len := by
      rcases Nat.eq_zero_or_pos len with h0 | h0
      · exact absurd (List.eq_nil_of_length_eq_zero (by rw [iv_length]; exact hlen.trans h0)) hne
      · exact h0
    have hlt : a.block < W.heap.size := by
      have := cell_lt (hcell 0 (by omega))
      rwa [Go.Proofs.YtljgjehecaiohaaDoor.block_add] at this
    refine ⟨a, rfl, hlt, fun k u hu => ?_⟩
    have hk : k < len := by have := (List.getElem?_eq_some_iff.1 hu).1; rw [iv_length, hlen] at this; exact this
    rw [hcell k (by omega), ← hu, iv_get _ k (by rw [hlen]; exact hk)]
    congr 2
    simp [List.getD_eq_getElem?_getD, hk]
end
end Go.Proofs.YtljgjehecaiohaaDoor
