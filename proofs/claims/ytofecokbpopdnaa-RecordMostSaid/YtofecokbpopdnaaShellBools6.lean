/-
  An array of Bools that came in by value. Conditions: none.
-/
import Derived.Test.YtofecokbpopdnaaShell
import Derived.OpenShut
namespace Go.Proofs.Ytofecokbpopdnaa
open Go.ChangeShapes Go.WideShapes Go.ChangeAt Go.RowKit
section
variable {H : Type} {enc : TypeId × Value → H} {P : Program} {w : World} {base : Nat} {spare : Nat → Bool} {held : Bool}
theorem okWide_array {r : Reach} {b0 : Nat} {t : TypeId} {n : Nat} {e : TypeId} {v : Value} (ht : P.underlying t = some (.array n e)) (h : Value.okWide P w r b0 t v) : ∃ cs, v = .agg cs ∧ cs.size = P.cellsOf t := by
  simp only [Value.okWide, ht] at h
  obtain ⟨cs, h1, h2, _⟩ := h
  exact ⟨cs, h1, h2⟩
theorem open_bools6 {r : Reach} {b0 : Nat} {t e : TypeId} {v : Value} {d : DataW H} {p : List MemPlace} (ht : P.underlying t = some (.array 6 e)) (he : P.underlying e = some .bool) (hc : P.cellsOf e = 1) (hC : P.cellsOf t = 6)
    (hv : Value.okWide P w r b0 t v) (h : DataW.Trod enc P w base spare held t v d p) : ∃ l : List Bool, l.length = 6 ∧ v = .agg (l.map Value.bool).toArray := by
  obtain ⟨cs, rfl, hsz⟩ := okWide_array ht hv
  rw [hC] at hsz
  obtain ⟨fuel, hf⟩ := h
  obtain ⟨xs, m, _, _, _, hl, hel⟩ := DataW.trod_array ht hf
  rcases cs with ⟨l⟩
  match l, hsz with
  | [v0, v1, v2, v3, v4, v5], _ =>
    have key : ∀ i, i < 6 → ∃ b : Bool, ([v0, v1, v2, v3, v4, v5].drop i).take 1 = [.bool b] := fun i hi => by
      have h1 := hel i hi
      rw [hc, Nat.mul_one] at h1
      obtain ⟨b, h2, _⟩ := DataW.trod_bool he (h1.trans (List.getElem?_eq_getElem (by omega)))
      exact ⟨b, by simpa [Value.cells] using h2⟩
    obtain ⟨b0, h0⟩ := key 0 (by decide)
    obtain ⟨b1, h1⟩ := key 1 (by decide)
    obtain ⟨b2, h2⟩ := key 2 (by decide)
    obtain ⟨b3, h3⟩ := key 3 (by decide)
    obtain ⟨b4, h4⟩ := key 4 (by decide)
    obtain ⟨b5, h5⟩ := key 5 (by decide)
    simp at h0 h1 h2 h3 h4 h5
    subst h0; subst h1; subst h2; subst h3; subst h4; subst h5
    exact ⟨[b0, b1, b2, b3, b4, b5], rfl, rfl⟩
end
end Go.Proofs.Ytofecokbpopdnaa
