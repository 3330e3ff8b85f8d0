/-
  Which letters a kind has, which fields. Conditions: none.
-/
import Derived.Test.YtfiijnpabmocdaaMgRefA
namespace Go.Proofs.Ytfiijnpabmocdaa
open Go.RowKit Mg

theorem hasB_iff (k : Int) (f : Mg.Fd) : hasB k (fch f) = true ↔ f ∈ fls k := by
  unfold hasB
  rw [List.contains_iff_mem, List.mem_map]
  constructor
  · rintro ⟨g, hg, he⟩
    have : g = f := by cases g <;> cases f <;> first | rfl | (exact absurd he (by decide))
    rw [← this]; exact hg
  · intro h
    exact ⟨f, h, rfl⟩
end Go.Proofs.Ytfiijnpabmocdaa
