/-
  The library's table as the rows list it: what the condition gives the walks, and a world that meets it. Conditions: none.
-/
import Derived.Test.YtohgencmeloknaaDoorShell
import Derived.Test.YtohgencmeloknaaDoorBitsWalk
import Derived.Deep.DeepHandedRow
import Derived.Lib.LaidTab
namespace Go.Proofs.YtohgencmeloknaaDoor
open Go.ChangeShapes Go.WideShapes Go.ChangeAt Go.RowKit

theorem gTz : Tryd.prog.globalNamed "math/bits.deBruijn64tab" = some 0 := by kernel_rfl
theorem gTzType : (Tryd.prog.globals[0]?).map (·.type) = some 41 := by kernel_rfl
theorem cellsTz : Tryd.prog.cellsOf 41 = 64 := by kernel_rfl
theorem cellsTzElem : Tryd.prog.cellsOf 5 = 1 := by kernel_rfl
def tzInts : List Int := Lib.deBruijn64tab.map fun n : Nat => (n : Int)
theorem tz_tab : ∀ i : Nat, i < 64 → tzInts.getD i 0 = ((Lib.deBruijn64tab.getD i 0 : Nat) : Int) := by decide +kernel
theorem tzAt_of_laid {W : World} (h : laidMetH Tryd.prog [("math/bits.deBruijn64tab", Rows.laid_math_bits_deBruijn64tab)] W) : TzAt W := fun i hi => by
  have h1 : Lib.TabIs Tryd.prog W "math/bits.deBruijn64tab" .u8 tzInts := Lib.tabIs_of_head (rest := []) gTz gTzType Tryd.underlying41 Tryd.underlying5 cellsTzElem cellsTz h
  have e : tzInts.length = 64 := by decide +kernel
  rw [h1.cell gTz i (by omega), tz_tab i hi]

/-- a world for the witness -/
noncomputable def laidWorld (os : Os) : World :=
  { World.holding Tryd.prog os ⟨#[], #[], []⟩ with heap := (World.holding Tryd.prog os ⟨#[], #[], []⟩).heap.modify 0 fun
      | .cells _ t frozen => .cells (tzInts.map fun z => Value.int .u8 z).toArray t frozen
      | o => o }
end Go.Proofs.YtohgencmeloknaaDoor
