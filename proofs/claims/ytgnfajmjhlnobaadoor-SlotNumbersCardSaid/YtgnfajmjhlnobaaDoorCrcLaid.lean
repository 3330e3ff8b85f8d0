/-
  The table of crc, as the rows list it: what the condition gives the walks, and a world that meets it. Conditions: none.
-/
import Derived.Test.YtgnfajmjhlnobaaDoorShell
import Derived.Test.YtgnfajmjhlnobaaDoorCrcWalk
import Derived.Deep.DeepHandedRow
import Derived.Lib.LaidTab
namespace Go.Proofs.YtgnfajmjhlnobaaDoor
open Go.ChangeShapes Go.WideShapes Go.ChangeAt Go.RowKit

theorem gHalves : Tryd.prog.globalNamed "tandem/crc.halves" = some 0 := by kernel_rfl
theorem gHalvesType : (Tryd.prog.globals[0]?).map (·.type) = some 107 := by kernel_rfl
theorem cellsHalves : Tryd.prog.cellsOf 107 = 16 := by kernel_rfl
theorem cellsU32 : Tryd.prog.cellsOf 89 = 1 := by kernel_rfl
def halvesInts : List Int := [0, 498536548, 997073096, 651767980, 1994146192, 1802195444, 1303535960, 1342533948, 3988292384, 4027552580, 3604390888, 3412177804, 2607071920, 2262029012, 2685067896, 3183342108]
theorem halves_tab : ∀ i : Nat, i < 16 → halvesInts.getD i 0 = (Crc.tab i : Int) := by decide +kernel
theorem tabAt_of_laid {W : World} (h : laidMetH Tryd.prog [("tandem/crc.halves", Rows.laid_tandem_crc_halves)] W) : TabAt W := fun i hi => by
  have h1 : Lib.TabIs Tryd.prog W "tandem/crc.halves" .u32 halvesInts := Lib.tabIs_of_head (rest := []) gHalves gHalvesType Tryd.underlying107 Tryd.underlying89 cellsU32 cellsHalves h
  rw [h1.cell gHalves i (by simpa [halvesInts] using hi), halves_tab i hi]

/-- a world for the witness -/
noncomputable def laidWorld (os : Os) : World :=
  { World.holding Tryd.prog os ⟨#[], #[], []⟩ with heap := (World.holding Tryd.prog os ⟨#[], #[], []⟩).heap.modify 0 fun
      | .cells _ t frozen => .cells (halvesInts.map fun z => Value.int .u32 z).toArray t frozen
      | o => o }
end Go.Proofs.YtgnfajmjhlnobaaDoor
