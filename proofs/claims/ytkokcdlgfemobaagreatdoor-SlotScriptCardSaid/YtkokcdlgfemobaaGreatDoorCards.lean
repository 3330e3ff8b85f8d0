/-
  DERIVED. GIVEN WITH THE SEED: THE CARDS: each row of YtkokcdlgfemobaaGreatDoorRows.lean that lists a variable, with what it lists TIED to the program's text (the seventh form; the later family's looks); each row that meets fmt, with fmt's text TOLD by the authors' own Lean function (tested against real Go, not proved from fmt's source: count such statements apart). THE CARD IS WHAT COUNTS. Prove the row's statement (the work); the ties are given (YtkokcdlgfemobaaGreatDoorTie.lean); close each card by the builder's one call (the guide's Derived/Test/ToyasCard.lean, 'card_holds'). Laid BY PROGRAM, IN A SANDBOX (cutbox-door.mjs). By AI agents, Wed Nov 11 2026. No macro, syntax, notation, axiom, sorry.
-/
import Derived.Test.YtkokcdlgfemobaaGreatDoorRows
import GoSem.ClaimSeven
namespace Go.Proofs.YtkokcdlgfemobaaGreatDoor
namespace Rows

/-- THE TIED CARD OF 'tandemlaw05.SlotScript'. -/
def slotScriptCard : Claim7 := { stood := { row := slotScriptRow, standIns := [], harness := (true, "c03d0aea2a979bf8826409ebe8264480dd6d72aa4af9b7e01897a85fc5142710"), looks := false }, kinds := [], alts := [], laidByText := true, laidKinds := [.data], laidTests := true, laidLooks := .later }
def SlotScriptCardSaid : Prop := Claim7.holds Tryz.pinned (.plain (OpenSpec.ofChange slotScriptSpec)) slotScriptCard

/-- THE SECOND FORM's CARD OF 'tandemlaw05.SlotScript'. -/
def slotScriptUptoCard : Claim7 := { stood := { row := slotScriptUptoRow, standIns := [], harness := (true, "c03d0aea2a979bf8826409ebe8264480dd6d72aa4af9b7e01897a85fc5142710"), looks := false }, kinds := [], alts := [], laidByText := true, laidKinds := [.data], laidTests := true, laidLooks := .later }
def SlotScriptUptoCardSaid : Prop := Claim7.holds Tryz.pinned (.plain (OpenSpec.upto slotScriptSpec)) slotScriptUptoCard
end Rows
end Go.Proofs.YtkokcdlgfemobaaGreatDoor
