/-
  DERIVED. GIVEN WITH THE SEED: THE CARDS: each row of YtcahpodmcklnbaaGreatDoorRows.lean that lists a variable, with what it lists TIED to the program's text (the seventh form; the later family's looks); each row that meets fmt, with fmt's text TOLD by the authors' own Lean function (tested against real Go, not proved from fmt's source: count such statements apart). THE CARD IS WHAT COUNTS. Prove the row's statement (the work); the ties are given (YtcahpodmcklnbaaGreatDoorTie.lean); close each card by the builder's one call (the guide's Derived/Test/ToyasCard.lean, 'card_holds'). Laid BY PROGRAM, IN A SANDBOX (cutbox-door.mjs). By AI agents, Wed Nov 11 2026. No macro, syntax, notation, axiom, sorry.
-/
import Derived.Test.YtcahpodmcklnbaaGreatDoorRows
import GoSem.ClaimSeven
namespace Go.Proofs.YtcahpodmcklnbaaGreatDoor
namespace Rows

/-- THE TIED CARD OF 'tandemlaw10.DirtyScript'. -/
def dirtyScriptCard : Claim7 := { stood := { row := dirtyScriptRow, standIns := [], harness := (true, "472d3d56261f5a2f79fa0b9a508dee9bb1da641c41a0b5bf57afc816d7c6e1a2"), looks := false }, kinds := [], alts := [], laidByText := true, laidKinds := [.data], laidTests := true, laidLooks := .later }
def DirtyScriptCardSaid : Prop := Claim7.holds Tryz.pinned (.plain (OpenSpec.ofChange dirtyScriptSpec)) dirtyScriptCard

/-- THE SECOND FORM's CARD OF 'tandemlaw10.DirtyScript'. -/
def dirtyScriptUptoCard : Claim7 := { stood := { row := dirtyScriptUptoRow, standIns := [], harness := (true, "472d3d56261f5a2f79fa0b9a508dee9bb1da641c41a0b5bf57afc816d7c6e1a2"), looks := false }, kinds := [], alts := [], laidByText := true, laidKinds := [.data], laidTests := true, laidLooks := .later }
def DirtyScriptUptoCardSaid : Prop := Claim7.holds Tryz.pinned (.plain (OpenSpec.upto dirtyScriptSpec)) dirtyScriptUptoCard
end Rows
end Go.Proofs.YtcahpodmcklnbaaGreatDoor
