/-
  DERIVED. GIVEN WITH THE SEED: THE CARDS: each row of YtebicjblplkdeaaGreatDoorRows.lean that lists a variable, with what it lists TIED to the program's text (the seventh form; the later family's looks); each row that meets fmt, with fmt's text TOLD by the authors' own Lean function (tested against real Go, not proved from fmt's source: count such statements apart). THE CARD IS WHAT COUNTS. Prove the row's statement (the work); the ties are given (YtebicjblplkdeaaGreatDoorTie.lean); close each card by the builder's one call (the guide's Derived/Test/ToyasCard.lean, 'card_holds'). Laid BY PROGRAM, IN A SANDBOX (cutbox-door.mjs). By AI agents, Wed Nov 11 2026. No macro, syntax, notation, axiom, sorry.
-/
import Derived.Test.YtebicjblplkdeaaGreatDoorRows
import GoSem.ClaimSeven
namespace Go.Proofs.YtebicjblplkdeaaGreatDoor
namespace Rows

/-- THE TIED CARD OF 'tandemlaw06.MetaScript'. -/
def metaScriptCard : Claim7 := { stood := { row := metaScriptRow, standIns := [], harness := (true, "67498c2cc053c1e49715f1247f0e90fa05819fcf580a7cadfbf6e5439203cd8a"), looks := false }, kinds := [], alts := [], laidByText := true, laidKinds := [.data], laidTests := true, laidLooks := .later }
def MetaScriptCardSaid : Prop := Claim7.holds Tryz.pinned (.plain (OpenSpec.ofChange metaScriptSpec)) metaScriptCard

/-- THE SECOND FORM's CARD OF 'tandemlaw06.MetaScript'. -/
def metaScriptUptoCard : Claim7 := { stood := { row := metaScriptUptoRow, standIns := [], harness := (true, "67498c2cc053c1e49715f1247f0e90fa05819fcf580a7cadfbf6e5439203cd8a"), looks := false }, kinds := [], alts := [], laidByText := true, laidKinds := [.data], laidTests := true, laidLooks := .later }
def MetaScriptUptoCardSaid : Prop := Claim7.holds Tryz.pinned (.plain (OpenSpec.upto metaScriptSpec)) metaScriptUptoCard
end Rows
end Go.Proofs.YtebicjblplkdeaaGreatDoor
