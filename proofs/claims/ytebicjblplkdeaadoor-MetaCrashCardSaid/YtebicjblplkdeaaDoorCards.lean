/-
  DERIVED. GIVEN WITH THE SEED: THE CARDS: each row of YtebicjblplkdeaaDoorRows.lean that lists a variable, with what it lists TIED to the program's text (the seventh form; the later family's looks); each row that meets fmt, with fmt's text TOLD by the authors' own Lean function (tested against real Go, not proved from fmt's source: count such statements apart). THE CARD IS WHAT COUNTS. Prove the row's statement (the work); the ties are given (YtebicjblplkdeaaDoorTie.lean); close each card by the builder's one call (the guide's Derived/Test/ToyasCard.lean, 'card_holds'). Laid BY PROGRAM, IN A SANDBOX (cutbox-door.mjs). By AI agents, Wed Nov 11 2026. No macro, syntax, notation, axiom, sorry.
-/
import Derived.Test.YtebicjblplkdeaaDoorRows
import GoSem.ClaimSeven
namespace Go.Proofs.YtebicjblplkdeaaDoor
namespace Rows

/-- THE TIED CARD OF 'tandemlaw06.MetaNone'. -/
def metaNoneCard : Claim7 := { stood := { row := metaNoneRow, standIns := [], harness := (true, "06147ce6e6019e3f4aa68e3ad7f5dd6a6eedefb0f5490aeeb9240fdfe1d2a625"), looks := false }, kinds := [], alts := [], laidByText := true, laidKinds := [.data], laidTests := true, laidLooks := .later }
def MetaNoneCardSaid : Prop := Claim7.holds Tryd.pinned (.plain (OpenSpec.ofChange metaNoneSpec)) metaNoneCard

/-- THE TIED CARD OF 'tandemlaw06.MetaCrash'. -/
def metaCrashCard : Claim7 := { stood := { row := metaCrashRow, standIns := [], harness := (true, "06147ce6e6019e3f4aa68e3ad7f5dd6a6eedefb0f5490aeeb9240fdfe1d2a625"), looks := false }, kinds := [], alts := [], laidByText := true, laidKinds := [.data], laidTests := true, laidLooks := .later }
def MetaCrashCardSaid : Prop := Claim7.holds Tryd.pinned (.plain (OpenSpec.ofChange metaCrashSpec)) metaCrashCard

/-- THE TIED CARD OF 'tandemlaw06.MetaKnown'. -/
def metaKnownCard : Claim7 := { stood := { row := metaKnownRow, standIns := [], harness := (true, "06147ce6e6019e3f4aa68e3ad7f5dd6a6eedefb0f5490aeeb9240fdfe1d2a625"), looks := false }, kinds := [], alts := [], laidByText := true, laidKinds := [.data], laidTests := true, laidLooks := .later }
def MetaKnownCardSaid : Prop := Claim7.holds Tryd.pinned (.plain (OpenSpec.ofChange metaKnownSpec)) metaKnownCard

/-- THE SECOND FORM's CARD OF 'tandemlaw06.MetaNone'. -/
def metaNoneUptoCard : Claim7 := { stood := { row := metaNoneUptoRow, standIns := [], harness := (true, "06147ce6e6019e3f4aa68e3ad7f5dd6a6eedefb0f5490aeeb9240fdfe1d2a625"), looks := false }, kinds := [], alts := [], laidByText := true, laidKinds := [.data], laidTests := true, laidLooks := .later }
def MetaNoneUptoCardSaid : Prop := Claim7.holds Tryd.pinned (.plain (OpenSpec.upto metaNoneSpec)) metaNoneUptoCard

/-- THE SECOND FORM's CARD OF 'tandemlaw06.MetaCrash'. -/
def metaCrashUptoCard : Claim7 := { stood := { row := metaCrashUptoRow, standIns := [], harness := (true, "06147ce6e6019e3f4aa68e3ad7f5dd6a6eedefb0f5490aeeb9240fdfe1d2a625"), looks := false }, kinds := [], alts := [], laidByText := true, laidKinds := [.data], laidTests := true, laidLooks := .later }
def MetaCrashUptoCardSaid : Prop := Claim7.holds Tryd.pinned (.plain (OpenSpec.upto metaCrashSpec)) metaCrashUptoCard

/-- THE SECOND FORM's CARD OF 'tandemlaw06.MetaKnown'. -/
def metaKnownUptoCard : Claim7 := { stood := { row := metaKnownUptoRow, standIns := [], harness := (true, "06147ce6e6019e3f4aa68e3ad7f5dd6a6eedefb0f5490aeeb9240fdfe1d2a625"), looks := false }, kinds := [], alts := [], laidByText := true, laidKinds := [.data], laidTests := true, laidLooks := .later }
def MetaKnownUptoCardSaid : Prop := Claim7.holds Tryd.pinned (.plain (OpenSpec.upto metaKnownSpec)) metaKnownUptoCard
end Rows
end Go.Proofs.YtebicjblplkdeaaDoor
