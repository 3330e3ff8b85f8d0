/-
  DERIVED. GIVEN WITH THE SEED: THE CARDS: each row of YtgnfajmjhlnobaaDoorRows.lean that lists a variable, with what it lists TIED to the program's text (the seventh form; the later family's looks); each row that meets fmt, with fmt's text TOLD by the authors' own Lean function (tested against real Go, not proved from fmt's source: count such statements apart). THE CARD IS WHAT COUNTS. Prove the row's statement (the work); the ties are given (YtgnfajmjhlnobaaDoorTie.lean); close each card by the builder's one call (the guide's Derived/Test/ToyasCard.lean, 'card_holds'). Laid BY PROGRAM, IN A SANDBOX (cutbox-door.mjs). By AI agents, Wed Nov 11 2026. No macro, syntax, notation, axiom, sorry.
-/
import Derived.Test.YtgnfajmjhlnobaaDoorRows
import GoSem.ClaimSeven
namespace Go.Proofs.YtgnfajmjhlnobaaDoor
namespace Rows

/-- THE TIED CARD OF 'tandemlaw05.SlotSectors'. -/
def slotSectorsCard : Claim7 := { stood := { row := slotSectorsRow, standIns := [], harness := (true, "889813cb2b79ebe8addc204c08655abc2b6c6b39eb254ff2fa5b82a05c853074"), looks := false }, kinds := [], alts := [], laidByText := true, laidKinds := [.data], laidTests := true, laidLooks := .later }
def SlotSectorsCardSaid : Prop := Claim7.holds Tryd.pinned (.plain (OpenSpec.ofChange slotSectorsSpec)) slotSectorsCard

/-- THE TIED CARD OF 'tandemlaw05.SlotNone'. -/
def slotNoneCard : Claim7 := { stood := { row := slotNoneRow, standIns := [], harness := (true, "889813cb2b79ebe8addc204c08655abc2b6c6b39eb254ff2fa5b82a05c853074"), looks := false }, kinds := [], alts := [], laidByText := true, laidKinds := [.data], laidTests := true, laidLooks := .later }
def SlotNoneCardSaid : Prop := Claim7.holds Tryd.pinned (.plain (OpenSpec.ofChange slotNoneSpec)) slotNoneCard

/-- THE TIED CARD OF 'tandemlaw05.SlotCrash'. -/
def slotCrashCard : Claim7 := { stood := { row := slotCrashRow, standIns := [], harness := (true, "889813cb2b79ebe8addc204c08655abc2b6c6b39eb254ff2fa5b82a05c853074"), looks := false }, kinds := [], alts := [], laidByText := true, laidKinds := [.data], laidTests := true, laidLooks := .later }
def SlotCrashCardSaid : Prop := Claim7.holds Tryd.pinned (.plain (OpenSpec.ofChange slotCrashSpec)) slotCrashCard

/-- THE TIED CARD OF 'tandemlaw05.SlotTurned'. -/
def slotTurnedCard : Claim7 := { stood := { row := slotTurnedRow, standIns := [], harness := (true, "889813cb2b79ebe8addc204c08655abc2b6c6b39eb254ff2fa5b82a05c853074"), looks := false }, kinds := [], alts := [], laidByText := true, laidKinds := [.data], laidTests := true, laidLooks := .later }
def SlotTurnedCardSaid : Prop := Claim7.holds Tryd.pinned (.plain (OpenSpec.ofChange slotTurnedSpec)) slotTurnedCard

/-- THE TIED CARD OF 'tandemlaw05.SlotBack'. -/
def slotBackCard : Claim7 := { stood := { row := slotBackRow, standIns := [], harness := (true, "889813cb2b79ebe8addc204c08655abc2b6c6b39eb254ff2fa5b82a05c853074"), looks := false }, kinds := [], alts := [], laidByText := true, laidKinds := [.data], laidTests := true, laidLooks := .later }
def SlotBackCardSaid : Prop := Claim7.holds Tryd.pinned (.plain (OpenSpec.ofChange slotBackSpec)) slotBackCard

/-- THE TIED CARD OF 'tandemlaw05.SlotNumbers'. -/
def slotNumbersCard : Claim7 := { stood := { row := slotNumbersRow, standIns := [], harness := (true, "889813cb2b79ebe8addc204c08655abc2b6c6b39eb254ff2fa5b82a05c853074"), looks := false }, kinds := [], alts := [], laidByText := true, laidKinds := [.data], laidTests := true, laidLooks := .later }
def SlotNumbersCardSaid : Prop := Claim7.holds Tryd.pinned (.plain (OpenSpec.ofChange slotNumbersSpec)) slotNumbersCard

/-- THE TIED CARD OF 'tandemlaw05.SlotTorn'. -/
def slotTornCard : Claim7 := { stood := { row := slotTornRow, standIns := [], harness := (true, "889813cb2b79ebe8addc204c08655abc2b6c6b39eb254ff2fa5b82a05c853074"), looks := false }, kinds := [], alts := [], laidByText := true, laidKinds := [.data], laidTests := true, laidLooks := .later }
def SlotTornCardSaid : Prop := Claim7.holds Tryd.pinned (.plain (OpenSpec.ofChange slotTornSpec)) slotTornCard

/-- THE TIED CARD OF 'tandemlaw05.SlotKnown'. -/
def slotKnownCard : Claim7 := { stood := { row := slotKnownRow, standIns := [], harness := (true, "889813cb2b79ebe8addc204c08655abc2b6c6b39eb254ff2fa5b82a05c853074"), looks := false }, kinds := [], alts := [], laidByText := true, laidKinds := [.data], laidTests := true, laidLooks := .later }
def SlotKnownCardSaid : Prop := Claim7.holds Tryd.pinned (.plain (OpenSpec.ofChange slotKnownSpec)) slotKnownCard

/-- THE SECOND FORM's CARD OF 'tandemlaw05.SlotSectors'. -/
def slotSectorsUptoCard : Claim7 := { stood := { row := slotSectorsUptoRow, standIns := [], harness := (true, "889813cb2b79ebe8addc204c08655abc2b6c6b39eb254ff2fa5b82a05c853074"), looks := false }, kinds := [], alts := [], laidByText := true, laidKinds := [.data], laidTests := true, laidLooks := .later }
def SlotSectorsUptoCardSaid : Prop := Claim7.holds Tryd.pinned (.plain (OpenSpec.upto slotSectorsSpec)) slotSectorsUptoCard

/-- THE SECOND FORM's CARD OF 'tandemlaw05.SlotNone'. -/
def slotNoneUptoCard : Claim7 := { stood := { row := slotNoneUptoRow, standIns := [], harness := (true, "889813cb2b79ebe8addc204c08655abc2b6c6b39eb254ff2fa5b82a05c853074"), looks := false }, kinds := [], alts := [], laidByText := true, laidKinds := [.data], laidTests := true, laidLooks := .later }
def SlotNoneUptoCardSaid : Prop := Claim7.holds Tryd.pinned (.plain (OpenSpec.upto slotNoneSpec)) slotNoneUptoCard

/-- THE SECOND FORM's CARD OF 'tandemlaw05.SlotCrash'. -/
def slotCrashUptoCard : Claim7 := { stood := { row := slotCrashUptoRow, standIns := [], harness := (true, "889813cb2b79ebe8addc204c08655abc2b6c6b39eb254ff2fa5b82a05c853074"), looks := false }, kinds := [], alts := [], laidByText := true, laidKinds := [.data], laidTests := true, laidLooks := .later }
def SlotCrashUptoCardSaid : Prop := Claim7.holds Tryd.pinned (.plain (OpenSpec.upto slotCrashSpec)) slotCrashUptoCard

/-- THE SECOND FORM's CARD OF 'tandemlaw05.SlotTurned'. -/
def slotTurnedUptoCard : Claim7 := { stood := { row := slotTurnedUptoRow, standIns := [], harness := (true, "889813cb2b79ebe8addc204c08655abc2b6c6b39eb254ff2fa5b82a05c853074"), looks := false }, kinds := [], alts := [], laidByText := true, laidKinds := [.data], laidTests := true, laidLooks := .later }
def SlotTurnedUptoCardSaid : Prop := Claim7.holds Tryd.pinned (.plain (OpenSpec.upto slotTurnedSpec)) slotTurnedUptoCard

/-- THE SECOND FORM's CARD OF 'tandemlaw05.SlotBack'. -/
def slotBackUptoCard : Claim7 := { stood := { row := slotBackUptoRow, standIns := [], harness := (true, "889813cb2b79ebe8addc204c08655abc2b6c6b39eb254ff2fa5b82a05c853074"), looks := false }, kinds := [], alts := [], laidByText := true, laidKinds := [.data], laidTests := true, laidLooks := .later }
def SlotBackUptoCardSaid : Prop := Claim7.holds Tryd.pinned (.plain (OpenSpec.upto slotBackSpec)) slotBackUptoCard

/-- THE SECOND FORM's CARD OF 'tandemlaw05.SlotNumbers'. -/
def slotNumbersUptoCard : Claim7 := { stood := { row := slotNumbersUptoRow, standIns := [], harness := (true, "889813cb2b79ebe8addc204c08655abc2b6c6b39eb254ff2fa5b82a05c853074"), looks := false }, kinds := [], alts := [], laidByText := true, laidKinds := [.data], laidTests := true, laidLooks := .later }
def SlotNumbersUptoCardSaid : Prop := Claim7.holds Tryd.pinned (.plain (OpenSpec.upto slotNumbersSpec)) slotNumbersUptoCard

/-- THE SECOND FORM's CARD OF 'tandemlaw05.SlotTorn'. -/
def slotTornUptoCard : Claim7 := { stood := { row := slotTornUptoRow, standIns := [], harness := (true, "889813cb2b79ebe8addc204c08655abc2b6c6b39eb254ff2fa5b82a05c853074"), looks := false }, kinds := [], alts := [], laidByText := true, laidKinds := [.data], laidTests := true, laidLooks := .later }
def SlotTornUptoCardSaid : Prop := Claim7.holds Tryd.pinned (.plain (OpenSpec.upto slotTornSpec)) slotTornUptoCard

/-- THE SECOND FORM's CARD OF 'tandemlaw05.SlotKnown'. -/
def slotKnownUptoCard : Claim7 := { stood := { row := slotKnownUptoRow, standIns := [], harness := (true, "889813cb2b79ebe8addc204c08655abc2b6c6b39eb254ff2fa5b82a05c853074"), looks := false }, kinds := [], alts := [], laidByText := true, laidKinds := [.data], laidTests := true, laidLooks := .later }
def SlotKnownUptoCardSaid : Prop := Claim7.holds Tryd.pinned (.plain (OpenSpec.upto slotKnownSpec)) slotKnownUptoCard
end Rows
end Go.Proofs.YtgnfajmjhlnobaaDoor
