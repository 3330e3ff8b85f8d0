/-
  DERIVED. GIVEN WITH THE SEED: THE CARDS: each row of YtmbloclkinghnaaDoorRows.lean that lists a variable, with what it lists TIED to the program's text (the seventh form; the later family's looks); each row that meets fmt, with fmt's text TOLD by the authors' own Lean function (tested against real Go, not proved from fmt's source: count such statements apart). THE CARD IS WHAT COUNTS. Prove the row's statement (the work); the ties are given (YtmbloclkinghnaaDoorTie.lean); close each card by the builder's one call (the guide's Derived/Test/ToyasCard.lean, 'card_holds'). Laid BY PROGRAM, IN A SANDBOX (cutbox-door.mjs). By AI agents, Wed Nov 11 2026. No macro, syntax, notation, axiom, sorry.
-/
import Derived.Test.YtmbloclkinghnaaDoorRows
import GoSem.ClaimSeven
namespace Go.Proofs.YtmbloclkinghnaaDoor
namespace Rows

/-- THE TIED CARD OF 'tandemlaw07.BlockTells'. -/
def blockTellsCard : Claim7 := { stood := { row := blockTellsRow, standIns := [], harness := (true, "8b988016456ea596d6ed8f0b159ddd252a748a3286b7a5739f3fc52cf00b68fd"), looks := false }, kinds := [], alts := [], laidByText := true, laidKinds := [.data], laidTests := true, laidLooks := .later }
def BlockTellsCardSaid : Prop := Claim7.holds Tryd.pinned (.plain (OpenSpec.ofChange blockTellsSpec)) blockTellsCard

/-- THE TIED CARD OF 'tandemlaw07.BlockBack'. -/
def blockBackCard : Claim7 := { stood := { row := blockBackRow, standIns := [], harness := (true, "8b988016456ea596d6ed8f0b159ddd252a748a3286b7a5739f3fc52cf00b68fd"), looks := false }, kinds := [], alts := [], laidByText := true, laidKinds := [.data], laidTests := true, laidLooks := .later }
def BlockBackCardSaid : Prop := Claim7.holds Tryd.pinned (.plain (OpenSpec.ofChange blockBackSpec)) blockBackCard

/-- THE TIED CARD OF 'tandemlaw07.BlockTorn'. -/
def blockTornCard : Claim7 := { stood := { row := blockTornRow, standIns := [], harness := (true, "8b988016456ea596d6ed8f0b159ddd252a748a3286b7a5739f3fc52cf00b68fd"), looks := false }, kinds := [], alts := [], laidByText := true, laidKinds := [.data], laidTests := true, laidLooks := .later }
def BlockTornCardSaid : Prop := Claim7.holds Tryd.pinned (.plain (OpenSpec.ofChange blockTornSpec)) blockTornCard

/-- THE TIED CARD OF 'tandemlaw07.BlockTurned'. -/
def blockTurnedCard : Claim7 := { stood := { row := blockTurnedRow, standIns := [], harness := (true, "8b988016456ea596d6ed8f0b159ddd252a748a3286b7a5739f3fc52cf00b68fd"), looks := false }, kinds := [], alts := [], laidByText := true, laidKinds := [.data], laidTests := true, laidLooks := .later }
def BlockTurnedCardSaid : Prop := Claim7.holds Tryd.pinned (.plain (OpenSpec.ofChange blockTurnedSpec)) blockTurnedCard

/-- THE TIED CARD OF 'tandemlaw07.BlockApart'. -/
def blockApartCard : Claim7 := { stood := { row := blockApartRow, standIns := [], harness := (true, "8b988016456ea596d6ed8f0b159ddd252a748a3286b7a5739f3fc52cf00b68fd"), looks := false }, kinds := [], alts := [], laidByText := true, laidKinds := [.data], laidTests := true, laidLooks := .later }
def BlockApartCardSaid : Prop := Claim7.holds Tryd.pinned (.plain (OpenSpec.ofChange blockApartSpec)) blockApartCard

/-- THE TIED CARD OF 'tandemlaw07.BlockKnown'. -/
def blockKnownCard : Claim7 := { stood := { row := blockKnownRow, standIns := [], harness := (true, "8b988016456ea596d6ed8f0b159ddd252a748a3286b7a5739f3fc52cf00b68fd"), looks := false }, kinds := [], alts := [], laidByText := true, laidKinds := [.data], laidTests := true, laidLooks := .later }
def BlockKnownCardSaid : Prop := Claim7.holds Tryd.pinned (.plain (OpenSpec.ofChange blockKnownSpec)) blockKnownCard

/-- THE SECOND FORM's CARD OF 'tandemlaw07.BlockTells'. -/
def blockTellsUptoCard : Claim7 := { stood := { row := blockTellsUptoRow, standIns := [], harness := (true, "8b988016456ea596d6ed8f0b159ddd252a748a3286b7a5739f3fc52cf00b68fd"), looks := false }, kinds := [], alts := [], laidByText := true, laidKinds := [.data], laidTests := true, laidLooks := .later }
def BlockTellsUptoCardSaid : Prop := Claim7.holds Tryd.pinned (.plain (OpenSpec.upto blockTellsSpec)) blockTellsUptoCard

/-- THE SECOND FORM's CARD OF 'tandemlaw07.BlockBack'. -/
def blockBackUptoCard : Claim7 := { stood := { row := blockBackUptoRow, standIns := [], harness := (true, "8b988016456ea596d6ed8f0b159ddd252a748a3286b7a5739f3fc52cf00b68fd"), looks := false }, kinds := [], alts := [], laidByText := true, laidKinds := [.data], laidTests := true, laidLooks := .later }
def BlockBackUptoCardSaid : Prop := Claim7.holds Tryd.pinned (.plain (OpenSpec.upto blockBackSpec)) blockBackUptoCard

/-- THE SECOND FORM's CARD OF 'tandemlaw07.BlockTorn'. -/
def blockTornUptoCard : Claim7 := { stood := { row := blockTornUptoRow, standIns := [], harness := (true, "8b988016456ea596d6ed8f0b159ddd252a748a3286b7a5739f3fc52cf00b68fd"), looks := false }, kinds := [], alts := [], laidByText := true, laidKinds := [.data], laidTests := true, laidLooks := .later }
def BlockTornUptoCardSaid : Prop := Claim7.holds Tryd.pinned (.plain (OpenSpec.upto blockTornSpec)) blockTornUptoCard

/-- THE SECOND FORM's CARD OF 'tandemlaw07.BlockTurned'. -/
def blockTurnedUptoCard : Claim7 := { stood := { row := blockTurnedUptoRow, standIns := [], harness := (true, "8b988016456ea596d6ed8f0b159ddd252a748a3286b7a5739f3fc52cf00b68fd"), looks := false }, kinds := [], alts := [], laidByText := true, laidKinds := [.data], laidTests := true, laidLooks := .later }
def BlockTurnedUptoCardSaid : Prop := Claim7.holds Tryd.pinned (.plain (OpenSpec.upto blockTurnedSpec)) blockTurnedUptoCard

/-- THE SECOND FORM's CARD OF 'tandemlaw07.BlockApart'. -/
def blockApartUptoCard : Claim7 := { stood := { row := blockApartUptoRow, standIns := [], harness := (true, "8b988016456ea596d6ed8f0b159ddd252a748a3286b7a5739f3fc52cf00b68fd"), looks := false }, kinds := [], alts := [], laidByText := true, laidKinds := [.data], laidTests := true, laidLooks := .later }
def BlockApartUptoCardSaid : Prop := Claim7.holds Tryd.pinned (.plain (OpenSpec.upto blockApartSpec)) blockApartUptoCard

/-- THE SECOND FORM's CARD OF 'tandemlaw07.BlockKnown'. -/
def blockKnownUptoCard : Claim7 := { stood := { row := blockKnownUptoRow, standIns := [], harness := (true, "8b988016456ea596d6ed8f0b159ddd252a748a3286b7a5739f3fc52cf00b68fd"), looks := false }, kinds := [], alts := [], laidByText := true, laidKinds := [.data], laidTests := true, laidLooks := .later }
def BlockKnownUptoCardSaid : Prop := Claim7.holds Tryd.pinned (.plain (OpenSpec.upto blockKnownSpec)) blockKnownUptoCard
end Rows
end Go.Proofs.YtmbloclkinghnaaDoor
