/-
  DERIVED. GIVEN WITH THE SEED: THE CARDS: each row of YtlchpolheciadaaDoorRows.lean that lists a variable, with what it lists TIED to the program's text (the seventh form; the later family's looks); each row that meets fmt, with fmt's text TOLD by the authors' own Lean function (tested against real Go, not proved from fmt's source: count such statements apart). THE CARD IS WHAT COUNTS. Prove the row's statement (the work); the ties are given (YtlchpolheciadaaDoorTie.lean); close each card by the builder's one call (the guide's Derived/Test/ToyasCard.lean, 'card_holds'). Laid BY PROGRAM, IN A SANDBOX (cutbox-door.mjs). By AI agents, Wed Nov 11 2026. No macro, syntax, notation, axiom, sorry.
-/
import Derived.Test.YtlchpolheciadaaDoorRows
import GoSem.ClaimSeven
namespace Go.Proofs.YtlchpolheciadaaDoor
namespace Rows

/-- THE TIED CARD OF 'tandemlaw09.StoreNone'. -/
def storeNoneCard : Claim7 := { stood := { row := storeNoneRow, standIns := [], harness := (true, "1d49214e8a04a63369d0fe35c4fdacc845253b38bd5f87c93984c6802b76e53e"), looks := false }, kinds := [], alts := [], laidByText := true, laidKinds := [.data], laidTests := true, laidLooks := .later }
def StoreNoneCardSaid : Prop := Claim7.holds Tryd.pinned (.plain (OpenSpec.ofChange storeNoneSpec)) storeNoneCard

/-- THE TIED CARD OF 'tandemlaw09.StoreKeeps'. -/
def storeKeepsCard : Claim7 := { stood := { row := storeKeepsRow, standIns := [], harness := (true, "1d49214e8a04a63369d0fe35c4fdacc845253b38bd5f87c93984c6802b76e53e"), looks := false }, kinds := [], alts := [], laidByText := true, laidKinds := [.data], laidTests := true, laidLooks := .later }
def StoreKeepsCardSaid : Prop := Claim7.holds Tryd.pinned (.plain (OpenSpec.ofChange storeKeepsSpec)) storeKeepsCard

/-- THE TIED CARD OF 'tandemlaw09.StoreTurned'. -/
def storeTurnedCard : Claim7 := { stood := { row := storeTurnedRow, standIns := [], harness := (true, "1d49214e8a04a63369d0fe35c4fdacc845253b38bd5f87c93984c6802b76e53e"), looks := false }, kinds := [], alts := [], laidByText := true, laidKinds := [.data], laidTests := true, laidLooks := .later }
def StoreTurnedCardSaid : Prop := Claim7.holds Tryd.pinned (.plain (OpenSpec.ofChange storeTurnedSpec)) storeTurnedCard

/-- THE TIED CARD OF 'tandemlaw09.StoreList'. -/
def storeListCard : Claim7 := { stood := { row := storeListRow, standIns := [], harness := (true, "1d49214e8a04a63369d0fe35c4fdacc845253b38bd5f87c93984c6802b76e53e"), looks := false }, kinds := [], alts := [], laidByText := true, laidKinds := [.data], laidTests := true, laidLooks := .later }
def StoreListCardSaid : Prop := Claim7.holds Tryd.pinned (.plain (OpenSpec.ofChange storeListSpec)) storeListCard

/-- THE TIED CARD OF 'tandemlaw09.StoreKnown'. -/
def storeKnownCard : Claim7 := { stood := { row := storeKnownRow, standIns := [], harness := (true, "1d49214e8a04a63369d0fe35c4fdacc845253b38bd5f87c93984c6802b76e53e"), looks := false }, kinds := [], alts := [], laidByText := true, laidKinds := [.data], laidTests := true, laidLooks := .later }
def StoreKnownCardSaid : Prop := Claim7.holds Tryd.pinned (.plain (OpenSpec.ofChange storeKnownSpec)) storeKnownCard

/-- THE SECOND FORM's CARD OF 'tandemlaw09.StoreNone'. -/
def storeNoneUptoCard : Claim7 := { stood := { row := storeNoneUptoRow, standIns := [], harness := (true, "1d49214e8a04a63369d0fe35c4fdacc845253b38bd5f87c93984c6802b76e53e"), looks := false }, kinds := [], alts := [], laidByText := true, laidKinds := [.data], laidTests := true, laidLooks := .later }
def StoreNoneUptoCardSaid : Prop := Claim7.holds Tryd.pinned (.plain (OpenSpec.upto storeNoneSpec)) storeNoneUptoCard

/-- THE SECOND FORM's CARD OF 'tandemlaw09.StoreKeeps'. -/
def storeKeepsUptoCard : Claim7 := { stood := { row := storeKeepsUptoRow, standIns := [], harness := (true, "1d49214e8a04a63369d0fe35c4fdacc845253b38bd5f87c93984c6802b76e53e"), looks := false }, kinds := [], alts := [], laidByText := true, laidKinds := [.data], laidTests := true, laidLooks := .later }
def StoreKeepsUptoCardSaid : Prop := Claim7.holds Tryd.pinned (.plain (OpenSpec.upto storeKeepsSpec)) storeKeepsUptoCard

/-- THE SECOND FORM's CARD OF 'tandemlaw09.StoreTurned'. -/
def storeTurnedUptoCard : Claim7 := { stood := { row := storeTurnedUptoRow, standIns := [], harness := (true, "1d49214e8a04a63369d0fe35c4fdacc845253b38bd5f87c93984c6802b76e53e"), looks := false }, kinds := [], alts := [], laidByText := true, laidKinds := [.data], laidTests := true, laidLooks := .later }
def StoreTurnedUptoCardSaid : Prop := Claim7.holds Tryd.pinned (.plain (OpenSpec.upto storeTurnedSpec)) storeTurnedUptoCard

/-- THE SECOND FORM's CARD OF 'tandemlaw09.StoreList'. -/
def storeListUptoCard : Claim7 := { stood := { row := storeListUptoRow, standIns := [], harness := (true, "1d49214e8a04a63369d0fe35c4fdacc845253b38bd5f87c93984c6802b76e53e"), looks := false }, kinds := [], alts := [], laidByText := true, laidKinds := [.data], laidTests := true, laidLooks := .later }
def StoreListUptoCardSaid : Prop := Claim7.holds Tryd.pinned (.plain (OpenSpec.upto storeListSpec)) storeListUptoCard

/-- THE SECOND FORM's CARD OF 'tandemlaw09.StoreKnown'. -/
def storeKnownUptoCard : Claim7 := { stood := { row := storeKnownUptoRow, standIns := [], harness := (true, "1d49214e8a04a63369d0fe35c4fdacc845253b38bd5f87c93984c6802b76e53e"), looks := false }, kinds := [], alts := [], laidByText := true, laidKinds := [.data], laidTests := true, laidLooks := .later }
def StoreKnownUptoCardSaid : Prop := Claim7.holds Tryd.pinned (.plain (OpenSpec.upto storeKnownSpec)) storeKnownUptoCard
end Rows
end Go.Proofs.YtlchpolheciadaaDoor
