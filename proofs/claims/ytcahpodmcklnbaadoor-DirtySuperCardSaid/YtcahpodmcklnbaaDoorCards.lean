/-
  DERIVED. GIVEN WITH THE SEED: THE CARDS: each row of YtcahpodmcklnbaaDoorRows.lean that lists a variable, with what it lists TIED to the program's text (the seventh form; the later family's looks); each row that meets fmt, with fmt's text TOLD by the authors' own Lean function (tested against real Go, not proved from fmt's source: count such statements apart). THE CARD IS WHAT COUNTS. Prove the row's statement (the work); the ties are given (YtcahpodmcklnbaaDoorTie.lean); close each card by the builder's one call (the guide's Derived/Test/ToyasCard.lean, 'card_holds'). Laid BY PROGRAM, IN A SANDBOX (cutbox-door.mjs). By AI agents, Wed Nov 11 2026. No macro, syntax, notation, axiom, sorry.
-/
import Derived.Test.YtcahpodmcklnbaaDoorRows
import GoSem.ClaimSeven
namespace Go.Proofs.YtcahpodmcklnbaaDoor
namespace Rows

/-- THE TIED CARD OF 'tandemlaw10.DirtyNone'. -/
def dirtyNoneCard : Claim7 := { stood := { row := dirtyNoneRow, standIns := [], harness := (true, "2115ec7832077f85aa1c1487752e99e44cf1f78961fc6e8c4455f7b42898a643"), looks := false }, kinds := [], alts := [], laidByText := true, laidKinds := [.data], laidTests := true, laidLooks := .later }
def DirtyNoneCardSaid : Prop := Claim7.holds Tryd.pinned (.plain (OpenSpec.ofChange dirtyNoneSpec)) dirtyNoneCard

/-- THE TIED CARD OF 'tandemlaw10.DirtyKeeps'. -/
def dirtyKeepsCard : Claim7 := { stood := { row := dirtyKeepsRow, standIns := [], harness := (true, "2115ec7832077f85aa1c1487752e99e44cf1f78961fc6e8c4455f7b42898a643"), looks := false }, kinds := [], alts := [], laidByText := true, laidKinds := [.data], laidTests := true, laidLooks := .later }
def DirtyKeepsCardSaid : Prop := Claim7.holds Tryd.pinned (.plain (OpenSpec.ofChange dirtyKeepsSpec)) dirtyKeepsCard

/-- THE TIED CARD OF 'tandemlaw10.DirtySuper'. -/
def dirtySuperCard : Claim7 := { stood := { row := dirtySuperRow, standIns := [], harness := (true, "2115ec7832077f85aa1c1487752e99e44cf1f78961fc6e8c4455f7b42898a643"), looks := false }, kinds := [], alts := [], laidByText := true, laidKinds := [.data], laidTests := true, laidLooks := .later }
def DirtySuperCardSaid : Prop := Claim7.holds Tryd.pinned (.plain (OpenSpec.ofChange dirtySuperSpec)) dirtySuperCard

/-- THE TIED CARD OF 'tandemlaw10.DirtyKnown'. -/
def dirtyKnownCard : Claim7 := { stood := { row := dirtyKnownRow, standIns := [], harness := (true, "2115ec7832077f85aa1c1487752e99e44cf1f78961fc6e8c4455f7b42898a643"), looks := false }, kinds := [], alts := [], laidByText := true, laidKinds := [.data], laidTests := true, laidLooks := .later }
def DirtyKnownCardSaid : Prop := Claim7.holds Tryd.pinned (.plain (OpenSpec.ofChange dirtyKnownSpec)) dirtyKnownCard

/-- THE SECOND FORM's CARD OF 'tandemlaw10.DirtyNone'. -/
def dirtyNoneUptoCard : Claim7 := { stood := { row := dirtyNoneUptoRow, standIns := [], harness := (true, "2115ec7832077f85aa1c1487752e99e44cf1f78961fc6e8c4455f7b42898a643"), looks := false }, kinds := [], alts := [], laidByText := true, laidKinds := [.data], laidTests := true, laidLooks := .later }
def DirtyNoneUptoCardSaid : Prop := Claim7.holds Tryd.pinned (.plain (OpenSpec.upto dirtyNoneSpec)) dirtyNoneUptoCard

/-- THE SECOND FORM's CARD OF 'tandemlaw10.DirtyKeeps'. -/
def dirtyKeepsUptoCard : Claim7 := { stood := { row := dirtyKeepsUptoRow, standIns := [], harness := (true, "2115ec7832077f85aa1c1487752e99e44cf1f78961fc6e8c4455f7b42898a643"), looks := false }, kinds := [], alts := [], laidByText := true, laidKinds := [.data], laidTests := true, laidLooks := .later }
def DirtyKeepsUptoCardSaid : Prop := Claim7.holds Tryd.pinned (.plain (OpenSpec.upto dirtyKeepsSpec)) dirtyKeepsUptoCard

/-- THE SECOND FORM's CARD OF 'tandemlaw10.DirtySuper'. -/
def dirtySuperUptoCard : Claim7 := { stood := { row := dirtySuperUptoRow, standIns := [], harness := (true, "2115ec7832077f85aa1c1487752e99e44cf1f78961fc6e8c4455f7b42898a643"), looks := false }, kinds := [], alts := [], laidByText := true, laidKinds := [.data], laidTests := true, laidLooks := .later }
def DirtySuperUptoCardSaid : Prop := Claim7.holds Tryd.pinned (.plain (OpenSpec.upto dirtySuperSpec)) dirtySuperUptoCard

/-- THE SECOND FORM's CARD OF 'tandemlaw10.DirtyKnown'. -/
def dirtyKnownUptoCard : Claim7 := { stood := { row := dirtyKnownUptoRow, standIns := [], harness := (true, "2115ec7832077f85aa1c1487752e99e44cf1f78961fc6e8c4455f7b42898a643"), looks := false }, kinds := [], alts := [], laidByText := true, laidKinds := [.data], laidTests := true, laidLooks := .later }
def DirtyKnownUptoCardSaid : Prop := Claim7.holds Tryd.pinned (.plain (OpenSpec.upto dirtyKnownSpec)) dirtyKnownUptoCard
end Rows
end Go.Proofs.YtcahpodmcklnbaaDoor
