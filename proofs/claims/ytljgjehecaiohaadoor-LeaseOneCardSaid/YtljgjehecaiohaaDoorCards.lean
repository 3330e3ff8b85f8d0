/-
  DERIVED. GIVEN WITH THE SEED: THE CARDS: each row of YtljgjehecaiohaaDoorRows.lean that lists a variable, with what it lists TIED to the program's text (the seventh form; the later family's looks); each row that meets fmt, with fmt's text TOLD by the authors' own Lean function (tested against real Go, not proved from fmt's source: count such statements apart). THE CARD IS WHAT COUNTS. Prove the row's statement (the work); the ties are given (YtljgjehecaiohaaDoorTie.lean); close each card by the builder's one call (the guide's Derived/Test/ToyasCard.lean, 'card_holds'). Laid BY PROGRAM, IN A SANDBOX (cutbox-door.mjs). By AI agents, Wed Nov 11 2026. No macro, syntax, notation, axiom, sorry.
-/
import Derived.Test.YtljgjehecaiohaaDoorRows
import GoSem.ClaimSeven
namespace Go.Proofs.YtljgjehecaiohaaDoor
namespace Rows

/-- THE TIED CARD OF 'tandemlaw13.SessionScript'. -/
def sessionScriptCard : Claim7 := { stood := { row := sessionScriptRow, standIns := [], harness := (true, "8acd659784da46d54095d5d43a64fc02ff9372cd0a3ba0712de1e5fc8e646585"), looks := false }, kinds := [], alts := [], laidByText := true, laidKinds := [.data], laidTests := true, laidLooks := .later }
def SessionScriptCardSaid : Prop := Claim7.holds Tryd.pinned (.plain (OpenSpec.ofChange sessionScriptSpec)) sessionScriptCard

/-- THE TIED CARD OF 'tandemlaw16.LeaseTells'. -/
def leaseTellsCard : Claim7 := { stood := { row := leaseTellsRow, standIns := [], harness := (true, "8acd659784da46d54095d5d43a64fc02ff9372cd0a3ba0712de1e5fc8e646585"), looks := false }, kinds := [], alts := [], laidByText := true, laidKinds := [.data], laidTests := true, laidLooks := .later }
def LeaseTellsCardSaid : Prop := Claim7.holds Tryd.pinned (.plain (OpenSpec.ofChange leaseTellsSpec)) leaseTellsCard

/-- THE TIED CARD OF 'tandemlaw16.LeaseKeeps'. -/
def leaseKeepsCard : Claim7 := { stood := { row := leaseKeepsRow, standIns := [], harness := (true, "8acd659784da46d54095d5d43a64fc02ff9372cd0a3ba0712de1e5fc8e646585"), looks := false }, kinds := [], alts := [], laidByText := true, laidKinds := [.data], laidTests := true, laidLooks := .later }
def LeaseKeepsCardSaid : Prop := Claim7.holds Tryd.pinned (.plain (OpenSpec.ofChange leaseKeepsSpec)) leaseKeepsCard

/-- THE TIED CARD OF 'tandemlaw16.LeaseKnown'. -/
def leaseKnownCard : Claim7 := { stood := { row := leaseKnownRow, standIns := [], harness := (true, "8acd659784da46d54095d5d43a64fc02ff9372cd0a3ba0712de1e5fc8e646585"), looks := false }, kinds := [], alts := [], laidByText := true, laidKinds := [.data], laidTests := true, laidLooks := .later }
def LeaseKnownCardSaid : Prop := Claim7.holds Tryd.pinned (.plain (OpenSpec.ofChange leaseKnownSpec)) leaseKnownCard

/-- THE TIED CARD OF 'tandemlaw16.LeaseApart'. -/
def leaseApartCard : Claim7 := { stood := { row := leaseApartRow, standIns := [], harness := (true, "8acd659784da46d54095d5d43a64fc02ff9372cd0a3ba0712de1e5fc8e646585"), looks := false }, kinds := [], alts := [], laidByText := true, laidKinds := [.data], laidTests := true, laidLooks := .later }
def LeaseApartCardSaid : Prop := Claim7.holds Tryd.pinned (.plain (OpenSpec.ofChange leaseApartSpec)) leaseApartCard

/-- THE TIED CARD OF 'tandemlaw16.LeaseEnds'. -/
def leaseEndsCard : Claim7 := { stood := { row := leaseEndsRow, standIns := [], harness := (true, "8acd659784da46d54095d5d43a64fc02ff9372cd0a3ba0712de1e5fc8e646585"), looks := false }, kinds := [], alts := [], laidByText := true, laidKinds := [.data], laidTests := true, laidLooks := .later }
def LeaseEndsCardSaid : Prop := Claim7.holds Tryd.pinned (.plain (OpenSpec.ofChange leaseEndsSpec)) leaseEndsCard

/-- THE TIED CARD OF 'tandemlaw16.LeaseOne'. -/
def leaseOneCard : Claim7 := { stood := { row := leaseOneRow, standIns := [], harness := (true, "8acd659784da46d54095d5d43a64fc02ff9372cd0a3ba0712de1e5fc8e646585"), looks := false }, kinds := [], alts := [], laidByText := true, laidKinds := [.data], laidTests := true, laidLooks := .later }
def LeaseOneCardSaid : Prop := Claim7.holds Tryd.pinned (.plain (OpenSpec.ofChange leaseOneSpec)) leaseOneCard

/-- THE SECOND FORM's CARD OF 'tandemlaw13.SessionScript'. -/
def sessionScriptUptoCard : Claim7 := { stood := { row := sessionScriptUptoRow, standIns := [], harness := (true, "8acd659784da46d54095d5d43a64fc02ff9372cd0a3ba0712de1e5fc8e646585"), looks := false }, kinds := [], alts := [], laidByText := true, laidKinds := [.data], laidTests := true, laidLooks := .later }
def SessionScriptUptoCardSaid : Prop := Claim7.holds Tryd.pinned (.plain (OpenSpec.upto sessionScriptSpec)) sessionScriptUptoCard

/-- THE SECOND FORM's CARD OF 'tandemlaw16.LeaseTells'. -/
def leaseTellsUptoCard : Claim7 := { stood := { row := leaseTellsUptoRow, standIns := [], harness := (true, "8acd659784da46d54095d5d43a64fc02ff9372cd0a3ba0712de1e5fc8e646585"), looks := false }, kinds := [], alts := [], laidByText := true, laidKinds := [.data], laidTests := true, laidLooks := .later }
def LeaseTellsUptoCardSaid : Prop := Claim7.holds Tryd.pinned (.plain (OpenSpec.upto leaseTellsSpec)) leaseTellsUptoCard

/-- THE SECOND FORM's CARD OF 'tandemlaw16.LeaseKeeps'. -/
def leaseKeepsUptoCard : Claim7 := { stood := { row := leaseKeepsUptoRow, standIns := [], harness := (true, "8acd659784da46d54095d5d43a64fc02ff9372cd0a3ba0712de1e5fc8e646585"), looks := false }, kinds := [], alts := [], laidByText := true, laidKinds := [.data], laidTests := true, laidLooks := .later }
def LeaseKeepsUptoCardSaid : Prop := Claim7.holds Tryd.pinned (.plain (OpenSpec.upto leaseKeepsSpec)) leaseKeepsUptoCard

/-- THE SECOND FORM's CARD OF 'tandemlaw16.LeaseKnown'. -/
def leaseKnownUptoCard : Claim7 := { stood := { row := leaseKnownUptoRow, standIns := [], harness := (true, "8acd659784da46d54095d5d43a64fc02ff9372cd0a3ba0712de1e5fc8e646585"), looks := false }, kinds := [], alts := [], laidByText := true, laidKinds := [.data], laidTests := true, laidLooks := .later }
def LeaseKnownUptoCardSaid : Prop := Claim7.holds Tryd.pinned (.plain (OpenSpec.upto leaseKnownSpec)) leaseKnownUptoCard

/-- THE SECOND FORM's CARD OF 'tandemlaw16.LeaseApart'. -/
def leaseApartUptoCard : Claim7 := { stood := { row := leaseApartUptoRow, standIns := [], harness := (true, "8acd659784da46d54095d5d43a64fc02ff9372cd0a3ba0712de1e5fc8e646585"), looks := false }, kinds := [], alts := [], laidByText := true, laidKinds := [.data], laidTests := true, laidLooks := .later }
def LeaseApartUptoCardSaid : Prop := Claim7.holds Tryd.pinned (.plain (OpenSpec.upto leaseApartSpec)) leaseApartUptoCard

/-- THE SECOND FORM's CARD OF 'tandemlaw16.LeaseEnds'. -/
def leaseEndsUptoCard : Claim7 := { stood := { row := leaseEndsUptoRow, standIns := [], harness := (true, "8acd659784da46d54095d5d43a64fc02ff9372cd0a3ba0712de1e5fc8e646585"), looks := false }, kinds := [], alts := [], laidByText := true, laidKinds := [.data], laidTests := true, laidLooks := .later }
def LeaseEndsUptoCardSaid : Prop := Claim7.holds Tryd.pinned (.plain (OpenSpec.upto leaseEndsSpec)) leaseEndsUptoCard

/-- THE SECOND FORM's CARD OF 'tandemlaw16.LeaseOne'. -/
def leaseOneUptoCard : Claim7 := { stood := { row := leaseOneUptoRow, standIns := [], harness := (true, "8acd659784da46d54095d5d43a64fc02ff9372cd0a3ba0712de1e5fc8e646585"), looks := false }, kinds := [], alts := [], laidByText := true, laidKinds := [.data], laidTests := true, laidLooks := .later }
def LeaseOneUptoCardSaid : Prop := Claim7.holds Tryd.pinned (.plain (OpenSpec.upto leaseOneSpec)) leaseOneUptoCard
end Rows
end Go.Proofs.YtljgjehecaiohaaDoor
