/-
  DERIVED. GIVEN WITH THE SEED: THE CARDS: each row of YtccghodmcfkmmaaDoorRows.lean that lists a variable, with what it lists TIED to the program's text (the seventh form; the later family's looks); each row that meets fmt, with fmt's text TOLD by the authors' own Lean function (tested against real Go, not proved from fmt's source: count such statements apart). THE CARD IS WHAT COUNTS. Prove the row's statement (the work); the ties are given (YtccghodmcfkmmaaDoorTie.lean); close each card by the builder's one call (the guide's Derived/Test/ToyasCard.lean, 'card_holds'). Laid BY PROGRAM, IN A SANDBOX (cutbox-door.mjs). By AI agents, Wed Nov 11 2026. No macro, syntax, notation, axiom, sorry.
-/
import Derived.Test.YtccghodmcfkmmaaDoorRows
import GoSem.ClaimSeven
namespace Go.Proofs.YtccghodmcfkmmaaDoor
namespace Rows

/-- THE TIED CARD OF 'tandemlaw13.SessionScript'. -/
def sessionScriptCard : Claim7 := { stood := { row := sessionScriptRow, standIns := [], harness := (true, "c3f6b2e6d7aecf564fd430a1eff96634b44e1db8e36239e6d64327d0e13ee22b"), looks := false }, kinds := [], alts := [], laidByText := true, laidKinds := [.data], laidTests := true, laidLooks := .later }
def SessionScriptCardSaid : Prop := Claim7.holds Tryd.pinned (.plain (OpenSpec.ofChange sessionScriptSpec)) sessionScriptCard

/-- THE TIED CARD OF 'tandemlaw13.SessionNone'. -/
def sessionNoneCard : Claim7 := { stood := { row := sessionNoneRow, standIns := [], harness := (true, "c3f6b2e6d7aecf564fd430a1eff96634b44e1db8e36239e6d64327d0e13ee22b"), looks := false }, kinds := [], alts := [], laidByText := true, laidKinds := [.data], laidTests := true, laidLooks := .later }
def SessionNoneCardSaid : Prop := Claim7.holds Tryd.pinned (.plain (OpenSpec.ofChange sessionNoneSpec)) sessionNoneCard

/-- THE TIED CARD OF 'tandemlaw13.SessionOnce'. -/
def sessionOnceCard : Claim7 := { stood := { row := sessionOnceRow, standIns := [], harness := (true, "c3f6b2e6d7aecf564fd430a1eff96634b44e1db8e36239e6d64327d0e13ee22b"), looks := false }, kinds := [], alts := [], laidByText := true, laidKinds := [.data], laidTests := true, laidLooks := .later }
def SessionOnceCardSaid : Prop := Claim7.holds Tryd.pinned (.plain (OpenSpec.ofChange sessionOnceSpec)) sessionOnceCard

/-- THE TIED CARD OF 'tandemlaw13.SessionBoots'. -/
def sessionBootsCard : Claim7 := { stood := { row := sessionBootsRow, standIns := [], harness := (true, "c3f6b2e6d7aecf564fd430a1eff96634b44e1db8e36239e6d64327d0e13ee22b"), looks := false }, kinds := [], alts := [], laidByText := true, laidKinds := [.data], laidTests := true, laidLooks := .later }
def SessionBootsCardSaid : Prop := Claim7.holds Tryd.pinned (.plain (OpenSpec.ofChange sessionBootsSpec)) sessionBootsCard

/-- THE TIED CARD OF 'tandemlaw13.SessionRoad'. -/
def sessionRoadCard : Claim7 := { stood := { row := sessionRoadRow, standIns := [], harness := (true, "c3f6b2e6d7aecf564fd430a1eff96634b44e1db8e36239e6d64327d0e13ee22b"), looks := false }, kinds := [], alts := [], laidByText := true, laidKinds := [.data], laidTests := true, laidLooks := .later }
def SessionRoadCardSaid : Prop := Claim7.holds Tryd.pinned (.plain (OpenSpec.ofChange sessionRoadSpec)) sessionRoadCard

/-- THE TIED CARD OF 'tandemlaw13.SessionKnown'. -/
def sessionKnownCard : Claim7 := { stood := { row := sessionKnownRow, standIns := [], harness := (true, "c3f6b2e6d7aecf564fd430a1eff96634b44e1db8e36239e6d64327d0e13ee22b"), looks := false }, kinds := [], alts := [], laidByText := true, laidKinds := [.data], laidTests := true, laidLooks := .later }
def SessionKnownCardSaid : Prop := Claim7.holds Tryd.pinned (.plain (OpenSpec.ofChange sessionKnownSpec)) sessionKnownCard

/-- THE SECOND FORM's CARD OF 'tandemlaw13.SessionScript'. -/
def sessionScriptUptoCard : Claim7 := { stood := { row := sessionScriptUptoRow, standIns := [], harness := (true, "c3f6b2e6d7aecf564fd430a1eff96634b44e1db8e36239e6d64327d0e13ee22b"), looks := false }, kinds := [], alts := [], laidByText := true, laidKinds := [.data], laidTests := true, laidLooks := .later }
def SessionScriptUptoCardSaid : Prop := Claim7.holds Tryd.pinned (.plain (OpenSpec.upto sessionScriptSpec)) sessionScriptUptoCard

/-- THE SECOND FORM's CARD OF 'tandemlaw13.SessionNone'. -/
def sessionNoneUptoCard : Claim7 := { stood := { row := sessionNoneUptoRow, standIns := [], harness := (true, "c3f6b2e6d7aecf564fd430a1eff96634b44e1db8e36239e6d64327d0e13ee22b"), looks := false }, kinds := [], alts := [], laidByText := true, laidKinds := [.data], laidTests := true, laidLooks := .later }
def SessionNoneUptoCardSaid : Prop := Claim7.holds Tryd.pinned (.plain (OpenSpec.upto sessionNoneSpec)) sessionNoneUptoCard

/-- THE SECOND FORM's CARD OF 'tandemlaw13.SessionOnce'. -/
def sessionOnceUptoCard : Claim7 := { stood := { row := sessionOnceUptoRow, standIns := [], harness := (true, "c3f6b2e6d7aecf564fd430a1eff96634b44e1db8e36239e6d64327d0e13ee22b"), looks := false }, kinds := [], alts := [], laidByText := true, laidKinds := [.data], laidTests := true, laidLooks := .later }
def SessionOnceUptoCardSaid : Prop := Claim7.holds Tryd.pinned (.plain (OpenSpec.upto sessionOnceSpec)) sessionOnceUptoCard

/-- THE SECOND FORM's CARD OF 'tandemlaw13.SessionBoots'. -/
def sessionBootsUptoCard : Claim7 := { stood := { row := sessionBootsUptoRow, standIns := [], harness := (true, "c3f6b2e6d7aecf564fd430a1eff96634b44e1db8e36239e6d64327d0e13ee22b"), looks := false }, kinds := [], alts := [], laidByText := true, laidKinds := [.data], laidTests := true, laidLooks := .later }
def SessionBootsUptoCardSaid : Prop := Claim7.holds Tryd.pinned (.plain (OpenSpec.upto sessionBootsSpec)) sessionBootsUptoCard

/-- THE SECOND FORM's CARD OF 'tandemlaw13.SessionRoad'. -/
def sessionRoadUptoCard : Claim7 := { stood := { row := sessionRoadUptoRow, standIns := [], harness := (true, "c3f6b2e6d7aecf564fd430a1eff96634b44e1db8e36239e6d64327d0e13ee22b"), looks := false }, kinds := [], alts := [], laidByText := true, laidKinds := [.data], laidTests := true, laidLooks := .later }
def SessionRoadUptoCardSaid : Prop := Claim7.holds Tryd.pinned (.plain (OpenSpec.upto sessionRoadSpec)) sessionRoadUptoCard

/-- THE SECOND FORM's CARD OF 'tandemlaw13.SessionKnown'. -/
def sessionKnownUptoCard : Claim7 := { stood := { row := sessionKnownUptoRow, standIns := [], harness := (true, "c3f6b2e6d7aecf564fd430a1eff96634b44e1db8e36239e6d64327d0e13ee22b"), looks := false }, kinds := [], alts := [], laidByText := true, laidKinds := [.data], laidTests := true, laidLooks := .later }
def SessionKnownUptoCardSaid : Prop := Claim7.holds Tryd.pinned (.plain (OpenSpec.upto sessionKnownSpec)) sessionKnownUptoCard
end Rows
end Go.Proofs.YtccghodmcfkmmaaDoor
