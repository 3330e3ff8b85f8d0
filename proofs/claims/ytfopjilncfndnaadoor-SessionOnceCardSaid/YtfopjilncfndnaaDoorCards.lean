/-
  DERIVED. GIVEN WITH THE SEED: THE CARDS: each row of YtfopjilncfndnaaDoorRows.lean that lists a variable, with what it lists TIED to the program's text (the seventh form; the later family's looks); each row that meets fmt, with fmt's text TOLD by the authors' own Lean function (tested against real Go, not proved from fmt's source: count such statements apart). THE CARD IS WHAT COUNTS. Prove the row's statement (the work); the ties are given (YtfopjilncfndnaaDoorTie.lean); close each card by the builder's one call (the guide's Derived/Test/ToyasCard.lean, 'card_holds'). Laid BY PROGRAM, IN A SANDBOX (cutbox-door.mjs). By AI agents, Wed Nov 11 2026. No macro, syntax, notation, axiom, sorry.
-/
import Derived.Test.YtfopjilncfndnaaDoorRows
import GoSem.ClaimSeven
namespace Go.Proofs.YtfopjilncfndnaaDoor
namespace Rows

/-- THE TIED CARD OF 'tandemlaw13.SessionScript'. -/
def sessionScriptCard : Claim7 := { stood := { row := sessionScriptRow, standIns := [], harness := (true, "05588ac80056a25e81aebfb4b8bb7d64159f885fb4ff1d734ef09cf4dbb65bf8"), looks := false }, kinds := [], alts := [], laidByText := true, laidKinds := [.data], laidTests := true, laidLooks := .later }
def SessionScriptCardSaid : Prop := Claim7.holds Tryd.pinned (.plain (OpenSpec.ofChange sessionScriptSpec)) sessionScriptCard

/-- THE TIED CARD OF 'tandemlaw13.SessionOnce'. -/
def sessionOnceCard : Claim7 := { stood := { row := sessionOnceRow, standIns := [], harness := (true, "05588ac80056a25e81aebfb4b8bb7d64159f885fb4ff1d734ef09cf4dbb65bf8"), looks := false }, kinds := [], alts := [], laidByText := true, laidKinds := [.data], laidTests := true, laidLooks := .later }
def SessionOnceCardSaid : Prop := Claim7.holds Tryd.pinned (.plain (OpenSpec.ofChange sessionOnceSpec)) sessionOnceCard

/-- THE SECOND FORM's CARD OF 'tandemlaw13.SessionScript'. -/
def sessionScriptUptoCard : Claim7 := { stood := { row := sessionScriptUptoRow, standIns := [], harness := (true, "05588ac80056a25e81aebfb4b8bb7d64159f885fb4ff1d734ef09cf4dbb65bf8"), looks := false }, kinds := [], alts := [], laidByText := true, laidKinds := [.data], laidTests := true, laidLooks := .later }
def SessionScriptUptoCardSaid : Prop := Claim7.holds Tryd.pinned (.plain (OpenSpec.upto sessionScriptSpec)) sessionScriptUptoCard

/-- THE SECOND FORM's CARD OF 'tandemlaw13.SessionOnce'. -/
def sessionOnceUptoCard : Claim7 := { stood := { row := sessionOnceUptoRow, standIns := [], harness := (true, "05588ac80056a25e81aebfb4b8bb7d64159f885fb4ff1d734ef09cf4dbb65bf8"), looks := false }, kinds := [], alts := [], laidByText := true, laidKinds := [.data], laidTests := true, laidLooks := .later }
def SessionOnceUptoCardSaid : Prop := Claim7.holds Tryd.pinned (.plain (OpenSpec.upto sessionOnceSpec)) sessionOnceUptoCard
end Rows
end Go.Proofs.YtfopjilncfndnaaDoor
