/-
  NARROWER THAN 'FOR EVERY INPUT', by the rows' own cells (each row's printed sentence says how): SessionScript: laid · SessionNone: laid · SessionOnce: laid · SessionBoots: laid · SessionRoad: laid · SessionKnown: laid.
  DERIVED. THE GIVEN ROWS OF THIS SEAT. 6 by the template 'for every input the law returns true; each argument reads behind the call as it read before'; 0 by the template 'total and deterministic' (their statements: YtccghodmcfkmmaaDoorTotals.lean).
  GIVEN WITH THE SEED: the statements are not yours to turn. If you find one false, say at which input.
  Laid BY PROGRAM, IN A SANDBOX (cutbox-rows.mjs): the forced cells as the released guide's own fill.sh prints them over the translation 0088717322554332… (all of the seat's roots in one cut). By AI agents, Wed Nov 11 2026. No macro, syntax, notation, axiom, sorry.
-/
import Derived.Test.YtccghodmcfkmmaaDoorChecked
import GoSem.Claim
import GoSem.ClaimJoined
import GoSem.ClaimMapViews
import Derived.JoinedTies
import Derived.KernelRfl
namespace Go.Proofs.YtccghodmcfkmmaaDoor
/- THE CELL 'sum', in the pinned program and in every row, IS THE sha256 OF THE DUMP (.gsa) THAT YtccghodmcfkmmaaDoorProg.lean LOADS. Nothing in Lean hashes anything: it is a label: what it is worth is what the hold of that sum in a sandbox is worth. -/
noncomputable def Tryd.pinned : Pinned := { name := "ytccghodmcfkmmaadoor", sum := "0088717322554332d3ab10395d2cc7a5283f48b57b753f0d072216cb85851c30", checked := Tryd.checked }
namespace Rows
def none {H : Type} : Left H := { results := [], args := [] }

/- WHAT THE LISTED PACKAGE-LEVEL VARIABLES READ AS WHEN THE CALL BEGINS. Each datum BY PROGRAM (the guide's laid-datum.mjs) off the statement by which the dump's own 'gosem.cut.vars' lays the variable. In a bare row this is a premise. The card (YtccghodmcfkmmaaDoorCards.lean) ties it to the program's text. -/
def laid_tandem_crc_halves {H : Type} : DataW H := .agg [.lit (.int .u32 0), .lit (.int .u32 498536548), .lit (.int .u32 997073096), .lit (.int .u32 651767980), .lit (.int .u32 1994146192), .lit (.int .u32 1802195444), .lit (.int .u32 1303535960), .lit (.int .u32 1342533948), .lit (.int .u32 3988292384), .lit (.int .u32 4027552580), .lit (.int .u32 3604390888), .lit (.int .u32 3412177804), .lit (.int .u32 2607071920), .lit (.int .u32 2262029012), .lit (.int .u32 2685067896), .lit (.int .u32 3183342108)]

/-- 'tandemlaw13.SessionScript': WHATEVER THE INPUT: true; the input reads as it did. -/
def sessionScriptSpec : ChangeSpec := { name := "sessionScript", fn := fun _ => fun
  | [d1, d2, d3] => { results := [.lit (.bool true)], args := [d1, d2, d3] }
  | _ => none }
def sessionScriptRow : OpenClaim := { program := "ytccghodmcfkmmaadoor", sum := "0088717322554332d3ab10395d2cc7a5283f48b57b753f0d072216cb85851c30", func := "tandem/tandemlaw13.SessionScript", spec := "sessionScript", unfollowed := true, recurses := true, named := ["tandem/crc.halves"], apart := false, laid := [("tandem/crc.halves", laid_tandem_crc_halves)] }
def SessionScriptSaid : Prop := sessionScriptRow.holds Tryd.pinned (OpenSpec.ofChange sessionScriptSpec)

/-- ITS FALSE NEIGHBOUR: 'it returns false'. Refute it at one input. -/
def sessionScriptWrong : ChangeSpec := { name := "sessionScript", fn := fun _ => fun
  | [d1, d2, d3] => { results := [.lit (.bool false)], args := [d1, d2, d3] }
  | _ => none }
def SessionScriptWrongFalsely : Prop := sessionScriptRow.holds Tryd.pinned (OpenSpec.ofChange sessionScriptWrong)

/-- 'tandemlaw13.SessionNone': WHATEVER THE INPUT: true; the input reads as it did. -/
def sessionNoneSpec : ChangeSpec := { name := "sessionNone", fn := fun _ => fun
  | [d] => { results := [.lit (.bool true)], args := [d] }
  | _ => none }
def sessionNoneRow : OpenClaim := { program := "ytccghodmcfkmmaadoor", sum := "0088717322554332d3ab10395d2cc7a5283f48b57b753f0d072216cb85851c30", func := "tandem/tandemlaw13.SessionNone", spec := "sessionNone", unfollowed := true, recurses := true, named := ["tandem/crc.halves"], apart := false, laid := [("tandem/crc.halves", laid_tandem_crc_halves)] }
def SessionNoneSaid : Prop := sessionNoneRow.holds Tryd.pinned (OpenSpec.ofChange sessionNoneSpec)

/-- ITS FALSE NEIGHBOUR: 'it returns false'. Refute it at one input. -/
def sessionNoneWrong : ChangeSpec := { name := "sessionNone", fn := fun _ => fun
  | [d] => { results := [.lit (.bool false)], args := [d] }
  | _ => none }
def SessionNoneWrongFalsely : Prop := sessionNoneRow.holds Tryd.pinned (OpenSpec.ofChange sessionNoneWrong)

/-- 'tandemlaw13.SessionOnce': WHATEVER THE INPUT: true; the input reads as it did. -/
def sessionOnceSpec : ChangeSpec := { name := "sessionOnce", fn := fun _ => fun
  | [d] => { results := [.lit (.bool true)], args := [d] }
  | _ => none }
def sessionOnceRow : OpenClaim := { program := "ytccghodmcfkmmaadoor", sum := "0088717322554332d3ab10395d2cc7a5283f48b57b753f0d072216cb85851c30", func := "tandem/tandemlaw13.SessionOnce", spec := "sessionOnce", unfollowed := true, recurses := true, named := ["tandem/crc.halves"], apart := false, laid := [("tandem/crc.halves", laid_tandem_crc_halves)] }
def SessionOnceSaid : Prop := sessionOnceRow.holds Tryd.pinned (OpenSpec.ofChange sessionOnceSpec)

/-- ITS FALSE NEIGHBOUR: 'it returns false'. Refute it at one input. -/
def sessionOnceWrong : ChangeSpec := { name := "sessionOnce", fn := fun _ => fun
  | [d] => { results := [.lit (.bool false)], args := [d] }
  | _ => none }
def SessionOnceWrongFalsely : Prop := sessionOnceRow.holds Tryd.pinned (OpenSpec.ofChange sessionOnceWrong)

/-- 'tandemlaw13.SessionBoots': WHATEVER THE INPUT: true; the input reads as it did. -/
def sessionBootsSpec : ChangeSpec := { name := "sessionBoots", fn := fun _ => fun
  | [d1, d2, d3] => { results := [.lit (.bool true)], args := [d1, d2, d3] }
  | _ => none }
def sessionBootsRow : OpenClaim := { program := "ytccghodmcfkmmaadoor", sum := "0088717322554332d3ab10395d2cc7a5283f48b57b753f0d072216cb85851c30", func := "tandem/tandemlaw13.SessionBoots", spec := "sessionBoots", unfollowed := true, recurses := true, named := ["tandem/crc.halves"], apart := false, laid := [("tandem/crc.halves", laid_tandem_crc_halves)] }
def SessionBootsSaid : Prop := sessionBootsRow.holds Tryd.pinned (OpenSpec.ofChange sessionBootsSpec)

/-- ITS FALSE NEIGHBOUR: 'it returns false'. Refute it at one input. -/
def sessionBootsWrong : ChangeSpec := { name := "sessionBoots", fn := fun _ => fun
  | [d1, d2, d3] => { results := [.lit (.bool false)], args := [d1, d2, d3] }
  | _ => none }
def SessionBootsWrongFalsely : Prop := sessionBootsRow.holds Tryd.pinned (OpenSpec.ofChange sessionBootsWrong)

/-- 'tandemlaw13.SessionRoad': WHATEVER THE INPUT: true; the input reads as it did. -/
def sessionRoadSpec : ChangeSpec := { name := "sessionRoad", fn := fun _ => fun
  | [d1, d2] => { results := [.lit (.bool true)], args := [d1, d2] }
  | _ => none }
def sessionRoadRow : OpenClaim := { program := "ytccghodmcfkmmaadoor", sum := "0088717322554332d3ab10395d2cc7a5283f48b57b753f0d072216cb85851c30", func := "tandem/tandemlaw13.SessionRoad", spec := "sessionRoad", unfollowed := true, recurses := true, named := ["tandem/crc.halves"], apart := false, laid := [("tandem/crc.halves", laid_tandem_crc_halves)] }
def SessionRoadSaid : Prop := sessionRoadRow.holds Tryd.pinned (OpenSpec.ofChange sessionRoadSpec)

/-- ITS FALSE NEIGHBOUR: 'it returns false'. Refute it at one input. -/
def sessionRoadWrong : ChangeSpec := { name := "sessionRoad", fn := fun _ => fun
  | [d1, d2] => { results := [.lit (.bool false)], args := [d1, d2] }
  | _ => none }
def SessionRoadWrongFalsely : Prop := sessionRoadRow.holds Tryd.pinned (OpenSpec.ofChange sessionRoadWrong)

/-- 'tandemlaw13.SessionKnown': WHATEVER THE INPUT: true; the input reads as it did. -/
def sessionKnownSpec : ChangeSpec := { name := "sessionKnown", fn := fun _ => fun
  | [] => { results := [.lit (.bool true)], args := [] }
  | _ => none }
def sessionKnownRow : OpenClaim := { program := "ytccghodmcfkmmaadoor", sum := "0088717322554332d3ab10395d2cc7a5283f48b57b753f0d072216cb85851c30", func := "tandem/tandemlaw13.SessionKnown", spec := "sessionKnown", unfollowed := true, recurses := true, named := ["tandem/crc.halves"], apart := false, laid := [("tandem/crc.halves", laid_tandem_crc_halves)] }
def SessionKnownSaid : Prop := sessionKnownRow.holds Tryd.pinned (OpenSpec.ofChange sessionKnownSpec)

/-- ITS FALSE NEIGHBOUR: 'it returns false'. Refute it at one input. -/
def sessionKnownWrong : ChangeSpec := { name := "sessionKnown", fn := fun _ => fun
  | [] => { results := [.lit (.bool false)], args := [] }
  | _ => none }
def SessionKnownWrongFalsely : Prop := sessionKnownRow.holds Tryd.pinned (OpenSpec.ofChange sessionKnownWrong)

/- THE SECOND FORM. 'bulk': how many values and letters a reading holds, each counted each time it is reached (what is shared counts as often as it is met; a slice's spare places count too). A statement '..UptoSaid' is the law's where the arguments, and the package variables that the reading takes, are together of bulk at most 1048576: NARROWER than '..Said'. Prove '..Said' where nothing that the law and all that it calls make is longer than what came in: it says more and counts as full. Else prove '..UptoSaid'. A law counts once. -/
mutual
def uptoBulk {H : Type} : DataW H → Nat
  | .lit (.string bytes) => bytes.length + 1
  | .lit _ => 1
  | .nil => 1
  | .ptr d => uptoBulk d + 1
  | .slice elems spare => uptoBulkAll elems + uptoBulkAll spare + 1
  | .agg parts => uptoBulkAll parts + 1
  | .iface _ d => uptoBulk d + 1
  | .map entries => uptoBulkEntries entries + 1
  | .held _ => 1
def uptoBulkAll {H : Type} : List (DataW H) → Nat
  | [] => 0
  | d :: r => uptoBulk d + uptoBulkAll r
def uptoBulkEntries {H : Type} : List (Lit × DataW H) → Nat
  | [] => 0
  | x :: r => uptoBulkEntry x + uptoBulkEntries r
def uptoBulkEntry {H : Type} : Lit × DataW H → Nat
  | (.string bytes, d) => bytes.length + uptoBulk d + 1
  | (_, d) => uptoBulk d + 1
 end
def uptoSmall : (H : Type) → List (DataW H) → Bool := fun _ ds => decide (uptoBulkAll ds ≤ 1048576)
def OpenSpec.upto (s : _root_.Go.ChangeSpec) : _root_.Go.OpenSpec := { _root_.Go.OpenSpec.ofChange s with cond := some uptoSmall }

/-- 'tandemlaw13.SessionScript', WHERE WHAT IT READS IS OF BULK AT MOST 1048576: true; the input reads as it did. -/
def sessionScriptUptoRow : OpenClaim := { program := "ytccghodmcfkmmaadoor", sum := "0088717322554332d3ab10395d2cc7a5283f48b57b753f0d072216cb85851c30", func := "tandem/tandemlaw13.SessionScript", spec := "sessionScript", unfollowed := true, recurses := true, named := ["tandem/crc.halves"], apart := false, laid := [("tandem/crc.halves", laid_tandem_crc_halves)], narrowed := true }
def SessionScriptUptoSaid : Prop := sessionScriptUptoRow.holds Tryd.pinned (OpenSpec.upto sessionScriptSpec)

/-- 'tandemlaw13.SessionNone', WHERE WHAT IT READS IS OF BULK AT MOST 1048576: true; the input reads as it did. -/
def sessionNoneUptoRow : OpenClaim := { program := "ytccghodmcfkmmaadoor", sum := "0088717322554332d3ab10395d2cc7a5283f48b57b753f0d072216cb85851c30", func := "tandem/tandemlaw13.SessionNone", spec := "sessionNone", unfollowed := true, recurses := true, named := ["tandem/crc.halves"], apart := false, laid := [("tandem/crc.halves", laid_tandem_crc_halves)], narrowed := true }
def SessionNoneUptoSaid : Prop := sessionNoneUptoRow.holds Tryd.pinned (OpenSpec.upto sessionNoneSpec)

/-- 'tandemlaw13.SessionOnce', WHERE WHAT IT READS IS OF BULK AT MOST 1048576: true; the input reads as it did. -/
def sessionOnceUptoRow : OpenClaim := { program := "ytccghodmcfkmmaadoor", sum := "0088717322554332d3ab10395d2cc7a5283f48b57b753f0d072216cb85851c30", func := "tandem/tandemlaw13.SessionOnce", spec := "sessionOnce", unfollowed := true, recurses := true, named := ["tandem/crc.halves"], apart := false, laid := [("tandem/crc.halves", laid_tandem_crc_halves)], narrowed := true }
def SessionOnceUptoSaid : Prop := sessionOnceUptoRow.holds Tryd.pinned (OpenSpec.upto sessionOnceSpec)

/-- 'tandemlaw13.SessionBoots', WHERE WHAT IT READS IS OF BULK AT MOST 1048576: true; the input reads as it did. -/
def sessionBootsUptoRow : OpenClaim := { program := "ytccghodmcfkmmaadoor", sum := "0088717322554332d3ab10395d2cc7a5283f48b57b753f0d072216cb85851c30", func := "tandem/tandemlaw13.SessionBoots", spec := "sessionBoots", unfollowed := true, recurses := true, named := ["tandem/crc.halves"], apart := false, laid := [("tandem/crc.halves", laid_tandem_crc_halves)], narrowed := true }
def SessionBootsUptoSaid : Prop := sessionBootsUptoRow.holds Tryd.pinned (OpenSpec.upto sessionBootsSpec)

/-- 'tandemlaw13.SessionRoad', WHERE WHAT IT READS IS OF BULK AT MOST 1048576: true; the input reads as it did. -/
def sessionRoadUptoRow : OpenClaim := { program := "ytccghodmcfkmmaadoor", sum := "0088717322554332d3ab10395d2cc7a5283f48b57b753f0d072216cb85851c30", func := "tandem/tandemlaw13.SessionRoad", spec := "sessionRoad", unfollowed := true, recurses := true, named := ["tandem/crc.halves"], apart := false, laid := [("tandem/crc.halves", laid_tandem_crc_halves)], narrowed := true }
def SessionRoadUptoSaid : Prop := sessionRoadUptoRow.holds Tryd.pinned (OpenSpec.upto sessionRoadSpec)

/-- 'tandemlaw13.SessionKnown', WHERE WHAT IT READS IS OF BULK AT MOST 1048576: true; the input reads as it did. -/
def sessionKnownUptoRow : OpenClaim := { program := "ytccghodmcfkmmaadoor", sum := "0088717322554332d3ab10395d2cc7a5283f48b57b753f0d072216cb85851c30", func := "tandem/tandemlaw13.SessionKnown", spec := "sessionKnown", unfollowed := true, recurses := true, named := ["tandem/crc.halves"], apart := false, laid := [("tandem/crc.halves", laid_tandem_crc_halves)], narrowed := true }
def SessionKnownUptoSaid : Prop := sessionKnownUptoRow.holds Tryd.pinned (OpenSpec.upto sessionKnownSpec)

end Rows
end Go.Proofs.YtccghodmcfkmmaaDoor
