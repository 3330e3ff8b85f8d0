/-
  NARROWER THAN 'FOR EVERY INPUT', by the rows' own cells (each row's printed sentence says how): DirtyNone: laid · DirtyKeeps: laid · DirtySuper: laid · DirtyKnown: laid.
  DERIVED. THE GIVEN ROWS OF THIS SEAT. 4 by the template 'for every input the law returns true; each argument reads behind the call as it read before'; 0 by the template 'total and deterministic' (their statements: YtcahpodmcklnbaaDoorTotals.lean).
  GIVEN WITH THE SEED: the statements are not yours to turn. If you find one false, say at which input.
  Laid BY PROGRAM, IN A SANDBOX (cutbox-rows.mjs): the forced cells as the released guide's own fill.sh prints them over the translation bf5c875a856db40a… (all of the seat's roots in one cut). By AI agents, Wed Nov 11 2026. No macro, syntax, notation, axiom, sorry.
-/
import Derived.Test.YtcahpodmcklnbaaDoorChecked
import GoSem.Claim
import GoSem.ClaimJoined
import GoSem.ClaimMapViews
import Derived.JoinedTies
import Derived.KernelRfl
namespace Go.Proofs.YtcahpodmcklnbaaDoor
/- THE CELL 'sum', in the pinned program and in every row, IS THE sha256 OF THE DUMP (.gsa) THAT YtcahpodmcklnbaaDoorProg.lean LOADS. Nothing in Lean hashes anything: it is a label: what it is worth is what the hold of that sum in a sandbox is worth. -/
noncomputable def Tryd.pinned : Pinned := { name := "ytcahpodmcklnbaadoor", sum := "bf5c875a856db40a7b3824ce17fdc6b546098ec34e5aa423615afbfafee1776a", checked := Tryd.checked }
namespace Rows
def none {H : Type} : Left H := { results := [], args := [] }

/- WHAT THE LISTED PACKAGE-LEVEL VARIABLES READ AS WHEN THE CALL BEGINS. Each datum BY PROGRAM (the guide's laid-datum.mjs) off the statement by which the dump's own 'gosem.cut.vars' lays the variable. In a bare row this is a premise. The card (YtcahpodmcklnbaaDoorCards.lean) ties it to the program's text. -/
def laid_tandem_crc_halves {H : Type} : DataW H := .agg [.lit (.int .u32 0), .lit (.int .u32 498536548), .lit (.int .u32 997073096), .lit (.int .u32 651767980), .lit (.int .u32 1994146192), .lit (.int .u32 1802195444), .lit (.int .u32 1303535960), .lit (.int .u32 1342533948), .lit (.int .u32 3988292384), .lit (.int .u32 4027552580), .lit (.int .u32 3604390888), .lit (.int .u32 3412177804), .lit (.int .u32 2607071920), .lit (.int .u32 2262029012), .lit (.int .u32 2685067896), .lit (.int .u32 3183342108)]

/-- 'tandemlaw10.DirtyNone': WHATEVER THE INPUT: true; the input reads as it did. -/
def dirtyNoneSpec : ChangeSpec := { name := "dirtyNone", fn := fun _ => fun
  | [d1, d2] => { results := [.lit (.bool true)], args := [d1, d2] }
  | _ => none }
def dirtyNoneRow : OpenClaim := { program := "ytcahpodmcklnbaadoor", sum := "bf5c875a856db40a7b3824ce17fdc6b546098ec34e5aa423615afbfafee1776a", func := "tandem/tandemlaw10.DirtyNone", spec := "dirtyNone", inPlace := ["sync/atomic.AddInt64"], unfollowed := true, recurses := true, named := ["tandem/crc.halves"], apart := false, laid := [("tandem/crc.halves", laid_tandem_crc_halves)] }
def DirtyNoneSaid : Prop := dirtyNoneRow.holds Tryd.pinned (OpenSpec.ofChange dirtyNoneSpec)

/-- ITS FALSE NEIGHBOUR: 'it returns false'. Refute it at one input. -/
def dirtyNoneWrong : ChangeSpec := { name := "dirtyNone", fn := fun _ => fun
  | [d1, d2] => { results := [.lit (.bool false)], args := [d1, d2] }
  | _ => none }
def DirtyNoneWrongFalsely : Prop := dirtyNoneRow.holds Tryd.pinned (OpenSpec.ofChange dirtyNoneWrong)

/-- 'tandemlaw10.DirtyKeeps': WHATEVER THE INPUT: true; the input reads as it did. -/
def dirtyKeepsSpec : ChangeSpec := { name := "dirtyKeeps", fn := fun _ => fun
  | [d] => { results := [.lit (.bool true)], args := [d] }
  | _ => none }
def dirtyKeepsRow : OpenClaim := { program := "ytcahpodmcklnbaadoor", sum := "bf5c875a856db40a7b3824ce17fdc6b546098ec34e5aa423615afbfafee1776a", func := "tandem/tandemlaw10.DirtyKeeps", spec := "dirtyKeeps", inPlace := ["sync/atomic.AddInt64", "sync/atomic.LoadInt64"], unfollowed := true, recurses := true, named := ["tandem/crc.halves"], apart := false, laid := [("tandem/crc.halves", laid_tandem_crc_halves)] }
def DirtyKeepsSaid : Prop := dirtyKeepsRow.holds Tryd.pinned (OpenSpec.ofChange dirtyKeepsSpec)

/-- ITS FALSE NEIGHBOUR: 'it returns false'. Refute it at one input. -/
def dirtyKeepsWrong : ChangeSpec := { name := "dirtyKeeps", fn := fun _ => fun
  | [d] => { results := [.lit (.bool false)], args := [d] }
  | _ => none }
def DirtyKeepsWrongFalsely : Prop := dirtyKeepsRow.holds Tryd.pinned (OpenSpec.ofChange dirtyKeepsWrong)

/-- 'tandemlaw10.DirtySuper': WHATEVER THE INPUT: true; the input reads as it did. -/
def dirtySuperSpec : ChangeSpec := { name := "dirtySuper", fn := fun _ => fun
  | [d] => { results := [.lit (.bool true)], args := [d] }
  | _ => none }
def dirtySuperRow : OpenClaim := { program := "ytcahpodmcklnbaadoor", sum := "bf5c875a856db40a7b3824ce17fdc6b546098ec34e5aa423615afbfafee1776a", func := "tandem/tandemlaw10.DirtySuper", spec := "dirtySuper", inPlace := ["sync/atomic.AddInt64"], unfollowed := true, recurses := true, named := ["tandem/crc.halves"], apart := false, laid := [("tandem/crc.halves", laid_tandem_crc_halves)] }
def DirtySuperSaid : Prop := dirtySuperRow.holds Tryd.pinned (OpenSpec.ofChange dirtySuperSpec)

/-- ITS FALSE NEIGHBOUR: 'it returns false'. Refute it at one input. -/
def dirtySuperWrong : ChangeSpec := { name := "dirtySuper", fn := fun _ => fun
  | [d] => { results := [.lit (.bool false)], args := [d] }
  | _ => none }
def DirtySuperWrongFalsely : Prop := dirtySuperRow.holds Tryd.pinned (OpenSpec.ofChange dirtySuperWrong)

/-- 'tandemlaw10.DirtyKnown': WHATEVER THE INPUT: true; the input reads as it did. -/
def dirtyKnownSpec : ChangeSpec := { name := "dirtyKnown", fn := fun _ => fun
  | [] => { results := [.lit (.bool true)], args := [] }
  | _ => none }
def dirtyKnownRow : OpenClaim := { program := "ytcahpodmcklnbaadoor", sum := "bf5c875a856db40a7b3824ce17fdc6b546098ec34e5aa423615afbfafee1776a", func := "tandem/tandemlaw10.DirtyKnown", spec := "dirtyKnown", inPlace := ["sync/atomic.AddInt64", "sync/atomic.LoadInt64"], unfollowed := true, recurses := true, named := ["tandem/crc.halves"], apart := false, laid := [("tandem/crc.halves", laid_tandem_crc_halves)] }
def DirtyKnownSaid : Prop := dirtyKnownRow.holds Tryd.pinned (OpenSpec.ofChange dirtyKnownSpec)

/-- ITS FALSE NEIGHBOUR: 'it returns false'. Refute it at one input. -/
def dirtyKnownWrong : ChangeSpec := { name := "dirtyKnown", fn := fun _ => fun
  | [] => { results := [.lit (.bool false)], args := [] }
  | _ => none }
def DirtyKnownWrongFalsely : Prop := dirtyKnownRow.holds Tryd.pinned (OpenSpec.ofChange dirtyKnownWrong)

/- THE SECOND FORM. 'bulk': how many values and letters a reading holds, each counted each time it is reached (what is shared counts as often as it is met; a slice's spare places count too). A statement '..UptoSaid' is the law's where the arguments, and the package variables that the reading takes, are together of bulk at most 1048576: NARROWER than '..Said'. Prove '..Said' where nothing that the law and all that it calls make is longer than what came in: it says more and counts as full. Else prove '..UptoSaid'. A law counts once. -/
mutual
def uptoBulk {H : Type} : DataW H → Nat
  | .lit (.string bytes) => bytes.length + 1
  | .lit _ => 1
  | .nil => 1
  | .ptr d => uptoBulk d + 1
  | .slice elems spare => uptoBulkAll elems + uptoBulkAll spare + 1
  | .agg parts => uptoBulkAll parts + 1
  | .iface _ d => uptoBulk d + 1
  | .map entries => uptoBulkEntries entries + 1
  | .held _ => 1
def uptoBulkAll {H : Type} : List (DataW H) → Nat
  | [] => 0
  | d :: r => uptoBulk d + uptoBulkAll r
def uptoBulkEntries {H : Type} : List (Lit × DataW H) → Nat
  | [] => 0
  | x :: r => uptoBulkEntry x + uptoBulkEntries r
def uptoBulkEntry {H : Type} : Lit × DataW H → Nat
  | (.string bytes, d) => bytes.length + uptoBulk d + 1
  | (_, d) => uptoBulk d + 1
 end
def uptoSmall : (H : Type) → List (DataW H) → Bool := fun _ ds => decide (uptoBulkAll ds ≤ 1048576)
def OpenSpec.upto (s : _root_.Go.ChangeSpec) : _root_.Go.OpenSpec := { _root_.Go.OpenSpec.ofChange s with cond := some uptoSmall }

/-- 'tandemlaw10.DirtyNone', WHERE WHAT IT READS IS OF BULK AT MOST 1048576: true; the input reads as it did. -/
def dirtyNoneUptoRow : OpenClaim := { program := "ytcahpodmcklnbaadoor", sum := "bf5c875a856db40a7b3824ce17fdc6b546098ec34e5aa423615afbfafee1776a", func := "tandem/tandemlaw10.DirtyNone", spec := "dirtyNone", inPlace := ["sync/atomic.AddInt64"], unfollowed := true, recurses := true, named := ["tandem/crc.halves"], apart := false, laid := [("tandem/crc.halves", laid_tandem_crc_halves)], narrowed := true }
def DirtyNoneUptoSaid : Prop := dirtyNoneUptoRow.holds Tryd.pinned (OpenSpec.upto dirtyNoneSpec)

/-- 'tandemlaw10.DirtyKeeps', WHERE WHAT IT READS IS OF BULK AT MOST 1048576: true; the input reads as it did. -/
def dirtyKeepsUptoRow : OpenClaim := { program := "ytcahpodmcklnbaadoor", sum := "bf5c875a856db40a7b3824ce17fdc6b546098ec34e5aa423615afbfafee1776a", func := "tandem/tandemlaw10.DirtyKeeps", spec := "dirtyKeeps", inPlace := ["sync/atomic.AddInt64", "sync/atomic.LoadInt64"], unfollowed := true, recurses := true, named := ["tandem/crc.halves"], apart := false, laid := [("tandem/crc.halves", laid_tandem_crc_halves)], narrowed := true }
def DirtyKeepsUptoSaid : Prop := dirtyKeepsUptoRow.holds Tryd.pinned (OpenSpec.upto dirtyKeepsSpec)

/-- 'tandemlaw10.DirtySuper', WHERE WHAT IT READS IS OF BULK AT MOST 1048576: true; the input reads as it did. -/
def dirtySuperUptoRow : OpenClaim := { program := "ytcahpodmcklnbaadoor", sum := "bf5c875a856db40a7b3824ce17fdc6b546098ec34e5aa423615afbfafee1776a", func := "tandem/tandemlaw10.DirtySuper", spec := "dirtySuper", inPlace := ["sync/atomic.AddInt64"], unfollowed := true, recurses := true, named := ["tandem/crc.halves"], apart := false, laid := [("tandem/crc.halves", laid_tandem_crc_halves)], narrowed := true }
def DirtySuperUptoSaid : Prop := dirtySuperUptoRow.holds Tryd.pinned (OpenSpec.upto dirtySuperSpec)

/-- 'tandemlaw10.DirtyKnown', WHERE WHAT IT READS IS OF BULK AT MOST 1048576: true; the input reads as it did. -/
def dirtyKnownUptoRow : OpenClaim := { program := "ytcahpodmcklnbaadoor", sum := "bf5c875a856db40a7b3824ce17fdc6b546098ec34e5aa423615afbfafee1776a", func := "tandem/tandemlaw10.DirtyKnown", spec := "dirtyKnown", inPlace := ["sync/atomic.AddInt64", "sync/atomic.LoadInt64"], unfollowed := true, recurses := true, named := ["tandem/crc.halves"], apart := false, laid := [("tandem/crc.halves", laid_tandem_crc_halves)], narrowed := true }
def DirtyKnownUptoSaid : Prop := dirtyKnownUptoRow.holds Tryd.pinned (OpenSpec.upto dirtyKnownSpec)

end Rows
end Go.Proofs.YtcahpodmcklnbaaDoor
