/-
  No cell of these rows narrows 'for every input' (looked for: loops, veiled, ifaces, maps, wideKeys, modest, calm, conditions, laid).
  DERIVED. THE GIVEN ROWS OF THIS SEAT. 6 by the template 'for every input the law returns true; each argument reads behind the call as it read before'; 0 by the template 'total and deterministic' (their statements: YtofecokbpopdnaaTotals.lean).
  GIVEN WITH THE SEED: the statements are not yours to turn. If you find one false, say at which input.
  Laid BY PROGRAM, IN A SANDBOX (cutbox-rows.mjs): the forced cells as the released guide's own fill.sh prints them over the translation 6177fb2cbd9f74ed… (all of the seat's roots in one cut). By AI agents, Wed Nov 11 2026. No macro, syntax, notation, axiom, sorry.
-/
import Derived.Test.YtofecokbpopdnaaChecked
import GoSem.Claim
import GoSem.ClaimJoined
import GoSem.ClaimMapViews
import Derived.JoinedTies
import Derived.KernelRfl
namespace Go.Proofs.Ytofecokbpopdnaa
/- THE CELL 'sum', in the pinned program and in every row, IS THE sha256 OF THE DUMP (.gsa) THAT YtofecokbpopdnaaProg.lean LOADS. Nothing in Lean hashes anything: it is a label: what it is worth is what the hold of that sum in a sandbox is worth. -/
noncomputable def Try.pinned : Pinned := { name := "ytofecokbpopdnaa", sum := "6177fb2cbd9f74edac05c39f9aedac2c10eb7e73eb50fced67e731f104d17133", checked := Try.checked }
namespace Rows
def none {H : Type} : Left H := { results := [], args := [] }

/-- 'tandemlaw17.RecordTells': WHATEVER THE INPUT: true; the input reads as it did. -/
def recordTellsSpec : ChangeSpec := { name := "recordTells", fn := fun _ => fun
  | [d1, d2, d3] => { results := [.lit (.bool true)], args := [d1, d2, d3] }
  | _ => none }
def recordTellsRow : OpenClaim := { program := "ytofecokbpopdnaa", sum := "6177fb2cbd9f74edac05c39f9aedac2c10eb7e73eb50fced67e731f104d17133", func := "tandem/tandemlaw17.RecordTells", spec := "recordTells", apart := false }
def RecordTellsSaid : Prop := recordTellsRow.holds Try.pinned (OpenSpec.ofChange recordTellsSpec)

/-- ITS FALSE NEIGHBOUR: 'it returns false'. Refute it at one input. -/
def recordTellsWrong : ChangeSpec := { name := "recordTells", fn := fun _ => fun
  | [d1, d2, d3] => { results := [.lit (.bool false)], args := [d1, d2, d3] }
  | _ => none }
def RecordTellsWrongFalsely : Prop := recordTellsRow.holds Try.pinned (OpenSpec.ofChange recordTellsWrong)

/-- 'tandemlaw17.RecordNexts': WHATEVER THE INPUT: true; the input reads as it did. -/
def recordNextsSpec : ChangeSpec := { name := "recordNexts", fn := fun _ => fun
  | [d1, d2, d3] => { results := [.lit (.bool true)], args := [d1, d2, d3] }
  | _ => none }
def recordNextsRow : OpenClaim := { program := "ytofecokbpopdnaa", sum := "6177fb2cbd9f74edac05c39f9aedac2c10eb7e73eb50fced67e731f104d17133", func := "tandem/tandemlaw17.RecordNexts", spec := "recordNexts", apart := false }
def RecordNextsSaid : Prop := recordNextsRow.holds Try.pinned (OpenSpec.ofChange recordNextsSpec)

/-- ITS FALSE NEIGHBOUR: 'it returns false'. Refute it at one input. -/
def recordNextsWrong : ChangeSpec := { name := "recordNexts", fn := fun _ => fun
  | [d1, d2, d3] => { results := [.lit (.bool false)], args := [d1, d2, d3] }
  | _ => none }
def RecordNextsWrongFalsely : Prop := recordNextsRow.holds Try.pinned (OpenSpec.ofChange recordNextsWrong)

/-- 'tandemlaw17.RecordKnown': WHATEVER THE INPUT: true; the input reads as it did. -/
def recordKnownSpec : ChangeSpec := { name := "recordKnown", fn := fun _ => fun
  | [] => { results := [.lit (.bool true)], args := [] }
  | _ => none }
def recordKnownRow : OpenClaim := { program := "ytofecokbpopdnaa", sum := "6177fb2cbd9f74edac05c39f9aedac2c10eb7e73eb50fced67e731f104d17133", func := "tandem/tandemlaw17.RecordKnown", spec := "recordKnown", apart := false }
def RecordKnownSaid : Prop := recordKnownRow.holds Try.pinned (OpenSpec.ofChange recordKnownSpec)

/-- ITS FALSE NEIGHBOUR: 'it returns false'. Refute it at one input. -/
def recordKnownWrong : ChangeSpec := { name := "recordKnown", fn := fun _ => fun
  | [] => { results := [.lit (.bool false)], args := [] }
  | _ => none }
def RecordKnownWrongFalsely : Prop := recordKnownRow.holds Try.pinned (OpenSpec.ofChange recordKnownWrong)

/-- 'tandemlaw17.RecordOrder': WHATEVER THE INPUT: true; the input reads as it did. -/
def recordOrderSpec : ChangeSpec := { name := "recordOrder", fn := fun _ => fun
  | [d1, d2, d3, d4, d5, d6] => { results := [.lit (.bool true)], args := [d1, d2, d3, d4, d5, d6] }
  | _ => none }
def recordOrderRow : OpenClaim := { program := "ytofecokbpopdnaa", sum := "6177fb2cbd9f74edac05c39f9aedac2c10eb7e73eb50fced67e731f104d17133", func := "tandem/tandemlaw17.RecordOrder", spec := "recordOrder", apart := false }
def RecordOrderSaid : Prop := recordOrderRow.holds Try.pinned (OpenSpec.ofChange recordOrderSpec)

/-- ITS FALSE NEIGHBOUR: 'it returns false'. Refute it at one input. -/
def recordOrderWrong : ChangeSpec := { name := "recordOrder", fn := fun _ => fun
  | [d1, d2, d3, d4, d5, d6] => { results := [.lit (.bool false)], args := [d1, d2, d3, d4, d5, d6] }
  | _ => none }
def RecordOrderWrongFalsely : Prop := recordOrderRow.holds Try.pinned (OpenSpec.ofChange recordOrderWrong)

/-- 'tandemlaw17.RecordMost': WHATEVER THE INPUT: true; the input reads as it did. -/
def recordMostSpec : ChangeSpec := { name := "recordMost", fn := fun _ => fun
  | [d1, d2, d3, d4] => { results := [.lit (.bool true)], args := [d1, d2, d3, d4] }
  | _ => none }
def recordMostRow : OpenClaim := { program := "ytofecokbpopdnaa", sum := "6177fb2cbd9f74edac05c39f9aedac2c10eb7e73eb50fced67e731f104d17133", func := "tandem/tandemlaw17.RecordMost", spec := "recordMost", apart := false }
def RecordMostSaid : Prop := recordMostRow.holds Try.pinned (OpenSpec.ofChange recordMostSpec)

/-- ITS FALSE NEIGHBOUR: 'it returns false'. Refute it at one input. -/
def recordMostWrong : ChangeSpec := { name := "recordMost", fn := fun _ => fun
  | [d1, d2, d3, d4] => { results := [.lit (.bool false)], args := [d1, d2, d3, d4] }
  | _ => none }
def RecordMostWrongFalsely : Prop := recordMostRow.holds Try.pinned (OpenSpec.ofChange recordMostWrong)

/-- 'tandemlaw17.RecordSafe': WHATEVER THE INPUT: true; the input reads as it did. -/
def recordSafeSpec : ChangeSpec := { name := "recordSafe", fn := fun _ => fun
  | [d] => { results := [.lit (.bool true)], args := [d] }
  | _ => none }
def recordSafeRow : OpenClaim := { program := "ytofecokbpopdnaa", sum := "6177fb2cbd9f74edac05c39f9aedac2c10eb7e73eb50fced67e731f104d17133", func := "tandem/tandemlaw17.RecordSafe", spec := "recordSafe", apart := false }
def RecordSafeSaid : Prop := recordSafeRow.holds Try.pinned (OpenSpec.ofChange recordSafeSpec)

/-- ITS FALSE NEIGHBOUR: 'it returns false'. Refute it at one input. -/
def recordSafeWrong : ChangeSpec := { name := "recordSafe", fn := fun _ => fun
  | [d] => { results := [.lit (.bool false)], args := [d] }
  | _ => none }
def RecordSafeWrongFalsely : Prop := recordSafeRow.holds Try.pinned (OpenSpec.ofChange recordSafeWrong)

/- THE SECOND FORM. 'bulk': how many values and letters a reading holds, each counted each time it is reached (what is shared counts as often as it is met; a slice's spare places count too). A statement '..UptoSaid' is the law's where the arguments, and the package variables that the reading takes, are together of bulk at most 1048576: NARROWER than '..Said'. Prove '..Said' where nothing that the law and all that it calls make is longer than what came in: it says more and counts as full. Else prove '..UptoSaid'. A law counts once. -/
mutual
def uptoBulk {H : Type} : DataW H → Nat
  | .lit (.string bytes) => bytes.length + 1
  | .lit _ => 1
  | .nil => 1
  | .ptr d => uptoBulk d + 1
  | .slice elems spare => uptoBulkAll elems + uptoBulkAll spare + 1
  | .agg parts => uptoBulkAll parts + 1
  | .iface _ d => uptoBulk d + 1
  | .map entries => uptoBulkEntries entries + 1
  | .held _ => 1
def uptoBulkAll {H : Type} : List (DataW H) → Nat
  | [] => 0
  | d :: r => uptoBulk d + uptoBulkAll r
def uptoBulkEntries {H : Type} : List (Lit × DataW H) → Nat
  | [] => 0
  | x :: r => uptoBulkEntry x + uptoBulkEntries r
def uptoBulkEntry {H : Type} : Lit × DataW H → Nat
  | (.string bytes, d) => bytes.length + uptoBulk d + 1
  | (_, d) => uptoBulk d + 1
 end
def uptoSmall : (H : Type) → List (DataW H) → Bool := fun _ ds => decide (uptoBulkAll ds ≤ 1048576)
def OpenSpec.upto (s : _root_.Go.ChangeSpec) : _root_.Go.OpenSpec := { _root_.Go.OpenSpec.ofChange s with cond := some uptoSmall }

/-- 'tandemlaw17.RecordTells', WHERE WHAT IT READS IS OF BULK AT MOST 1048576: true; the input reads as it did. -/
def recordTellsUptoRow : OpenClaim := { program := "ytofecokbpopdnaa", sum := "6177fb2cbd9f74edac05c39f9aedac2c10eb7e73eb50fced67e731f104d17133", func := "tandem/tandemlaw17.RecordTells", spec := "recordTells", apart := false, narrowed := true }
def RecordTellsUptoSaid : Prop := recordTellsUptoRow.holds Try.pinned (OpenSpec.upto recordTellsSpec)

/-- 'tandemlaw17.RecordNexts', WHERE WHAT IT READS IS OF BULK AT MOST 1048576: true; the input reads as it did. -/
def recordNextsUptoRow : OpenClaim := { program := "ytofecokbpopdnaa", sum := "6177fb2cbd9f74edac05c39f9aedac2c10eb7e73eb50fced67e731f104d17133", func := "tandem/tandemlaw17.RecordNexts", spec := "recordNexts", apart := false, narrowed := true }
def RecordNextsUptoSaid : Prop := recordNextsUptoRow.holds Try.pinned (OpenSpec.upto recordNextsSpec)

/-- 'tandemlaw17.RecordKnown', WHERE WHAT IT READS IS OF BULK AT MOST 1048576: true; the input reads as it did. -/
def recordKnownUptoRow : OpenClaim := { program := "ytofecokbpopdnaa", sum := "6177fb2cbd9f74edac05c39f9aedac2c10eb7e73eb50fced67e731f104d17133", func := "tandem/tandemlaw17.RecordKnown", spec := "recordKnown", apart := false, narrowed := true }
def RecordKnownUptoSaid : Prop := recordKnownUptoRow.holds Try.pinned (OpenSpec.upto recordKnownSpec)

/-- 'tandemlaw17.RecordOrder', WHERE WHAT IT READS IS OF BULK AT MOST 1048576: true; the input reads as it did. -/
def recordOrderUptoRow : OpenClaim := { program := "ytofecokbpopdnaa", sum := "6177fb2cbd9f74edac05c39f9aedac2c10eb7e73eb50fced67e731f104d17133", func := "tandem/tandemlaw17.RecordOrder", spec := "recordOrder", apart := false, narrowed := true }
def RecordOrderUptoSaid : Prop := recordOrderUptoRow.holds Try.pinned (OpenSpec.upto recordOrderSpec)

/-- 'tandemlaw17.RecordMost', WHERE WHAT IT READS IS OF BULK AT MOST 1048576: true; the input reads as it did. -/
def recordMostUptoRow : OpenClaim := { program := "ytofecokbpopdnaa", sum := "6177fb2cbd9f74edac05c39f9aedac2c10eb7e73eb50fced67e731f104d17133", func := "tandem/tandemlaw17.RecordMost", spec := "recordMost", apart := false, narrowed := true }
def RecordMostUptoSaid : Prop := recordMostUptoRow.holds Try.pinned (OpenSpec.upto recordMostSpec)

/-- 'tandemlaw17.RecordSafe', WHERE WHAT IT READS IS OF BULK AT MOST 1048576: true; the input reads as it did. -/
def recordSafeUptoRow : OpenClaim := { program := "ytofecokbpopdnaa", sum := "6177fb2cbd9f74edac05c39f9aedac2c10eb7e73eb50fced67e731f104d17133", func := "tandem/tandemlaw17.RecordSafe", spec := "recordSafe", apart := false, narrowed := true }
def RecordSafeUptoSaid : Prop := recordSafeUptoRow.holds Try.pinned (OpenSpec.upto recordSafeSpec)

end Rows
end Go.Proofs.Ytofecokbpopdnaa
