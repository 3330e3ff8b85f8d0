/-
  NARROWER THAN 'FOR EVERY INPUT', by the rows' own cells (each row's printed sentence says how): SlotSectors: laid · SlotNone: laid · SlotCrash: laid · SlotTurned: laid · SlotBack: laid · SlotNumbers: laid · SlotTorn: laid · SlotKnown: laid.
  DERIVED. THE GIVEN ROWS OF THIS SEAT. 8 by the template 'for every input the law returns true; each argument reads behind the call as it read before'; 0 by the template 'total and deterministic' (their statements: YtgnfajmjhlnobaaDoorTotals.lean).
  GIVEN WITH THE SEED: the statements are not yours to turn. If you find one false, say at which input.
  Laid BY PROGRAM, IN A SANDBOX (cutbox-rows.mjs): the forced cells as the released guide's own fill.sh prints them over the translation 9ae3d1ca86701fb2… (all of the seat's roots in one cut). By AI agents, Wed Nov 11 2026. No macro, syntax, notation, axiom, sorry.
-/
import Derived.Test.YtgnfajmjhlnobaaDoorChecked
import GoSem.Claim
import GoSem.ClaimJoined
import GoSem.ClaimMapViews
import Derived.JoinedTies
import Derived.KernelRfl
namespace Go.Proofs.YtgnfajmjhlnobaaDoor
/- THE CELL 'sum', in the pinned program and in every row, IS THE sha256 OF THE DUMP (.gsa) THAT YtgnfajmjhlnobaaDoorProg.lean LOADS. Nothing in Lean hashes anything: it is a label: what it is worth is what the hold of that sum in a sandbox is worth. -/
noncomputable def Tryd.pinned : Pinned := { name := "ytgnfajmjhlnobaadoor", sum := "9ae3d1ca86701fb278fd68490eba41be06d8fd8beae97cc54a99d1799636e9fa", checked := Tryd.checked }
namespace Rows
def none {H : Type} : Left H := { results := [], args := [] }

/- WHAT THE LISTED PACKAGE-LEVEL VARIABLES READ AS WHEN THE CALL BEGINS. Each datum BY PROGRAM (the guide's laid-datum.mjs) off the statement by which the dump's own 'gosem.cut.vars' lays the variable. In a bare row this is a premise. The card (YtgnfajmjhlnobaaDoorCards.lean) ties it to the program's text. -/
def laid_tandem_crc_halves {H : Type} : DataW H := .agg [.lit (.int .u32 0), .lit (.int .u32 498536548), .lit (.int .u32 997073096), .lit (.int .u32 651767980), .lit (.int .u32 1994146192), .lit (.int .u32 1802195444), .lit (.int .u32 1303535960), .lit (.int .u32 1342533948), .lit (.int .u32 3988292384), .lit (.int .u32 4027552580), .lit (.int .u32 3604390888), .lit (.int .u32 3412177804), .lit (.int .u32 2607071920), .lit (.int .u32 2262029012), .lit (.int .u32 2685067896), .lit (.int .u32 3183342108)]

/-- 'tandemlaw05.SlotSectors': WHATEVER THE INPUT: true; the input reads as it did. -/
def slotSectorsSpec : ChangeSpec := { name := "slotSectors", fn := fun _ => fun
  | [d1, d2, d3] => { results := [.lit (.bool true)], args := [d1, d2, d3] }
  | _ => none }
def slotSectorsRow : OpenClaim := { program := "ytgnfajmjhlnobaadoor", sum := "9ae3d1ca86701fb278fd68490eba41be06d8fd8beae97cc54a99d1799636e9fa", func := "tandem/tandemlaw05.SlotSectors", spec := "slotSectors", inPlace := ["sync/atomic.AddInt64"], named := ["tandem/crc.halves"], apart := false, laid := [("tandem/crc.halves", laid_tandem_crc_halves)] }
def SlotSectorsSaid : Prop := slotSectorsRow.holds Tryd.pinned (OpenSpec.ofChange slotSectorsSpec)

/-- ITS FALSE NEIGHBOUR: 'it returns false'. Refute it at one input. -/
def slotSectorsWrong : ChangeSpec := { name := "slotSectors", fn := fun _ => fun
  | [d1, d2, d3] => { results := [.lit (.bool false)], args := [d1, d2, d3] }
  | _ => none }
def SlotSectorsWrongFalsely : Prop := slotSectorsRow.holds Tryd.pinned (OpenSpec.ofChange slotSectorsWrong)

/-- 'tandemlaw05.SlotNone': WHATEVER THE INPUT: true; the input reads as it did. -/
def slotNoneSpec : ChangeSpec := { name := "slotNone", fn := fun _ => fun
  | [d1, d2] => { results := [.lit (.bool true)], args := [d1, d2] }
  | _ => none }
def slotNoneRow : OpenClaim := { program := "ytgnfajmjhlnobaadoor", sum := "9ae3d1ca86701fb278fd68490eba41be06d8fd8beae97cc54a99d1799636e9fa", func := "tandem/tandemlaw05.SlotNone", spec := "slotNone", inPlace := ["sync/atomic.AddInt64"], named := ["tandem/crc.halves"], apart := false, laid := [("tandem/crc.halves", laid_tandem_crc_halves)] }
def SlotNoneSaid : Prop := slotNoneRow.holds Tryd.pinned (OpenSpec.ofChange slotNoneSpec)

/-- ITS FALSE NEIGHBOUR: 'it returns false'. Refute it at one input. -/
def slotNoneWrong : ChangeSpec := { name := "slotNone", fn := fun _ => fun
  | [d1, d2] => { results := [.lit (.bool false)], args := [d1, d2] }
  | _ => none }
def SlotNoneWrongFalsely : Prop := slotNoneRow.holds Tryd.pinned (OpenSpec.ofChange slotNoneWrong)

/-- 'tandemlaw05.SlotCrash': WHATEVER THE INPUT: true; the input reads as it did. -/
def slotCrashSpec : ChangeSpec := { name := "slotCrash", fn := fun _ => fun
  | [d] => { results := [.lit (.bool true)], args := [d] }
  | _ => none }
def slotCrashRow : OpenClaim := { program := "ytgnfajmjhlnobaadoor", sum := "9ae3d1ca86701fb278fd68490eba41be06d8fd8beae97cc54a99d1799636e9fa", func := "tandem/tandemlaw05.SlotCrash", spec := "slotCrash", inPlace := ["sync/atomic.AddInt64"], unfollowed := true, recurses := true, named := ["tandem/crc.halves"], apart := false, laid := [("tandem/crc.halves", laid_tandem_crc_halves)] }
def SlotCrashSaid : Prop := slotCrashRow.holds Tryd.pinned (OpenSpec.ofChange slotCrashSpec)

/-- ITS FALSE NEIGHBOUR: 'it returns false'. Refute it at one input. -/
def slotCrashWrong : ChangeSpec := { name := "slotCrash", fn := fun _ => fun
  | [d] => { results := [.lit (.bool false)], args := [d] }
  | _ => none }
def SlotCrashWrongFalsely : Prop := slotCrashRow.holds Tryd.pinned (OpenSpec.ofChange slotCrashWrong)

/-- 'tandemlaw05.SlotTurned': WHATEVER THE INPUT: true; the input reads as it did. -/
def slotTurnedSpec : ChangeSpec := { name := "slotTurned", fn := fun _ => fun
  | [d1, d2, d3, d4, d5] => { results := [.lit (.bool true)], args := [d1, d2, d3, d4, d5] }
  | _ => none }
def slotTurnedRow : OpenClaim := { program := "ytgnfajmjhlnobaadoor", sum := "9ae3d1ca86701fb278fd68490eba41be06d8fd8beae97cc54a99d1799636e9fa", func := "tandem/tandemlaw05.SlotTurned", spec := "slotTurned", inPlace := ["sync/atomic.AddInt64"], named := ["tandem/crc.halves"], apart := false, laid := [("tandem/crc.halves", laid_tandem_crc_halves)] }
def SlotTurnedSaid : Prop := slotTurnedRow.holds Tryd.pinned (OpenSpec.ofChange slotTurnedSpec)

/-- ITS FALSE NEIGHBOUR: 'it returns false'. Refute it at one input. -/
def slotTurnedWrong : ChangeSpec := { name := "slotTurned", fn := fun _ => fun
  | [d1, d2, d3, d4, d5] => { results := [.lit (.bool false)], args := [d1, d2, d3, d4, d5] }
  | _ => none }
def SlotTurnedWrongFalsely : Prop := slotTurnedRow.holds Tryd.pinned (OpenSpec.ofChange slotTurnedWrong)

/-- 'tandemlaw05.SlotBack': WHATEVER THE INPUT: true; the input reads as it did. -/
def slotBackSpec : ChangeSpec := { name := "slotBack", fn := fun _ => fun
  | [d1, d2, d3] => { results := [.lit (.bool true)], args := [d1, d2, d3] }
  | _ => none }
def slotBackRow : OpenClaim := { program := "ytgnfajmjhlnobaadoor", sum := "9ae3d1ca86701fb278fd68490eba41be06d8fd8beae97cc54a99d1799636e9fa", func := "tandem/tandemlaw05.SlotBack", spec := "slotBack", inPlace := ["sync/atomic.AddInt64"], named := ["tandem/crc.halves"], apart := false, laid := [("tandem/crc.halves", laid_tandem_crc_halves)] }
def SlotBackSaid : Prop := slotBackRow.holds Tryd.pinned (OpenSpec.ofChange slotBackSpec)

/-- ITS FALSE NEIGHBOUR: 'it returns false'. Refute it at one input. -/
def slotBackWrong : ChangeSpec := { name := "slotBack", fn := fun _ => fun
  | [d1, d2, d3] => { results := [.lit (.bool false)], args := [d1, d2, d3] }
  | _ => none }
def SlotBackWrongFalsely : Prop := slotBackRow.holds Tryd.pinned (OpenSpec.ofChange slotBackWrong)

/-- 'tandemlaw05.SlotNumbers': WHATEVER THE INPUT: true; the input reads as it did. -/
def slotNumbersSpec : ChangeSpec := { name := "slotNumbers", fn := fun _ => fun
  | [d1, d2] => { results := [.lit (.bool true)], args := [d1, d2] }
  | _ => none }
def slotNumbersRow : OpenClaim := { program := "ytgnfajmjhlnobaadoor", sum := "9ae3d1ca86701fb278fd68490eba41be06d8fd8beae97cc54a99d1799636e9fa", func := "tandem/tandemlaw05.SlotNumbers", spec := "slotNumbers", inPlace := ["sync/atomic.AddInt64"], named := ["tandem/crc.halves"], apart := false, laid := [("tandem/crc.halves", laid_tandem_crc_halves)] }
def SlotNumbersSaid : Prop := slotNumbersRow.holds Tryd.pinned (OpenSpec.ofChange slotNumbersSpec)

/-- ITS FALSE NEIGHBOUR: 'it returns false'. Refute it at one input. -/
def slotNumbersWrong : ChangeSpec := { name := "slotNumbers", fn := fun _ => fun
  | [d1, d2] => { results := [.lit (.bool false)], args := [d1, d2] }
  | _ => none }
def SlotNumbersWrongFalsely : Prop := slotNumbersRow.holds Tryd.pinned (OpenSpec.ofChange slotNumbersWrong)

/-- 'tandemlaw05.SlotTorn': WHATEVER THE INPUT: true; the input reads as it did. -/
def slotTornSpec : ChangeSpec := { name := "slotTorn", fn := fun _ => fun
  | [d1, d2, d3, d4] => { results := [.lit (.bool true)], args := [d1, d2, d3, d4] }
  | _ => none }
def slotTornRow : OpenClaim := { program := "ytgnfajmjhlnobaadoor", sum := "9ae3d1ca86701fb278fd68490eba41be06d8fd8beae97cc54a99d1799636e9fa", func := "tandem/tandemlaw05.SlotTorn", spec := "slotTorn", inPlace := ["sync/atomic.AddInt64"], named := ["tandem/crc.halves"], apart := false, laid := [("tandem/crc.halves", laid_tandem_crc_halves)] }
def SlotTornSaid : Prop := slotTornRow.holds Tryd.pinned (OpenSpec.ofChange slotTornSpec)

/-- ITS FALSE NEIGHBOUR: 'it returns false'. Refute it at one input. -/
def slotTornWrong : ChangeSpec := { name := "slotTorn", fn := fun _ => fun
  | [d1, d2, d3, d4] => { results := [.lit (.bool false)], args := [d1, d2, d3, d4] }
  | _ => none }
def SlotTornWrongFalsely : Prop := slotTornRow.holds Tryd.pinned (OpenSpec.ofChange slotTornWrong)

/-- 'tandemlaw05.SlotKnown': WHATEVER THE INPUT: true; the input reads as it did. -/
def slotKnownSpec : ChangeSpec := { name := "slotKnown", fn := fun _ => fun
  | [] => { results := [.lit (.bool true)], args := [] }
  | _ => none }
def slotKnownRow : OpenClaim := { program := "ytgnfajmjhlnobaadoor", sum := "9ae3d1ca86701fb278fd68490eba41be06d8fd8beae97cc54a99d1799636e9fa", func := "tandem/tandemlaw05.SlotKnown", spec := "slotKnown", inPlace := ["sync/atomic.AddInt64"], named := ["tandem/crc.halves"], apart := false, laid := [("tandem/crc.halves", laid_tandem_crc_halves)] }
def SlotKnownSaid : Prop := slotKnownRow.holds Tryd.pinned (OpenSpec.ofChange slotKnownSpec)

/-- ITS FALSE NEIGHBOUR: 'it returns false'. Refute it at one input. -/
def slotKnownWrong : ChangeSpec := { name := "slotKnown", fn := fun _ => fun
  | [] => { results := [.lit (.bool false)], args := [] }
  | _ => none }
def SlotKnownWrongFalsely : Prop := slotKnownRow.holds Tryd.pinned (OpenSpec.ofChange slotKnownWrong)

/- THE SECOND FORM. 'bulk': how many values and letters a reading holds, each counted each time it is reached (what is shared counts as often as it is met; a slice's spare places count too). A statement '..UptoSaid' is the law's where the arguments, and the package variables that the reading takes, are together of bulk at most 1048576: NARROWER than '..Said'. Prove '..Said' where nothing that the law and all that it calls make is longer than what came in: it says more and counts as full. Else prove '..UptoSaid'. A law counts once. -/
mutual
def uptoBulk {H : Type} : DataW H → Nat
  | .lit (.string bytes) => bytes.length + 1
  | .lit _ => 1
  | .nil => 1
  | .ptr d => uptoBulk d + 1
  | .slice elems spare => uptoBulkAll elems + uptoBulkAll spare + 1
  | .agg parts => uptoBulkAll parts + 1
  | .iface _ d => uptoBulk d + 1
  | .map entries => uptoBulkEntries entries + 1
  | .held _ => 1
def uptoBulkAll {H : Type} : List (DataW H) → Nat
  | [] => 0
  | d :: r => uptoBulk d + uptoBulkAll r
def uptoBulkEntries {H : Type} : List (Lit × DataW H) → Nat
  | [] => 0
  | x :: r => uptoBulkEntry x + uptoBulkEntries r
def uptoBulkEntry {H : Type} : Lit × DataW H → Nat
  | (.string bytes, d) => bytes.length + uptoBulk d + 1
  | (_, d) => uptoBulk d + 1
 end
def uptoSmall : (H : Type) → List (DataW H) → Bool := fun _ ds => decide (uptoBulkAll ds ≤ 1048576)
def OpenSpec.upto (s : _root_.Go.ChangeSpec) : _root_.Go.OpenSpec := { _root_.Go.OpenSpec.ofChange s with cond := some uptoSmall }

/-- 'tandemlaw05.SlotSectors', WHERE WHAT IT READS IS OF BULK AT MOST 1048576: true; the input reads as it did. -/
def slotSectorsUptoRow : OpenClaim := { program := "ytgnfajmjhlnobaadoor", sum := "9ae3d1ca86701fb278fd68490eba41be06d8fd8beae97cc54a99d1799636e9fa", func := "tandem/tandemlaw05.SlotSectors", spec := "slotSectors", inPlace := ["sync/atomic.AddInt64"], named := ["tandem/crc.halves"], apart := false, laid := [("tandem/crc.halves", laid_tandem_crc_halves)], narrowed := true }
def SlotSectorsUptoSaid : Prop := slotSectorsUptoRow.holds Tryd.pinned (OpenSpec.upto slotSectorsSpec)

/-- 'tandemlaw05.SlotNone', WHERE WHAT IT READS IS OF BULK AT MOST 1048576: true; the input reads as it did. -/
def slotNoneUptoRow : OpenClaim := { program := "ytgnfajmjhlnobaadoor", sum := "9ae3d1ca86701fb278fd68490eba41be06d8fd8beae97cc54a99d1799636e9fa", func := "tandem/tandemlaw05.SlotNone", spec := "slotNone", inPlace := ["sync/atomic.AddInt64"], named := ["tandem/crc.halves"], apart := false, laid := [("tandem/crc.halves", laid_tandem_crc_halves)], narrowed := true }
def SlotNoneUptoSaid : Prop := slotNoneUptoRow.holds Tryd.pinned (OpenSpec.upto slotNoneSpec)

/-- 'tandemlaw05.SlotCrash', WHERE WHAT IT READS IS OF BULK AT MOST 1048576: true; the input reads as it did. -/
def slotCrashUptoRow : OpenClaim := { program := "ytgnfajmjhlnobaadoor", sum := "9ae3d1ca86701fb278fd68490eba41be06d8fd8beae97cc54a99d1799636e9fa", func := "tandem/tandemlaw05.SlotCrash", spec := "slotCrash", inPlace := ["sync/atomic.AddInt64"], unfollowed := true, recurses := true, named := ["tandem/crc.halves"], apart := false, laid := [("tandem/crc.halves", laid_tandem_crc_halves)], narrowed := true }
def SlotCrashUptoSaid : Prop := slotCrashUptoRow.holds Tryd.pinned (OpenSpec.upto slotCrashSpec)

/-- 'tandemlaw05.SlotTurned', WHERE WHAT IT READS IS OF BULK AT MOST 1048576: true; the input reads as it did. -/
def slotTurnedUptoRow : OpenClaim := { program := "ytgnfajmjhlnobaadoor", sum := "9ae3d1ca86701fb278fd68490eba41be06d8fd8beae97cc54a99d1799636e9fa", func := "tandem/tandemlaw05.SlotTurned", spec := "slotTurned", inPlace := ["sync/atomic.AddInt64"], named := ["tandem/crc.halves"], apart := false, laid := [("tandem/crc.halves", laid_tandem_crc_halves)], narrowed := true }
def SlotTurnedUptoSaid : Prop := slotTurnedUptoRow.holds Tryd.pinned (OpenSpec.upto slotTurnedSpec)

/-- 'tandemlaw05.SlotBack', WHERE WHAT IT READS IS OF BULK AT MOST 1048576: true; the input reads as it did. -/
def slotBackUptoRow : OpenClaim := { program := "ytgnfajmjhlnobaadoor", sum := "9ae3d1ca86701fb278fd68490eba41be06d8fd8beae97cc54a99d1799636e9fa", func := "tandem/tandemlaw05.SlotBack", spec := "slotBack", inPlace := ["sync/atomic.AddInt64"], named := ["tandem/crc.halves"], apart := false, laid := [("tandem/crc.halves", laid_tandem_crc_halves)], narrowed := true }
def SlotBackUptoSaid : Prop := slotBackUptoRow.holds Tryd.pinned (OpenSpec.upto slotBackSpec)

/-- 'tandemlaw05.SlotNumbers', WHERE WHAT IT READS IS OF BULK AT MOST 1048576: true; the input reads as it did. -/
def slotNumbersUptoRow : OpenClaim := { program := "ytgnfajmjhlnobaadoor", sum := "9ae3d1ca86701fb278fd68490eba41be06d8fd8beae97cc54a99d1799636e9fa", func := "tandem/tandemlaw05.SlotNumbers", spec := "slotNumbers", inPlace := ["sync/atomic.AddInt64"], named := ["tandem/crc.halves"], apart := false, laid := [("tandem/crc.halves", laid_tandem_crc_halves)], narrowed := true }
def SlotNumbersUptoSaid : Prop := slotNumbersUptoRow.holds Tryd.pinned (OpenSpec.upto slotNumbersSpec)

/-- 'tandemlaw05.SlotTorn', WHERE WHAT IT READS IS OF BULK AT MOST 1048576: true; the input reads as it did. -/
def slotTornUptoRow : OpenClaim := { program := "ytgnfajmjhlnobaadoor", sum := "9ae3d1ca86701fb278fd68490eba41be06d8fd8beae97cc54a99d1799636e9fa", func := "tandem/tandemlaw05.SlotTorn", spec := "slotTorn", inPlace := ["sync/atomic.AddInt64"], named := ["tandem/crc.halves"], apart := false, laid := [("tandem/crc.halves", laid_tandem_crc_halves)], narrowed := true }
def SlotTornUptoSaid : Prop := slotTornUptoRow.holds Tryd.pinned (OpenSpec.upto slotTornSpec)

/-- 'tandemlaw05.SlotKnown', WHERE WHAT IT READS IS OF BULK AT MOST 1048576: true; the input reads as it did. -/
def slotKnownUptoRow : OpenClaim := { program := "ytgnfajmjhlnobaadoor", sum := "9ae3d1ca86701fb278fd68490eba41be06d8fd8beae97cc54a99d1799636e9fa", func := "tandem/tandemlaw05.SlotKnown", spec := "slotKnown", inPlace := ["sync/atomic.AddInt64"], named := ["tandem/crc.halves"], apart := false, laid := [("tandem/crc.halves", laid_tandem_crc_halves)], narrowed := true }
def SlotKnownUptoSaid : Prop := slotKnownUptoRow.holds Tryd.pinned (OpenSpec.upto slotKnownSpec)

end Rows
end Go.Proofs.YtgnfajmjhlnobaaDoor
