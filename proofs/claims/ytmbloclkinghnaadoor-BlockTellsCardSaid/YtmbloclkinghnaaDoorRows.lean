/-
  NARROWER THAN 'FOR EVERY INPUT', by the rows' own cells (each row's printed sentence says how): BlockTells: laid · BlockBack: laid · BlockTorn: laid · BlockTurned: laid · BlockApart: laid · BlockKnown: laid.
  DERIVED. THE GIVEN ROWS OF THIS SEAT. 6 by the template 'for every input the law returns true; each argument reads behind the call as it read before'; 0 by the template 'total and deterministic' (their statements: YtmbloclkinghnaaDoorTotals.lean).
  GIVEN WITH THE SEED: the statements are not yours to turn. If you find one false, say at which input.
  Laid BY PROGRAM, IN A SANDBOX (cutbox-rows.mjs): the forced cells as the released guide's own fill.sh prints them over the translation 1e9ae68c37e6a548… (all of the seat's roots in one cut). By AI agents, Wed Nov 11 2026. No macro, syntax, notation, axiom, sorry.
-/
import Derived.Test.YtmbloclkinghnaaDoorChecked
import GoSem.Claim
import GoSem.ClaimJoined
import GoSem.ClaimMapViews
import Derived.JoinedTies
import Derived.KernelRfl
namespace Go.Proofs.YtmbloclkinghnaaDoor
/- THE CELL 'sum', in the pinned program and in every row, IS THE sha256 OF THE DUMP (.gsa) THAT YtmbloclkinghnaaDoorProg.lean LOADS. Nothing in Lean hashes anything: it is a label: what it is worth is what the hold of that sum in a sandbox is worth. -/
noncomputable def Tryd.pinned : Pinned := { name := "ytmbloclkinghnaadoor", sum := "1e9ae68c37e6a5488f2a8eda674243a3bb9eedfa06ca500aabad4b94e4cd68ae", checked := Tryd.checked }
namespace Rows
def none {H : Type} : Left H := { results := [], args := [] }

/- WHAT THE LISTED PACKAGE-LEVEL VARIABLES READ AS WHEN THE CALL BEGINS. Each datum BY PROGRAM (the guide's laid-datum.mjs) off the statement by which the dump's own 'gosem.cut.vars' lays the variable. In a bare row this is a premise. The card (YtmbloclkinghnaaDoorCards.lean) ties it to the program's text. -/
def laid_tandem_crc_halves {H : Type} : DataW H := .agg [.lit (.int .u32 0), .lit (.int .u32 498536548), .lit (.int .u32 997073096), .lit (.int .u32 651767980), .lit (.int .u32 1994146192), .lit (.int .u32 1802195444), .lit (.int .u32 1303535960), .lit (.int .u32 1342533948), .lit (.int .u32 3988292384), .lit (.int .u32 4027552580), .lit (.int .u32 3604390888), .lit (.int .u32 3412177804), .lit (.int .u32 2607071920), .lit (.int .u32 2262029012), .lit (.int .u32 2685067896), .lit (.int .u32 3183342108)]

/-- 'tandemlaw07.BlockTells': WHATEVER THE INPUT: true; the input reads as it did. -/
def blockTellsSpec : ChangeSpec := { name := "blockTells", fn := fun _ => fun
  | [d1, d2, d3, d4] => { results := [.lit (.bool true)], args := [d1, d2, d3, d4] }
  | _ => none }
def blockTellsRow : OpenClaim := { program := "ytmbloclkinghnaadoor", sum := "1e9ae68c37e6a5488f2a8eda674243a3bb9eedfa06ca500aabad4b94e4cd68ae", func := "tandem/tandemlaw07.BlockTells", spec := "blockTells", named := ["tandem/crc.halves"], apart := false, laid := [("tandem/crc.halves", laid_tandem_crc_halves)] }
def BlockTellsSaid : Prop := blockTellsRow.holds Tryd.pinned (OpenSpec.ofChange blockTellsSpec)

/-- ITS FALSE NEIGHBOUR: 'it returns false'. Refute it at one input. -/
def blockTellsWrong : ChangeSpec := { name := "blockTells", fn := fun _ => fun
  | [d1, d2, d3, d4] => { results := [.lit (.bool false)], args := [d1, d2, d3, d4] }
  | _ => none }
def BlockTellsWrongFalsely : Prop := blockTellsRow.holds Tryd.pinned (OpenSpec.ofChange blockTellsWrong)

/-- 'tandemlaw07.BlockBack': WHATEVER THE INPUT: true; the input reads as it did. -/
def blockBackSpec : ChangeSpec := { name := "blockBack", fn := fun _ => fun
  | [d1, d2, d3, d4, d5] => { results := [.lit (.bool true)], args := [d1, d2, d3, d4, d5] }
  | _ => none }
def blockBackRow : OpenClaim := { program := "ytmbloclkinghnaadoor", sum := "1e9ae68c37e6a5488f2a8eda674243a3bb9eedfa06ca500aabad4b94e4cd68ae", func := "tandem/tandemlaw07.BlockBack", spec := "blockBack", named := ["tandem/crc.halves"], apart := false, laid := [("tandem/crc.halves", laid_tandem_crc_halves)] }
def BlockBackSaid : Prop := blockBackRow.holds Tryd.pinned (OpenSpec.ofChange blockBackSpec)

/-- ITS FALSE NEIGHBOUR: 'it returns false'. Refute it at one input. -/
def blockBackWrong : ChangeSpec := { name := "blockBack", fn := fun _ => fun
  | [d1, d2, d3, d4, d5] => { results := [.lit (.bool false)], args := [d1, d2, d3, d4, d5] }
  | _ => none }
def BlockBackWrongFalsely : Prop := blockBackRow.holds Tryd.pinned (OpenSpec.ofChange blockBackWrong)

/-- 'tandemlaw07.BlockTorn': WHATEVER THE INPUT: true; the input reads as it did. -/
def blockTornSpec : ChangeSpec := { name := "blockTorn", fn := fun _ => fun
  | [d1, d2, d3, d4, d5] => { results := [.lit (.bool true)], args := [d1, d2, d3, d4, d5] }
  | _ => none }
def blockTornRow : OpenClaim := { program := "ytmbloclkinghnaadoor", sum := "1e9ae68c37e6a5488f2a8eda674243a3bb9eedfa06ca500aabad4b94e4cd68ae", func := "tandem/tandemlaw07.BlockTorn", spec := "blockTorn", named := ["tandem/crc.halves"], apart := false, laid := [("tandem/crc.halves", laid_tandem_crc_halves)] }
def BlockTornSaid : Prop := blockTornRow.holds Tryd.pinned (OpenSpec.ofChange blockTornSpec)

/-- ITS FALSE NEIGHBOUR: 'it returns false'. Refute it at one input. -/
def blockTornWrong : ChangeSpec := { name := "blockTorn", fn := fun _ => fun
  | [d1, d2, d3, d4, d5] => { results := [.lit (.bool false)], args := [d1, d2, d3, d4, d5] }
  | _ => none }
def BlockTornWrongFalsely : Prop := blockTornRow.holds Tryd.pinned (OpenSpec.ofChange blockTornWrong)

/-- 'tandemlaw07.BlockTurned': WHATEVER THE INPUT: true; the input reads as it did. -/
def blockTurnedSpec : ChangeSpec := { name := "blockTurned", fn := fun _ => fun
  | [d1, d2, d3, d4, d5] => { results := [.lit (.bool true)], args := [d1, d2, d3, d4, d5] }
  | _ => none }
def blockTurnedRow : OpenClaim := { program := "ytmbloclkinghnaadoor", sum := "1e9ae68c37e6a5488f2a8eda674243a3bb9eedfa06ca500aabad4b94e4cd68ae", func := "tandem/tandemlaw07.BlockTurned", spec := "blockTurned", named := ["tandem/crc.halves"], apart := false, laid := [("tandem/crc.halves", laid_tandem_crc_halves)] }
def BlockTurnedSaid : Prop := blockTurnedRow.holds Tryd.pinned (OpenSpec.ofChange blockTurnedSpec)

/-- ITS FALSE NEIGHBOUR: 'it returns false'. Refute it at one input. -/
def blockTurnedWrong : ChangeSpec := { name := "blockTurned", fn := fun _ => fun
  | [d1, d2, d3, d4, d5] => { results := [.lit (.bool false)], args := [d1, d2, d3, d4, d5] }
  | _ => none }
def BlockTurnedWrongFalsely : Prop := blockTurnedRow.holds Tryd.pinned (OpenSpec.ofChange blockTurnedWrong)

/-- 'tandemlaw07.BlockApart': WHATEVER THE INPUT: true; the input reads as it did. -/
def blockApartSpec : ChangeSpec := { name := "blockApart", fn := fun _ => fun
  | [d1, d2, d3, d4, d5, d6] => { results := [.lit (.bool true)], args := [d1, d2, d3, d4, d5, d6] }
  | _ => none }
def blockApartRow : OpenClaim := { program := "ytmbloclkinghnaadoor", sum := "1e9ae68c37e6a5488f2a8eda674243a3bb9eedfa06ca500aabad4b94e4cd68ae", func := "tandem/tandemlaw07.BlockApart", spec := "blockApart", named := ["tandem/crc.halves"], apart := false, laid := [("tandem/crc.halves", laid_tandem_crc_halves)] }
def BlockApartSaid : Prop := blockApartRow.holds Tryd.pinned (OpenSpec.ofChange blockApartSpec)

/-- ITS FALSE NEIGHBOUR: 'it returns false'. Refute it at one input. -/
def blockApartWrong : ChangeSpec := { name := "blockApart", fn := fun _ => fun
  | [d1, d2, d3, d4, d5, d6] => { results := [.lit (.bool false)], args := [d1, d2, d3, d4, d5, d6] }
  | _ => none }
def BlockApartWrongFalsely : Prop := blockApartRow.holds Tryd.pinned (OpenSpec.ofChange blockApartWrong)

/-- 'tandemlaw07.BlockKnown': WHATEVER THE INPUT: true; the input reads as it did. -/
def blockKnownSpec : ChangeSpec := { name := "blockKnown", fn := fun _ => fun
  | [] => { results := [.lit (.bool true)], args := [] }
  | _ => none }
def blockKnownRow : OpenClaim := { program := "ytmbloclkinghnaadoor", sum := "1e9ae68c37e6a5488f2a8eda674243a3bb9eedfa06ca500aabad4b94e4cd68ae", func := "tandem/tandemlaw07.BlockKnown", spec := "blockKnown", named := ["tandem/crc.halves"], apart := false, laid := [("tandem/crc.halves", laid_tandem_crc_halves)] }
def BlockKnownSaid : Prop := blockKnownRow.holds Tryd.pinned (OpenSpec.ofChange blockKnownSpec)

/-- ITS FALSE NEIGHBOUR: 'it returns false'. Refute it at one input. -/
def blockKnownWrong : ChangeSpec := { name := "blockKnown", fn := fun _ => fun
  | [] => { results := [.lit (.bool false)], args := [] }
  | _ => none }
def BlockKnownWrongFalsely : Prop := blockKnownRow.holds Tryd.pinned (OpenSpec.ofChange blockKnownWrong)

/- THE SECOND FORM. 'bulk': how many values and letters a reading holds, each counted each time it is reached (what is shared counts as often as it is met; a slice's spare places count too). A statement '..UptoSaid' is the law's where the arguments, and the package variables that the reading takes, are together of bulk at most 1048576: NARROWER than '..Said'. Prove '..Said' where nothing that the law and all that it calls make is longer than what came in: it says more and counts as full. Else prove '..UptoSaid'. A law counts once. -/
mutual
def uptoBulk {H : Type} : DataW H → Nat
  | .lit (.string bytes) => bytes.length + 1
  | .lit _ => 1
  | .nil => 1
  | .ptr d => uptoBulk d + 1
  | .slice elems spare => uptoBulkAll elems + uptoBulkAll spare + 1
  | .agg parts => uptoBulkAll parts + 1
  | .iface _ d => uptoBulk d + 1
  | .map entries => uptoBulkEntries entries + 1
  | .held _ => 1
def uptoBulkAll {H : Type} : List (DataW H) → Nat
  | [] => 0
  | d :: r => uptoBulk d + uptoBulkAll r
def uptoBulkEntries {H : Type} : List (Lit × DataW H) → Nat
  | [] => 0
  | x :: r => uptoBulkEntry x + uptoBulkEntries r
def uptoBulkEntry {H : Type} : Lit × DataW H → Nat
  | (.string bytes, d) => bytes.length + uptoBulk d + 1
  | (_, d) => uptoBulk d + 1
 end
def uptoSmall : (H : Type) → List (DataW H) → Bool := fun _ ds => decide (uptoBulkAll ds ≤ 1048576)
def OpenSpec.upto (s : _root_.Go.ChangeSpec) : _root_.Go.OpenSpec := { _root_.Go.OpenSpec.ofChange s with cond := some uptoSmall }

/-- 'tandemlaw07.BlockTells', WHERE WHAT IT READS IS OF BULK AT MOST 1048576: true; the input reads as it did. -/
def blockTellsUptoRow : OpenClaim := { program := "ytmbloclkinghnaadoor", sum := "1e9ae68c37e6a5488f2a8eda674243a3bb9eedfa06ca500aabad4b94e4cd68ae", func := "tandem/tandemlaw07.BlockTells", spec := "blockTells", named := ["tandem/crc.halves"], apart := false, laid := [("tandem/crc.halves", laid_tandem_crc_halves)], narrowed := true }
def BlockTellsUptoSaid : Prop := blockTellsUptoRow.holds Tryd.pinned (OpenSpec.upto blockTellsSpec)

/-- 'tandemlaw07.BlockBack', WHERE WHAT IT READS IS OF BULK AT MOST 1048576: true; the input reads as it did. -/
def blockBackUptoRow : OpenClaim := { program := "ytmbloclkinghnaadoor", sum := "1e9ae68c37e6a5488f2a8eda674243a3bb9eedfa06ca500aabad4b94e4cd68ae", func := "tandem/tandemlaw07.BlockBack", spec := "blockBack", named := ["tandem/crc.halves"], apart := false, laid := [("tandem/crc.halves", laid_tandem_crc_halves)], narrowed := true }
def BlockBackUptoSaid : Prop := blockBackUptoRow.holds Tryd.pinned (OpenSpec.upto blockBackSpec)

/-- 'tandemlaw07.BlockTorn', WHERE WHAT IT READS IS OF BULK AT MOST 1048576: true; the input reads as it did. -/
def blockTornUptoRow : OpenClaim := { program := "ytmbloclkinghnaadoor", sum := "1e9ae68c37e6a5488f2a8eda674243a3bb9eedfa06ca500aabad4b94e4cd68ae", func := "tandem/tandemlaw07.BlockTorn", spec := "blockTorn", named := ["tandem/crc.halves"], apart := false, laid := [("tandem/crc.halves", laid_tandem_crc_halves)], narrowed := true }
def BlockTornUptoSaid : Prop := blockTornUptoRow.holds Tryd.pinned (OpenSpec.upto blockTornSpec)

/-- 'tandemlaw07.BlockTurned', WHERE WHAT IT READS IS OF BULK AT MOST 1048576: true; the input reads as it did. -/
def blockTurnedUptoRow : OpenClaim := { program := "ytmbloclkinghnaadoor", sum := "1e9ae68c37e6a5488f2a8eda674243a3bb9eedfa06ca500aabad4b94e4cd68ae", func := "tandem/tandemlaw07.BlockTurned", spec := "blockTurned", named := ["tandem/crc.halves"], apart := false, laid := [("tandem/crc.halves", laid_tandem_crc_halves)], narrowed := true }
def BlockTurnedUptoSaid : Prop := blockTurnedUptoRow.holds Tryd.pinned (OpenSpec.upto blockTurnedSpec)

/-- 'tandemlaw07.BlockApart', WHERE WHAT IT READS IS OF BULK AT MOST 1048576: true; the input reads as it did. -/
def blockApartUptoRow : OpenClaim := { program := "ytmbloclkinghnaadoor", sum := "1e9ae68c37e6a5488f2a8eda674243a3bb9eedfa06ca500aabad4b94e4cd68ae", func := "tandem/tandemlaw07.BlockApart", spec := "blockApart", named := ["tandem/crc.halves"], apart := false, laid := [("tandem/crc.halves", laid_tandem_crc_halves)], narrowed := true }
def BlockApartUptoSaid : Prop := blockApartUptoRow.holds Tryd.pinned (OpenSpec.upto blockApartSpec)

/-- 'tandemlaw07.BlockKnown', WHERE WHAT IT READS IS OF BULK AT MOST 1048576: true; the input reads as it did. -/
def blockKnownUptoRow : OpenClaim := { program := "ytmbloclkinghnaadoor", sum := "1e9ae68c37e6a5488f2a8eda674243a3bb9eedfa06ca500aabad4b94e4cd68ae", func := "tandem/tandemlaw07.BlockKnown", spec := "blockKnown", named := ["tandem/crc.halves"], apart := false, laid := [("tandem/crc.halves", laid_tandem_crc_halves)], narrowed := true }
def BlockKnownUptoSaid : Prop := blockKnownUptoRow.holds Tryd.pinned (OpenSpec.upto blockKnownSpec)

end Rows
end Go.Proofs.YtmbloclkinghnaaDoor
