/-
  NARROWER THAN 'FOR EVERY INPUT', by the rows' own cells (each row's printed sentence says how): SessionScript: laid · LeaseTells: laid · LeaseKeeps: laid · LeaseKnown: laid · LeaseApart: laid · LeaseEnds: laid · LeaseOne: laid.
  DERIVED. THE GIVEN ROWS OF THIS SEAT. 7 by the template 'for every input the law returns true; each argument reads behind the call as it read before'; 0 by the template 'total and deterministic' (their statements: YtljgjehecaiohaaDoorTotals.lean).
  GIVEN WITH THE SEED: the statements are not yours to turn. If you find one false, say at which input.
  Laid BY PROGRAM, IN A SANDBOX (cutbox-rows.mjs): the forced cells as the released guide's own fill.sh prints them over the translation 199ccfd3cade71b0… (all of the seat's roots in one cut). By AI agents, Wed Nov 11 2026. No macro, syntax, notation, axiom, sorry.
-/
import Derived.Test.YtljgjehecaiohaaDoorChecked
import GoSem.Claim
import GoSem.ClaimJoined
import GoSem.ClaimMapViews
import Derived.JoinedTies
import Derived.KernelRfl
namespace Go.Proofs.YtljgjehecaiohaaDoor
/- THE CELL 'sum', in the pinned program and in every row, IS THE sha256 OF THE DUMP (.gsa) THAT YtljgjehecaiohaaDoorProg.lean LOADS. Nothing in Lean hashes anything: it is a label: what it is worth is what the hold of that sum in a sandbox is worth. -/
noncomputable def Tryd.pinned : Pinned := { name := "ytljgjehecaiohaadoor", sum := "199ccfd3cade71b0cf679f0004b134f119d84c523fbc55572d3d955d97e5f63a", checked := Tryd.checked }
namespace Rows
def none {H : Type} : Left H := { results := [], args := [] }

/- WHAT THE LISTED PACKAGE-LEVEL VARIABLES READ AS WHEN THE CALL BEGINS. Each datum BY PROGRAM (the guide's laid-datum.mjs) off the statement by which the dump's own 'gosem.cut.vars' lays the variable. In a bare row this is a premise. The card (YtljgjehecaiohaaDoorCards.lean) ties it to the program's text. -/
def laid_tandem_crc_halves {H : Type} : DataW H := .agg [.lit (.int .u32 0), .lit (.int .u32 498536548), .lit (.int .u32 997073096), .lit (.int .u32 651767980), .lit (.int .u32 1994146192), .lit (.int .u32 1802195444), .lit (.int .u32 1303535960), .lit (.int .u32 1342533948), .lit (.int .u32 3988292384), .lit (.int .u32 4027552580), .lit (.int .u32 3604390888), .lit (.int .u32 3412177804), .lit (.int .u32 2607071920), .lit (.int .u32 2262029012), .lit (.int .u32 2685067896), .lit (.int .u32 3183342108)]
def laid_tandem_lease_bounds {H : Type} : DataW H := .agg [.agg [.lit (.int .i64 0), .lit (.int .i64 1099511627776)], .agg [.lit (.int .i64 0), .lit (.int .i64 899)], .agg [.lit (.int .i64 (-1099511627776)), .lit (.int .i64 1099)], .agg [.lit (.int .i64 90), .lit (.int .i64 110)]]

/-- 'tandemlaw13.SessionScript': WHATEVER THE INPUT: true; the input reads as it did. -/
def sessionScriptSpec : ChangeSpec := { name := "sessionScript", fn := fun _ => fun
  | [d1, d2, d3] => { results := [.lit (.bool true)], args := [d1, d2, d3] }
  | _ => none }
def sessionScriptRow : OpenClaim := { program := "ytljgjehecaiohaadoor", sum := "199ccfd3cade71b0cf679f0004b134f119d84c523fbc55572d3d955d97e5f63a", func := "tandem/tandemlaw13.SessionScript", spec := "sessionScript", unfollowed := true, recurses := true, named := ["tandem/crc.halves"], apart := false, laid := [("tandem/crc.halves", laid_tandem_crc_halves)] }
def SessionScriptSaid : Prop := sessionScriptRow.holds Tryd.pinned (OpenSpec.ofChange sessionScriptSpec)

/-- ITS FALSE NEIGHBOUR: 'it returns false'. Refute it at one input. -/
def sessionScriptWrong : ChangeSpec := { name := "sessionScript", fn := fun _ => fun
  | [d1, d2, d3] => { results := [.lit (.bool false)], args := [d1, d2, d3] }
  | _ => none }
def SessionScriptWrongFalsely : Prop := sessionScriptRow.holds Tryd.pinned (OpenSpec.ofChange sessionScriptWrong)

/-- 'tandemlaw16.LeaseTells': WHATEVER THE INPUT: true; the input reads as it did. -/
def leaseTellsSpec : ChangeSpec := { name := "leaseTells", fn := fun _ => fun
  | [d1, d2, d3, d4] => { results := [.lit (.bool true)], args := [d1, d2, d3, d4] }
  | _ => none }
def leaseTellsRow : OpenClaim := { program := "ytljgjehecaiohaadoor", sum := "199ccfd3cade71b0cf679f0004b134f119d84c523fbc55572d3d955d97e5f63a", func := "tandem/tandemlaw16.LeaseTells", spec := "leaseTells", unfollowed := true, recurses := true, named := ["tandem/lease.bounds"], apart := false, laid := [("tandem/lease.bounds", laid_tandem_lease_bounds)] }
def LeaseTellsSaid : Prop := leaseTellsRow.holds Tryd.pinned (OpenSpec.ofChange leaseTellsSpec)

/-- ITS FALSE NEIGHBOUR: 'it returns false'. Refute it at one input. -/
def leaseTellsWrong : ChangeSpec := { name := "leaseTells", fn := fun _ => fun
  | [d1, d2, d3, d4] => { results := [.lit (.bool false)], args := [d1, d2, d3, d4] }
  | _ => none }
def LeaseTellsWrongFalsely : Prop := leaseTellsRow.holds Tryd.pinned (OpenSpec.ofChange leaseTellsWrong)

/-- 'tandemlaw16.LeaseKeeps': WHATEVER THE INPUT: true; the input reads as it did. -/
def leaseKeepsSpec : ChangeSpec := { name := "leaseKeeps", fn := fun _ => fun
  | [d] => { results := [.lit (.bool true)], args := [d] }
  | _ => none }
def leaseKeepsRow : OpenClaim := { program := "ytljgjehecaiohaadoor", sum := "199ccfd3cade71b0cf679f0004b134f119d84c523fbc55572d3d955d97e5f63a", func := "tandem/tandemlaw16.LeaseKeeps", spec := "leaseKeeps", unfollowed := true, recurses := true, named := ["tandem/lease.bounds"], apart := false, laid := [("tandem/lease.bounds", laid_tandem_lease_bounds)] }
def LeaseKeepsSaid : Prop := leaseKeepsRow.holds Tryd.pinned (OpenSpec.ofChange leaseKeepsSpec)

/-- ITS FALSE NEIGHBOUR: 'it returns false'. Refute it at one input. -/
def leaseKeepsWrong : ChangeSpec := { name := "leaseKeeps", fn := fun _ => fun
  | [d] => { results := [.lit (.bool false)], args := [d] }
  | _ => none }
def LeaseKeepsWrongFalsely : Prop := leaseKeepsRow.holds Tryd.pinned (OpenSpec.ofChange leaseKeepsWrong)

/-- 'tandemlaw16.LeaseKnown': WHATEVER THE INPUT: true; the input reads as it did. -/
def leaseKnownSpec : ChangeSpec := { name := "leaseKnown", fn := fun _ => fun
  | [] => { results := [.lit (.bool true)], args := [] }
  | _ => none }
def leaseKnownRow : OpenClaim := { program := "ytljgjehecaiohaadoor", sum := "199ccfd3cade71b0cf679f0004b134f119d84c523fbc55572d3d955d97e5f63a", func := "tandem/tandemlaw16.LeaseKnown", spec := "leaseKnown", unfollowed := true, recurses := true, named := ["tandem/lease.bounds"], apart := false, laid := [("tandem/lease.bounds", laid_tandem_lease_bounds)] }
def LeaseKnownSaid : Prop := leaseKnownRow.holds Tryd.pinned (OpenSpec.ofChange leaseKnownSpec)

/-- ITS FALSE NEIGHBOUR: 'it returns false'. Refute it at one input. -/
def leaseKnownWrong : ChangeSpec := { name := "leaseKnown", fn := fun _ => fun
  | [] => { results := [.lit (.bool false)], args := [] }
  | _ => none }
def LeaseKnownWrongFalsely : Prop := leaseKnownRow.holds Tryd.pinned (OpenSpec.ofChange leaseKnownWrong)

/-- 'tandemlaw16.LeaseApart': WHATEVER THE INPUT: true; the input reads as it did. -/
def leaseApartSpec : ChangeSpec := { name := "leaseApart", fn := fun _ => fun
  | [d1, d2, d3, d4, d5] => { results := [.lit (.bool true)], args := [d1, d2, d3, d4, d5] }
  | _ => none }
def leaseApartRow : OpenClaim := { program := "ytljgjehecaiohaadoor", sum := "199ccfd3cade71b0cf679f0004b134f119d84c523fbc55572d3d955d97e5f63a", func := "tandem/tandemlaw16.LeaseApart", spec := "leaseApart", unfollowed := true, recurses := true, named := ["tandem/lease.bounds"], apart := false, laid := [("tandem/lease.bounds", laid_tandem_lease_bounds)] }
def LeaseApartSaid : Prop := leaseApartRow.holds Tryd.pinned (OpenSpec.ofChange leaseApartSpec)

/-- ITS FALSE NEIGHBOUR: 'it returns false'. Refute it at one input. -/
def leaseApartWrong : ChangeSpec := { name := "leaseApart", fn := fun _ => fun
  | [d1, d2, d3, d4, d5] => { results := [.lit (.bool false)], args := [d1, d2, d3, d4, d5] }
  | _ => none }
def LeaseApartWrongFalsely : Prop := leaseApartRow.holds Tryd.pinned (OpenSpec.ofChange leaseApartWrong)

/-- 'tandemlaw16.LeaseEnds': WHATEVER THE INPUT: true; the input reads as it did. -/
def leaseEndsSpec : ChangeSpec := { name := "leaseEnds", fn := fun _ => fun
  | [d1, d2, d3] => { results := [.lit (.bool true)], args := [d1, d2, d3] }
  | _ => none }
def leaseEndsRow : OpenClaim := { program := "ytljgjehecaiohaadoor", sum := "199ccfd3cade71b0cf679f0004b134f119d84c523fbc55572d3d955d97e5f63a", func := "tandem/tandemlaw16.LeaseEnds", spec := "leaseEnds", unfollowed := true, recurses := true, named := ["tandem/lease.bounds"], apart := false, laid := [("tandem/lease.bounds", laid_tandem_lease_bounds)] }
def LeaseEndsSaid : Prop := leaseEndsRow.holds Tryd.pinned (OpenSpec.ofChange leaseEndsSpec)

/-- ITS FALSE NEIGHBOUR: 'it returns false'. Refute it at one input. -/
def leaseEndsWrong : ChangeSpec := { name := "leaseEnds", fn := fun _ => fun
  | [d1, d2, d3] => { results := [.lit (.bool false)], args := [d1, d2, d3] }
  | _ => none }
def LeaseEndsWrongFalsely : Prop := leaseEndsRow.holds Tryd.pinned (OpenSpec.ofChange leaseEndsWrong)

/-- 'tandemlaw16.LeaseOne': WHATEVER THE INPUT: true; the input reads as it did. -/
def leaseOneSpec : ChangeSpec := { name := "leaseOne", fn := fun _ => fun
  | [d1, d2] => { results := [.lit (.bool true)], args := [d1, d2] }
  | _ => none }
def leaseOneRow : OpenClaim := { program := "ytljgjehecaiohaadoor", sum := "199ccfd3cade71b0cf679f0004b134f119d84c523fbc55572d3d955d97e5f63a", func := "tandem/tandemlaw16.LeaseOne", spec := "leaseOne", unfollowed := true, recurses := true, named := ["tandem/lease.bounds"], apart := false, laid := [("tandem/lease.bounds", laid_tandem_lease_bounds)] }
def LeaseOneSaid : Prop := leaseOneRow.holds Tryd.pinned (OpenSpec.ofChange leaseOneSpec)

/-- ITS FALSE NEIGHBOUR: 'it returns false'. Refute it at one input. -/
def leaseOneWrong : ChangeSpec := { name := "leaseOne", fn := fun _ => fun
  | [d1, d2] => { results := [.lit (.bool false)], args := [d1, d2] }
  | _ => none }
def LeaseOneWrongFalsely : Prop := leaseOneRow.holds Tryd.pinned (OpenSpec.ofChange leaseOneWrong)

/- THE SECOND FORM. 'bulk': how many values and letters a reading holds, each counted each time it is reached (what is shared counts as often as it is met; a slice's spare places count too). A statement '..UptoSaid' is the law's where the arguments, and the package variables that the reading takes, are together of bulk at most 1048576: NARROWER than '..Said'. Prove '..Said' where nothing that the law and all that it calls make is longer than what came in: it says more and counts as full. Else prove '..UptoSaid'. A law counts once. -/
mutual
def uptoBulk {H : Type} : DataW H → Nat
  | .lit (.string bytes) => bytes.length + 1
  | .lit _ => 1
  | .nil => 1
  | .ptr d => uptoBulk d + 1
  | .slice elems spare => uptoBulkAll elems + uptoBulkAll spare + 1
  | .agg parts => uptoBulkAll parts + 1
  | .iface _ d => uptoBulk d + 1
  | .map entries => uptoBulkEntries entries + 1
  | .held _ => 1
def uptoBulkAll {H : Type} : List (DataW H) → Nat
  | [] => 0
  | d :: r => uptoBulk d + uptoBulkAll r
def uptoBulkEntries {H : Type} : List (Lit × DataW H) → Nat
  | [] => 0
  | x :: r => uptoBulkEntry x + uptoBulkEntries r
def uptoBulkEntry {H : Type} : Lit × DataW H → Nat
  | (.string bytes, d) => bytes.length + uptoBulk d + 1
  | (_, d) => uptoBulk d + 1
 end
def uptoSmall : (H : Type) → List (DataW H) → Bool := fun _ ds => decide (uptoBulkAll ds ≤ 1048576)
def OpenSpec.upto (s : _root_.Go.ChangeSpec) : _root_.Go.OpenSpec := { _root_.Go.OpenSpec.ofChange s with cond := some uptoSmall }

/-- 'tandemlaw13.SessionScript', WHERE WHAT IT READS IS OF BULK AT MOST 1048576: true; the input reads as it did. -/
def sessionScriptUptoRow : OpenClaim := { program := "ytljgjehecaiohaadoor", sum := "199ccfd3cade71b0cf679f0004b134f119d84c523fbc55572d3d955d97e5f63a", func := "tandem/tandemlaw13.SessionScript", spec := "sessionScript", unfollowed := true, recurses := true, named := ["tandem/crc.halves"], apart := false, laid := [("tandem/crc.halves", laid_tandem_crc_halves)], narrowed := true }
def SessionScriptUptoSaid : Prop := sessionScriptUptoRow.holds Tryd.pinned (OpenSpec.upto sessionScriptSpec)

/-- 'tandemlaw16.LeaseTells', WHERE WHAT IT READS IS OF BULK AT MOST 1048576: true; the input reads as it did. -/
def leaseTellsUptoRow : OpenClaim := { program := "ytljgjehecaiohaadoor", sum := "199ccfd3cade71b0cf679f0004b134f119d84c523fbc55572d3d955d97e5f63a", func := "tandem/tandemlaw16.LeaseTells", spec := "leaseTells", unfollowed := true, recurses := true, named := ["tandem/lease.bounds"], apart := false, laid := [("tandem/lease.bounds", laid_tandem_lease_bounds)], narrowed := true }
def LeaseTellsUptoSaid : Prop := leaseTellsUptoRow.holds Tryd.pinned (OpenSpec.upto leaseTellsSpec)

/-- 'tandemlaw16.LeaseKeeps', WHERE WHAT IT READS IS OF BULK AT MOST 1048576: true; the input reads as it did. -/
def leaseKeepsUptoRow : OpenClaim := { program := "ytljgjehecaiohaadoor", sum := "199ccfd3cade71b0cf679f0004b134f119d84c523fbc55572d3d955d97e5f63a", func := "tandem/tandemlaw16.LeaseKeeps", spec := "leaseKeeps", unfollowed := true, recurses := true, named := ["tandem/lease.bounds"], apart := false, laid := [("tandem/lease.bounds", laid_tandem_lease_bounds)], narrowed := true }
def LeaseKeepsUptoSaid : Prop := leaseKeepsUptoRow.holds Tryd.pinned (OpenSpec.upto leaseKeepsSpec)

/-- 'tandemlaw16.LeaseKnown', WHERE WHAT IT READS IS OF BULK AT MOST 1048576: true; the input reads as it did. -/
def leaseKnownUptoRow : OpenClaim := { program := "ytljgjehecaiohaadoor", sum := "199ccfd3cade71b0cf679f0004b134f119d84c523fbc55572d3d955d97e5f63a", func := "tandem/tandemlaw16.LeaseKnown", spec := "leaseKnown", unfollowed := true, recurses := true, named := ["tandem/lease.bounds"], apart := false, laid := [("tandem/lease.bounds", laid_tandem_lease_bounds)], narrowed := true }
def LeaseKnownUptoSaid : Prop := leaseKnownUptoRow.holds Tryd.pinned (OpenSpec.upto leaseKnownSpec)

/-- 'tandemlaw16.LeaseApart', WHERE WHAT IT READS IS OF BULK AT MOST 1048576: true; the input reads as it did. -/
def leaseApartUptoRow : OpenClaim := { program := "ytljgjehecaiohaadoor", sum := "199ccfd3cade71b0cf679f0004b134f119d84c523fbc55572d3d955d97e5f63a", func := "tandem/tandemlaw16.LeaseApart", spec := "leaseApart", unfollowed := true, recurses := true, named := ["tandem/lease.bounds"], apart := false, laid := [("tandem/lease.bounds", laid_tandem_lease_bounds)], narrowed := true }
def LeaseApartUptoSaid : Prop := leaseApartUptoRow.holds Tryd.pinned (OpenSpec.upto leaseApartSpec)

/-- 'tandemlaw16.LeaseEnds', WHERE WHAT IT READS IS OF BULK AT MOST 1048576: true; the input reads as it did. -/
def leaseEndsUptoRow : OpenClaim := { program := "ytljgjehecaiohaadoor", sum := "199ccfd3cade71b0cf679f0004b134f119d84c523fbc55572d3d955d97e5f63a", func := "tandem/tandemlaw16.LeaseEnds", spec := "leaseEnds", unfollowed := true, recurses := true, named := ["tandem/lease.bounds"], apart := false, laid := [("tandem/lease.bounds", laid_tandem_lease_bounds)], narrowed := true }
def LeaseEndsUptoSaid : Prop := leaseEndsUptoRow.holds Tryd.pinned (OpenSpec.upto leaseEndsSpec)

/-- 'tandemlaw16.LeaseOne', WHERE WHAT IT READS IS OF BULK AT MOST 1048576: true; the input reads as it did. -/
def leaseOneUptoRow : OpenClaim := { program := "ytljgjehecaiohaadoor", sum := "199ccfd3cade71b0cf679f0004b134f119d84c523fbc55572d3d955d97e5f63a", func := "tandem/tandemlaw16.LeaseOne", spec := "leaseOne", unfollowed := true, recurses := true, named := ["tandem/lease.bounds"], apart := false, laid := [("tandem/lease.bounds", laid_tandem_lease_bounds)], narrowed := true }
def LeaseOneUptoSaid : Prop := leaseOneUptoRow.holds Tryd.pinned (OpenSpec.upto leaseOneSpec)

end Rows
end Go.Proofs.YtljgjehecaiohaaDoor
