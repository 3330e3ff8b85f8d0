/-
  A disk's state, by the document, and what each call makes of it: plain mathematics; what a world may have turned. Conditions: none.
-/
import Derived.Test.YtgnfajmjhlnobaaDoorKitStep
import Derived.Test.YtgnfajmjhlnobaaDoorRow
namespace Go.Proofs.YtgnfajmjhlnobaaDoor
open Go.RowKit

set_option maxRecDepth 100000 in
theorem elI : Elem Tryd.prog 62 3 (.int .i64 0) 8 := ⟨Tryd.underlying62, ⟨_, rfl, by kernel_rfl, by kernel_rfl, by kernel_rfl⟩, rfl, rfl⟩
/-- a disk: how many sectors; what each has firmly; what is loose of it; how many changes there were; how many are allowed (none: any); whether it is out -/
structure DS where
  n : Nat
  firm : Nat → List UInt8
  loose : Nat → Option (List UInt8)
  ops : Nat
  left : Option Nat
  out : Bool

namespace DS
def fresh (n : Nat) : DS := ⟨n, fun _ => List.replicate 64 0, fun _ => none, 0, none, false⟩
/-- it is a disk -/
structure Ok (S : DS) : Prop where
  n1 : 1 ≤ S.n
  n2 : S.n ≤ 1024
  firm : ∀ i, i < S.n → (S.firm i).length = 64
  loose : ∀ i b, S.loose i = some b → i < S.n ∧ b.length = 64
/-- is the sector there -/
def there (S : DS) (i : Int) : Bool := decide (0 ≤ i) && decide (i < (S.n : Int))
theorem there_iff (S : DS) (i : Int) : S.there i = true ↔ 0 ≤ i ∧ i < (S.n : Int) := by simp [there]
/-- what a sector is read as -/
def last (S : DS) (i : Nat) : List UInt8 := (S.loose i).getD (S.firm i)
/-- a change more: none, where the fuse allows none -/
def chg (S : DS) : Option DS :=
  match S.left with
  | some 0 => none
  | some (k + 1) => some { S with left := some k, ops := S.ops + 1 }
  | none => some { S with ops := S.ops + 1 }
def upd {α : Type} (f : Nat → α) (i : Nat) (x : α) : Nat → α := fun j => if j = i then x else f j
def write (S : DS) (i : Int) (b : List UInt8) : DS × Int :=
  if S.out then (S, 10) else if S.there i = false then (S, 5) else if b.length ≠ 64 then (S, 2) else
  match S.chg with
  | none => ({ S with out := true }, 10)
  | some T => ({ T with loose := upd T.loose i.toNat (some b) }, 0)
def settle (S : DS) : DS := { S with firm := S.last, loose := fun _ => none }
def flush (S : DS) : DS × Int :=
  if S.out then (S, 10) else
  match S.chg with
  | none => ({ S with out := true }, 10)
  | some T => (T.settle, 0)
def readB (S : DS) (i : Int) : List UInt8 := if S.out then [] else if S.there i = false then [] else S.last i.toNat
def readE (S : DS) (i : Int) : Int := if S.out then 10 else if S.there i = false then 5 else 0
def isLoose (S : DS) (i : Nat) : Bool := (S.loose i).isSome
/-- the loose sectors below one -/
def looseBelow (S : DS) (s : Nat) : List Nat := (List.range s).filter S.isLoose
def looseList (S : DS) : List Int := (S.looseBelow S.n).map fun i : Nat => (i : Int)
/-- does a loose sector stay -/
def stays (S : DS) (keeps : List Bool) (s : Nat) : Bool := S.isLoose s && (keeps[(S.looseBelow s).length]?).getD false
def stayBelow (S : DS) (keeps : List Bool) (s : Nat) : List Nat := (List.range s).filter (S.stays keeps)
/-- what a sector is firmly behind a crash -/
def crashed (S : DS) (keeps : List Bool) (tear : Int) (s : Nat) : List UInt8 :=
  if S.stays keeps s then (if ((S.stayBelow keeps s).length : Int) = tear then (S.last s).take 32 ++ (S.firm s).drop 32 else S.last s) else S.firm s
def crash (S : DS) (keeps : List Bool) (tear : Int) : DS := { S with firm := S.crashed keeps tear, loose := fun _ => none, left := none, out := false }
def turn (S : DS) (i at_ : Int) (m : UInt8) : DS × Int :=
  if S.there i = true ∧ 0 ≤ at_ ∧ at_ < 64 then ({ S with firm := upd S.firm i.toNat ((S.firm i.toNat).set at_.toNat ((S.firm i.toNat).getD at_.toNat 0 ^^^ m)) }, 0) else (S, 5)
def fuse (S : DS) (k : Int) : DS × Int := if S.out then (S, 10) else if k < 0 then (S, 2) else ({ S with left := some k.toNat }, 0)
end DS

/-- but for the blocks F, and new ones, the world is as it was -/
structure Frame (F : Nat → Prop) (w w' : World) : Prop where
  os : w'.os = w.os
  tape : w'.tape = w.tape
  output : w'.output = w.output
  size : w.heap.size ≤ w'.heap.size
  block : ∀ k, k < w.heap.size → ¬ F k → w'.heap[k]? = w.heap[k]?
section
variable {F G : Nat → Prop} {a w w' : World} {B : Nat}
theorem Frame.refl (F : Nat → Prop) (w : World) : Frame F w w := ⟨rfl, rfl, rfl, Nat.le_refl _, fun _ _ _ => rfl⟩
theorem Frame.of_below (h : Below w.heap.size w w') : Frame F w w' := ⟨h.os, h.tape, h.output, h.size, fun k hk _ => h.block k hk⟩
theorem Frame.below (h : Frame F w w') (hF : ∀ k, F k → B ≤ k) (hB : B ≤ w.heap.size) : Below B w w' := ⟨h.os, h.tape, h.output, h.size, fun k hk => h.block k (by omega) (fun hf => by have := hF k hf; omega)⟩
theorem Frame.below0 (h : Frame F w w') (hF : ∀ k, ¬ F k) : Below w.heap.size w w' := ⟨h.os, h.tape, h.output, h.size, fun k hk => h.block k hk (hF k)⟩
theorem Frame.mono (h : Frame F w w') (hFG : ∀ k, F k → G k) : Frame G w w' := ⟨h.os, h.tape, h.output, h.size, fun k hk hg => h.block k hk (fun hf => hg (hFG k hf))⟩
/-- what the second step turns is among the first's, or new then -/
theorem Frame.trans (h : Frame F a w) (h2 : Frame G w w') (hG : ∀ k, G k → F k ∨ a.heap.size ≤ k) : Frame F a w' :=
  ⟨h2.os.trans h.os, h2.tape.trans h.tape, h2.output.trans h.output, Nat.le_trans h.size h2.size, fun k hk hf =>
    (h2.block k (Nat.lt_of_lt_of_le hk h.size) (fun hg => (hG k hg).elim hf (fun h => by omega))).trans (h.block k hk hf)⟩
theorem Frame.bytes {A : Option Addr} {l : List UInt8} (h : Frame F w w') (hr : BytesAt w w.heap.size A l) (hF : ∀ ad, A = some ad → ¬ F ad.block) : BytesAt w' w'.heap.size A l := fun hl => by
  obtain ⟨ad, e, hb, hc⟩ := hr hl
  refine ⟨ad, e, Nat.lt_of_lt_of_le hb h.size, fun k hk => ?_⟩
  rw [← hc k hk]
  exact World.cell?_of_block (w := w) (by rw [block_add]; exact h.block _ hb (hF ad e))
theorem Frame.blk {g : Nat} {l : List UInt8} (h : Frame F w w') (hb : BlkB w g l) (hF : ¬ F g) : BlkB w' g l := (h.block g hb.lt hF).trans hb
end

/-- what is read: nil, or a whole block that is new (a slice's own, or an array's) -/
def RdB (w : World) (base : Nat) (A : Option Addr) (c : Nat) (l : List UInt8) : Prop :=
  (l = [] ∧ A = none ∧ c = 0) ∨ ∃ g E, A = some ⟨g, 0, none⟩ ∧ base ≤ g ∧ BlkR E w g (cellsOfBytes l) ∧ c = l.length
section
variable {w w' : World} {base c : Nat} {A : Option Addr} {l : List UInt8}
theorem RdB.bytes (h : RdB w base A c l) : BytesAt w w.heap.size A l := fun hl => by
  rcases h with ⟨rfl, _, _⟩ | ⟨g, E, rfl, _, hb, _⟩
  · exact absurd rfl hl
  · refine ⟨_, rfl, hb.lt, fun k hk => ?_⟩
    rw [addr_zero_add]
    exact hb.cell (cellsOfBytes_get l k hk)
theorem RdB.cells (h : RdB w base A c l) (hl : 0 < l.length) : ∃ g, A = some ⟨g, 0, none⟩ ∧ ∀ k, k < l.length → w.cell? ⟨g, k, none⟩ = some (.int .u8 ((l.getD k 0).toNat : Int)) := by
  rcases h with ⟨rfl, _, _⟩ | ⟨g, E, rfl, _, hb, _⟩
  · cases hl
  · exact ⟨g, rfl, fun k hk => hb.cell (cellsOfBytes_get l k hk)⟩
end

/-- WHAT A DISK's METHODS DO, whatever the package's own memory looks like: 'At w b F S': at block b there is a disk of state S, whose memory is the blocks F. -/
structure Disks (P : Program) (At : World → Nat → (Nat → Prop) → DS → Prop) : Prop where
  ok : ∀ w b F S, At w b F S → S.Ok
  lt : ∀ w b F S, At w b F S → ∀ k, F k → k < w.heap.size
  keep : ∀ w w' b F S, At w b F S → w.heap.size ≤ w'.heap.size → (∀ k, F k → w'.heap[k]? = w.heap[k]?) → At w' b F S
  new_no : ∀ n w, n < 1 ∨ 1024 < n → Calls P 22 #[.int .i64 n] w fun e w' => e = .returned (.tuple #[.pointer none, .int .i64 5]) ∧ Below w.heap.size w w'
  new_yes : ∀ (n : Nat) w, 1 ≤ n → n ≤ 1024 → Calls P 22 #[.int .i64 (n : Int)] w fun e w' =>
    ∃ b F, e = .returned (.tuple #[.pointer (some ⟨b, 0, none⟩), .int .i64 0]) ∧ At w' b F (DS.fresh n) ∧ (∀ k, F k → w.heap.size ≤ k) ∧ Below w.heap.size w w'
  write : ∀ w b F S i A l n c, At w b F S → S.ops ≤ 1000000 → BytesAt w w.heap.size A l → l.length = n → n ≤ c → Calls P 62 #[.pointer (some ⟨b, 0, none⟩), .int .i64 i, .slice A n c] w fun e w' =>
    ∃ F', e = .returned (.int .i64 (S.write i l).2) ∧ At w' b F' (S.write i l).1 ∧ (∀ k, F' k → F k ∨ w.heap.size ≤ k) ∧ Frame F w w'
  flush : ∀ w b F S, At w b F S → S.ops ≤ 1000000 → Calls P 63 #[.pointer (some ⟨b, 0, none⟩)] w fun e w' =>
    ∃ F', e = .returned (.int .i64 S.flush.2) ∧ At w' b F' S.flush.1 ∧ (∀ k, F' k → F k ∨ w.heap.size ≤ k) ∧ Frame F w w'
  read : ∀ w b F S i, At w b F S → Calls P 49 #[.pointer (some ⟨b, 0, none⟩), .int .i64 i] w fun e w' =>
    ∃ A c, e = .returned (.tuple #[.slice A (S.readB i).length c, .int .i64 (S.readE i)]) ∧ RdB w' w.heap.size A c (S.readB i) ∧ Below w.heap.size w w'
  crash : ∀ w b F S A (keeps : List Bool) n c tear, At w b F S → RowAt w w.heap.size A (keeps.map Value.bool) → keeps.length = n → n ≤ c → Calls P 24 #[.pointer (some ⟨b, 0, none⟩), .slice A n c, .int .i64 tear] w fun e w' =>
    ∃ F', e = .returned (.int .i64 0) ∧ At w' b F' (S.crash keeps tear) ∧ (∀ k, F' k → F k ∨ w.heap.size ≤ k) ∧ Frame F w w'
  turn : ∀ w b F S i at_ (m : UInt8), At w b F S → Calls P 26 #[.pointer (some ⟨b, 0, none⟩), .int .i64 i, .int .i64 at_, .int .u8 (m.toNat : Int)] w fun e w' =>
    ∃ F', e = .returned (.int .i64 (S.turn i at_ m).2) ∧ At w' b F' (S.turn i at_ m).1 ∧ (∀ k, F' k → F k ∨ w.heap.size ≤ k) ∧ Frame F w w'
  fuse : ∀ w b F S n, At w b F S → -9223372036854775808 ≤ n → n ≤ 9223372036854775807 → Calls P 23 #[.pointer (some ⟨b, 0, none⟩), .int .i64 n] w fun e w' =>
    ∃ F', e = .returned (.int .i64 (S.fuse n).2) ∧ At w' b F' (S.fuse n).1 ∧ (∀ k, F' k → F k ∨ w.heap.size ≤ k) ∧ Frame F w w'
  sectors : ∀ w b F S, At w b F S → Calls P 44 #[.pointer (some ⟨b, 0, none⟩)] w fun e w' => e = .returned (.int .i64 (S.n : Int)) ∧ Below w.heap.size w w'
  loose : ∀ w b F S, At w b F S → Calls P 64 #[.pointer (some ⟨b, 0, none⟩)] w fun e w' =>
    ∃ A c, e = .returned (.slice A S.looseList.length c) ∧ S.looseList.length ≤ c ∧ RowAt w' w'.heap.size A (iv S.looseList) ∧ Below w.heap.size w w'
end Go.Proofs.YtgnfajmjhlnobaaDoor
