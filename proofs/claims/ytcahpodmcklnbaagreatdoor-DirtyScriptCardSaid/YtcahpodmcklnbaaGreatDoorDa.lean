/-
  Several texts in one (Disk, DmMem, DmSmall, DmArr, DmRead, DmWrite, DmTurn). Conditions: as each says.
-/
import Derived.Test.YtcahpodmcklnbaaGreatDoorBa
import Derived.Maps.Own
import Derived.Maps.OwnSet
import Derived.Maps.RangeWalk
import Derived.Deep.WholeRow
import Derived.Deep.MidRow
import Derived.Laws.LoneSync
import Derived.LaidEqlPtr
import Derived.Laws.CopyOwn
import Derived.Deep.RegionHeld3
import Derived.Laws.BitsAllLaws
/-
  A disk's state, by the document, and what each call makes of it: plain mathematics; what a world may have turned. Conditions: none.
-/
namespace Go.Proofs.YtcahpodmcklnbaaGreatDoor
open Go.RowKit

set_option maxRecDepth 100000 in
theorem elI : Elem Tryz.prog 123 3 (.int .i64 0) 8 := ⟨Tryz.underlying123, ⟨_, rfl, by kernel_rfl, by kernel_rfl, by kernel_rfl⟩, rfl, rfl⟩
/-- a disk: how many sectors; what each has firmly; what is loose of it; how many changes there were; how many are allowed (none: any); whether it is out -/
structure DS where
  n : Nat
  firm : Nat → List UInt8
  loose : Nat → Option (List UInt8)
  ops : Nat
  left : Option Nat
  out : Bool

namespace DS
def fresh (n : Nat) : DS := ⟨n, fun _ => List.replicate 64 0, fun _ => none, 0, none, false⟩
/-- it is a disk -/
structure Ok (S : DS) : Prop where
  n1 : 1 ≤ S.n
  n2 : S.n ≤ 1024
  firm : ∀ i, i < S.n → (S.firm i).length = 64
  loose : ∀ i b, S.loose i = some b → i < S.n ∧ b.length = 64
/-- is the sector there -/
def there (S : DS) (i : Int) : Bool := decide (0 ≤ i) && decide (i < (S.n : Int))
theorem there_iff (S : DS) (i : Int) : S.there i = true ↔ 0 ≤ i ∧ i < (S.n : Int) := by simp [there]
/-- what a sector is read as -/
def last (S : DS) (i : Nat) : List UInt8 := (S.loose i).getD (S.firm i)
/-- a change more: none, where the fuse allows none -/
def chg (S : DS) : Option DS :=
  match S.left with
  | some 0 => none
  | some (k + 1) => some { S with left := some k, ops := S.ops + 1 }
  | none => some { S with ops := S.ops + 1 }
def upd {α : Type} (f : Nat → α) (i : Nat) (x : α) : Nat → α := fun j => if j = i then x else f j
def write (S : DS) (i : Int) (b : List UInt8) : DS × Int :=
  if S.out then (S, 10) else if S.there i = false then (S, 5) else if b.length ≠ 64 then (S, 2) else
  match S.chg with
  | none => ({ S with out := true }, 10)
  | some T => ({ T with loose := upd T.loose i.toNat (some b) }, 0)
def settle (S : DS) : DS := { S with firm := S.last, loose := fun _ => none }
def flush (S : DS) : DS × Int :=
  if S.out then (S, 10) else
  match S.chg with
  | none => ({ S with out := true }, 10)
  | some T => (T.settle, 0)
def readB (S : DS) (i : Int) : List UInt8 := if S.out then [] else if S.there i = false then [] else S.last i.toNat
def readE (S : DS) (i : Int) : Int := if S.out then 10 else if S.there i = false then 5 else 0
def isLoose (S : DS) (i : Nat) : Bool := (S.loose i).isSome
/-- the loose sectors below one -/
def looseBelow (S : DS) (s : Nat) : List Nat := (List.range s).filter S.isLoose
def looseList (S : DS) : List Int := (S.looseBelow S.n).map fun i : Nat => (i : Int)
/-- does a loose sector stay -/
def stays (S : DS) (keeps : List Bool) (s : Nat) : Bool := S.isLoose s && (keeps[(S.looseBelow s).length]?).getD false
def stayBelow (S : DS) (keeps : List Bool) (s : Nat) : List Nat := (List.range s).filter (S.stays keeps)
/-- what a sector is firmly behind a crash -/
def crashed (S : DS) (keeps : List Bool) (tear : Int) (s : Nat) : List UInt8 :=
  if S.stays keeps s then (if ((S.stayBelow keeps s).length : Int) = tear then (S.last s).take 32 ++ (S.firm s).drop 32 else S.last s) else S.firm s
def crash (S : DS) (keeps : List Bool) (tear : Int) : DS := { S with firm := S.crashed keeps tear, loose := fun _ => none, left := none, out := false }
def turn (S : DS) (i at_ : Int) (m : UInt8) : DS × Int :=
  if S.there i = true ∧ 0 ≤ at_ ∧ at_ < 64 then ({ S with firm := upd S.firm i.toNat ((S.firm i.toNat).set at_.toNat ((S.firm i.toNat).getD at_.toNat 0 ^^^ m)) }, 0) else (S, 5)
def fuse (S : DS) (k : Int) : DS × Int := if S.out then (S, 10) else if k < 0 then (S, 2) else ({ S with left := some k.toNat }, 0)
end DS

/-- but for the blocks F, and new ones, the world is as it was -/
structure Frame (F : Nat → Prop) (w w' : World) : Prop where
  os : w'.os = w.os
  tape : w'.tape = w.tape
  output : w'.output = w.output
  size : w.heap.size ≤ w'.heap.size
  block : ∀ k, k < w.heap.size → ¬ F k → w'.heap[k]? = w.heap[k]?
section
variable {F G : Nat → Prop} {a w w' : World} {B : Nat}
theorem Frame.refl (F : Nat → Prop) (w : World) : Frame F w w := ⟨rfl, rfl, rfl, Nat.le_refl _, fun _ _ _ => rfl⟩
theorem Frame.of_below (h : Below w.heap.size w w') : Frame F w w' := ⟨h.os, h.tape, h.output, h.size, fun k hk _ => h.block k hk⟩
theorem Frame.below (h : Frame F w w') (hF : ∀ k, F k → B ≤ k) (hB : B ≤ w.heap.size) : Below B w w' := ⟨h.os, h.tape, h.output, h.size, fun k hk => h.block k (by omega) (fun hf => by have := hF k hf; omega)⟩
theorem Frame.below0 (h : Frame F w w') (hF : ∀ k, ¬ F k) : Below w.heap.size w w' := ⟨h.os, h.tape, h.output, h.size, fun k hk => h.block k hk (hF k)⟩
theorem Frame.mono (h : Frame F w w') (hFG : ∀ k, F k → G k) : Frame G w w' := ⟨h.os, h.tape, h.output, h.size, fun k hk hg => h.block k hk (fun hf => hg (hFG k hf))⟩
/-- what the second step turns is among the first's, or new then -/
theorem Frame.trans (h : Frame F a w) (h2 : Frame G w w') (hG : ∀ k, G k → F k ∨ a.heap.size ≤ k) : Frame F a w' :=
  ⟨h2.os.trans h.os, h2.tape.trans h.tape, h2.output.trans h.output, Nat.le_trans h.size h2.size, fun k hk hf =>
    (h2.block k (Nat.lt_of_lt_of_le hk h.size) (fun hg => (hG k hg).elim hf (fun h => by omega))).trans (h.block k hk hf)⟩
theorem Frame.bytes {A : Option Addr} {l : List UInt8} (h : Frame F w w') (hr : BytesAt w w.heap.size A l) (hF : ∀ ad, A = some ad → ¬ F ad.block) : BytesAt w' w'.heap.size A l := fun hl => by
  obtain ⟨ad, e, hb, hc⟩ := hr hl
  refine ⟨ad, e, Nat.lt_of_lt_of_le hb h.size, fun k hk => ?_⟩
  rw [← hc k hk]
  exact World.cell?_of_block (w := w) (by rw [block_add]; exact h.block _ hb (hF ad e))
theorem Frame.blk {g : Nat} {l : List UInt8} (h : Frame F w w') (hb : BlkB w g l) (hF : ¬ F g) : BlkB w' g l := (h.block g hb.lt hF).trans hb
end

/-- what is read: nil, or a whole block that is new (a slice's own, or an array's) -/
def RdB (w : World) (base : Nat) (A : Option Addr) (c : Nat) (l : List UInt8) : Prop :=
  (l = [] ∧ A = none ∧ c = 0) ∨ ∃ g E, A = some ⟨g, 0, none⟩ ∧ base ≤ g ∧ BlkR E w g (cellsOfBytes l) ∧ c = l.length
section
variable {w w' : World} {base c : Nat} {A : Option Addr} {l : List UInt8}
theorem RdB.bytes (h : RdB w base A c l) : BytesAt w w.heap.size A l := fun hl => by
  rcases h with ⟨rfl, _, _⟩ | ⟨g, E, rfl, _, hb, _⟩
  · exact absurd rfl hl
  · refine ⟨_, rfl, hb.lt, fun k hk => ?_⟩
    rw [addr_zero_add]
    exact hb.cell (cellsOfBytes_get l k hk)
theorem RdB.cells (h : RdB w base A c l) (hl : 0 < l.length) : ∃ g, A = some ⟨g, 0, none⟩ ∧ ∀ k, k < l.length → w.cell? ⟨g, k, none⟩ = some (.int .u8 ((l.getD k 0).toNat : Int)) := by
  rcases h with ⟨rfl, _, _⟩ | ⟨g, E, rfl, _, hb, _⟩
  · cases hl
  · exact ⟨g, rfl, fun k hk => hb.cell (cellsOfBytes_get l k hk)⟩
end

/-- WHAT A DISK's METHODS DO, whatever the package's own memory looks like: 'At w b F S': at block b there is a disk of state S, whose memory is the blocks F. -/
structure Disks (P : Program) (At : World → Nat → (Nat → Prop) → DS → Prop) : Prop where
  ok : ∀ w b F S, At w b F S → S.Ok
  lt : ∀ w b F S, At w b F S → ∀ k, F k → k < w.heap.size
  keep : ∀ w w' b F S, At w b F S → w.heap.size ≤ w'.heap.size → (∀ k, F k → w'.heap[k]? = w.heap[k]?) → At w' b F S
  new_no : ∀ n w, n < 1 ∨ 1024 < n → Calls P 5 #[.int .i64 n] w fun e w' => e = .returned (.tuple #[.pointer none, .int .i64 5]) ∧ Below w.heap.size w w'
  new_yes : ∀ (n : Nat) w, 1 ≤ n → n ≤ 1024 → Calls P 5 #[.int .i64 (n : Int)] w fun e w' =>
    ∃ b F, e = .returned (.tuple #[.pointer (some ⟨b, 0, none⟩), .int .i64 0]) ∧ At w' b F (DS.fresh n) ∧ (∀ k, F k → w.heap.size ≤ k) ∧ Below w.heap.size w w'
  write : ∀ w b F S i A l n c, At w b F S → S.ops ≤ 1000000 → BytesAt w w.heap.size A l → l.length = n → n ≤ c → Calls P 44 #[.pointer (some ⟨b, 0, none⟩), .int .i64 i, .slice A n c] w fun e w' =>
    ∃ F', e = .returned (.int .i64 (S.write i l).2) ∧ At w' b F' (S.write i l).1 ∧ (∀ k, F' k → F k ∨ w.heap.size ≤ k) ∧ Frame F w w'
  flush : ∀ w b F S, At w b F S → S.ops ≤ 1000000 → Calls P 45 #[.pointer (some ⟨b, 0, none⟩)] w fun e w' =>
    ∃ F', e = .returned (.int .i64 S.flush.2) ∧ At w' b F' S.flush.1 ∧ (∀ k, F' k → F k ∨ w.heap.size ≤ k) ∧ Frame F w w'
  read : ∀ w b F S i, At w b F S → Calls P 48 #[.pointer (some ⟨b, 0, none⟩), .int .i64 i] w fun e w' =>
    ∃ A c, e = .returned (.tuple #[.slice A (S.readB i).length c, .int .i64 (S.readE i)]) ∧ RdB w' w.heap.size A c (S.readB i) ∧ Below w.heap.size w w'
  crash : ∀ w b F S A (keeps : List Bool) n c tear, At w b F S → RowAt w w.heap.size A (keeps.map Value.bool) → keeps.length = n → n ≤ c → Calls P 39 #[.pointer (some ⟨b, 0, none⟩), .slice A n c, .int .i64 tear] w fun e w' =>
    ∃ F', e = .returned (.int .i64 0) ∧ At w' b F' (S.crash keeps tear) ∧ (∀ k, F' k → F k ∨ w.heap.size ≤ k) ∧ Frame F w w'
  turn : ∀ w b F S i at_ (m : UInt8), At w b F S → Calls P 40 #[.pointer (some ⟨b, 0, none⟩), .int .i64 i, .int .i64 at_, .int .u8 (m.toNat : Int)] w fun e w' =>
    ∃ F', e = .returned (.int .i64 (S.turn i at_ m).2) ∧ At w' b F' (S.turn i at_ m).1 ∧ (∀ k, F' k → F k ∨ w.heap.size ≤ k) ∧ Frame F w w'
  fuse : ∀ w b F S n, At w b F S → -9223372036854775808 ≤ n → n ≤ 9223372036854775807 → Calls P 42 #[.pointer (some ⟨b, 0, none⟩), .int .i64 n] w fun e w' =>
    ∃ F', e = .returned (.int .i64 (S.fuse n).2) ∧ At w' b F' (S.fuse n).1 ∧ (∀ k, F' k → F k ∨ w.heap.size ≤ k) ∧ Frame F w w'
  up : ∀ w b F S, At w b F S → Calls P 47 #[.pointer (some ⟨b, 0, none⟩)] w fun e w' => e = .returned (.bool (!S.out)) ∧ Below w.heap.size w w'
  sectors : ∀ w b F S, At w b F S → Calls P 29 #[.pointer (some ⟨b, 0, none⟩)] w fun e w' => e = .returned (.int .i64 (S.n : Int)) ∧ Below w.heap.size w w'
  ops : ∀ w b F S, At w b F S → S.ops ≤ 1000000 → Calls P 46 #[.pointer (some ⟨b, 0, none⟩)] w fun e w' => e = .returned (.int .i64 (S.ops : Int)) ∧ Below w.heap.size w w'
  loose : ∀ w b F S, At w b F S → Calls P 89 #[.pointer (some ⟨b, 0, none⟩)] w fun e w' =>
    ∃ A c, e = .returned (.slice A S.looseList.length c) ∧ S.looseList.length ≤ c ∧ RowAt w' w'.heap.size A (iv S.looseList) ∧ Below w.heap.size w w'
end Go.Proofs.YtcahpodmcklnbaaGreatDoor
/-
  How the program's own disk lies in memory: a block of six cells, a block of sectors' bytes, a map of the loose ones. Conditions: none.
-/
namespace Go.Proofs.YtcahpodmcklnbaaGreatDoor
open Go.RowKit Go.Maps

abbrev DU := DataW Unit
def byteOf : Value → Option UInt8
  | .int .u8 a => if 0 ≤ a ∧ a < 256 then some (UInt8.ofNat a.toNat) else none
  | _ => none
theorem byteOf_mk (x : UInt8) : byteOf (.int .u8 (x.toNat : Int)) = some x := by
  have := x.toNat_lt
  simp [byteOf]; omega
theorem byteOf_inv {v : Value} {x : UInt8} (h : byteOf v = some x) : v = .int .u8 (x.toNat : Int) := by
  unfold byteOf at h
  split at h
  · split at h
    · rename_i a h2
      cases h
      have e : (UInt8.ofNat a.toNat).toNat = a.toNat := by rw [UInt8.toNat_ofNat_of_lt']; show a.toNat < 256; omega
      rw [e]
      congr 1
      omega
    · cases h
  · cases h
/-- bytes as a value of an array's -/
def arr (l : List UInt8) : Value := .agg (cellsOfBytes l).toArray
/-- how an element of the map reads -/
def elemR (v : Value) : Option (DU × List MemPlace) :=
  match v with
  | .agg cs => match cs.toList.mapM byteOf with
    | some l => if l.length = 64 then some (.lit (.string l), []) else none
    | none => none
  | _ => none
theorem mapM_bytes : ∀ l : List UInt8, (cellsOfBytes l).mapM byteOf = some l
  | [] => rfl
  | x :: r => by
    have h := mapM_bytes r
    have e : cellsOfBytes (x :: r) = .int .u8 (x.toNat : Int) :: cellsOfBytes r := rfl
    rw [e, List.mapM_cons, byteOf_mk, h]
    rfl
theorem bytes_mapM : ∀ (cs : List Value) (l : List UInt8), cs.mapM byteOf = some l → cs = cellsOfBytes l
  | [], l, h => by
    rw [List.mapM_nil] at h
    cases h
    rfl
  | v :: r, l, h => by
    rw [List.mapM_cons] at h
    cases hv : byteOf v with
    | none => rw [hv] at h; cases h
    | some x =>
      rw [hv] at h
      cases hr : r.mapM byteOf with
      | none => rw [hr] at h; cases h
      | some l' =>
        rw [hr] at h
        cases h
        rw [bytes_mapM r l' hr, byteOf_inv hv]
        rfl
theorem elemR_mk {l : List UInt8} (h : l.length = 64) : elemR (arr l) = some (.lit (.string l), []) := by
  simp [elemR, arr, mapM_bytes, h]
theorem elemR_inv {v : Value} {z : DU × List MemPlace} (h : elemR v = some z) : ∃ l : List UInt8, l.length = 64 ∧ v = arr l ∧ z = (.lit (.string l), []) := by
  unfold elemR at h
  split at h
  · rename_i cs
    split at h
    · rename_i l hl
      split at h
      · rename_i h64
        cases h
        refine ⟨l, h64, ?_, rfl⟩
        have e := bytes_mapM _ _ hl
        unfold arr
        rw [← e]
      · cases h
    · cases h
  · cases h
theorem elemR_at {v : Value} {l : List UInt8} {ps : List MemPlace} (h : elemR v = some (.lit (.string l), ps)) : v = arr l ∧ l.length = 64 := by
  obtain ⟨l', h1, h2, h3⟩ := elemR_inv h
  simp only [Prod.mk.injEq, DataW.lit.injEq, Lit.string.injEq] at h3
  obtain ⟨rfl, _⟩ := h3
  exact ⟨h2, h1⟩

/-- the datum says of each number what is loose of that sector -/
structure LooseD (D : DU) (L : Nat → Option (List UInt8)) : Prop where
  has : ∀ x : Int, Maps.has D (.int .i64 x) = (decide (0 ≤ x) && (L x.toNat).isSome)
  at_ : ∀ (i : Nat) l, L i = some l → ∀ z, D.atKey (.int .i64 (i : Int)) z = .lit (.string l)
theorem LooseD.none_ : LooseD (.map []) (fun _ => none) := ⟨fun x => by simp [Maps.has], fun i l h => by cases h⟩
theorem LooseD.put {D : DU} {L : Nat → Option (List UInt8)} (h : LooseD D L) (hm : Maps.IsMap D) (i : Nat) (l : List UInt8) : LooseD (D.put (.int .i64 (i : Int)) (.lit (.string l))) (DS.upd L i (some l)) := by
  have hk : WideAt.IsKeyLit (.int .i64 (i : Int)) := trivial
  refine ⟨fun x => ?_, fun j m hj z => ?_⟩
  · by_cases e : x = (i : Int)
    · subst e
      rw [Maps.has_put_same hm hk]
      simp [DS.upd]
    · rw [Maps.has_put_other (fun e1 => e (by cases e1; rfl)), h.has x]
      by_cases h0 : 0 ≤ x
      · have : x.toNat ≠ i := by omega
        simp [DS.upd, this]
      · simp [h0]
  · unfold DS.upd at hj
    by_cases e : j = i
    · subst e
      rw [if_pos rfl] at hj
      cases hj
      exact Maps.atKey_put_same hm hk _ _
    · rw [if_neg e] at hj
      rw [Maps.atKey_put_other (fun e1 => e (by have := (Lit.int.inj e1).2; omega))]
      exact h.at_ j m hj z

namespace DS
/-- the fuse as a number -/
def fuseI (S : DS) : Int := match S.left with | none => -1 | some k => (k : Int)
end DS
/-- block b is a disk of state S; its sectors' bytes are at block g, its map at block m -/
structure DskL (w : World) (b : Nat) (F : Nat → Prop) (S : DS) (g c m nn : Nat) (D : DU) : Prop where
  ok : S.Ok
  left : ∀ k, S.left = some k → k ≤ 9223372036854775807
  head : BlkR 66 w b [.pointer (some ⟨b, 0, none⟩), .slice (some ⟨g, 0, none⟩) S.n c, .map (some m), .int .i64 (S.ops : Int), .int .i64 S.fuseI, .bool S.out]
  cap : S.n ≤ c
  Fb : F b
  Fg : F g
  Fm : F m
  nbg : b ≠ g
  nbm : b ≠ m
  ngm : g ≠ m
  lt : ∀ k, F k → k < w.heap.size
  rows : ∀ i, i < S.n → w.rangeAt g (i * 64) (cellsOfBytes (S.firm i))
  room : w.there g 0 (S.n * 64)
  map : w.ownsMap Tryz.prog 3 elemR m nn D
  few : nn ≤ S.ops
  loose : LooseD D S.loose
/-- a disk of state S is at block b, in the blocks F -/
def DiskAt (w : World) (b : Nat) (F : Nat → Prop) (S : DS) : Prop := ∃ g c m nn D, DskL w b F S g c m nn D

section
variable {w w' : World} {b g c m nn : Nat} {F G : Nat → Prop} {S T : DS} {D : DU}
theorem rangeAt_keep {g o : Nat} {cs : List Value} (h : w.rangeAt g o cs) (hk : w'.heap[g]? = w.heap[g]?) : w'.rangeAt g o cs := fun j v hv => (World.cell?_of_block (w := w) (a := ⟨g, o + j, none⟩) hk).trans (h j v hv)
theorem there_keep {g o n : Nat} (h : w.there g o n) (hk : w'.heap[g]? = w.heap[g]?) : w'.there g o n := fun j hj => by
  obtain ⟨h1, h2⟩ := h j hj
  refine ⟨by rw [World.cell?_of_block (w := w) (a := ⟨g, o + j, none⟩) hk]; exact h1, ?_⟩
  rw [← h2]
  unfold World.frozen?
  rw [show (⟨g, o + j, none⟩ : Addr).block = g from rfl, hk]
theorem ownsMap_keep {R : Value → Option (DU × List MemPlace)} {k : TypeId} (h : w.ownsMap Tryz.prog k R m nn D) (hk : w'.heap[m]? = w.heap[m]?) : w'.ownsMap Tryz.prog k R m nn D := by
  obtain ⟨es, clock, hb, r⟩ := h
  exact ⟨es, clock, hk.trans hb, r⟩
theorem DskL.kept (h : DskL w b F S g c m nn D) (hs : w.heap.size ≤ w'.heap.size) (hk : ∀ k, F k → w'.heap[k]? = w.heap[k]?) : DskL w' b F S g c m nn D :=
  { h with
    head := (hk b h.Fb).trans h.head, lt := fun k hk' => Nat.lt_of_lt_of_le (h.lt k hk') hs,
    rows := fun i hi => rangeAt_keep (h.rows i hi) (hk g h.Fg), room := there_keep h.room (hk g h.Fg), map := ownsMap_keep h.map (hk m h.Fm) }
theorem DiskAt.keep (h : DiskAt w b F S) (hs : w.heap.size ≤ w'.heap.size) (hk : ∀ k, F k → w'.heap[k]? = w.heap[k]?) : DiskAt w' b F S := by
  obtain ⟨g, c, m, nn, D, h⟩ := h
  exact ⟨g, c, m, nn, D, h.kept hs hk⟩
theorem DiskAt.lt (h : DiskAt w b F S) : ∀ k, F k → k < w.heap.size := by
  obtain ⟨g, c, m, nn, D, h⟩ := h
  exact h.lt
theorem DiskAt.ok (h : DiskAt w b F S) : S.Ok := by
  obtain ⟨g, c, m, nn, D, h⟩ := h
  exact h.ok
theorem DskL.step (h : DskL w b F S g c m nn D) (hb : Below w.heap.size w w') : DskL w' b F S g c m nn D := h.kept hb.size fun k hk => hb.block k (h.lt k hk)
theorem DiskAt.step (h : DiskAt w b F S) (hb : Below w.heap.size w w') : DiskAt w' b F S := h.keep hb.size fun k hk => hb.block k (h.lt k hk)
theorem DskL.frame (h : DskL w b F S g c m nn D) (hFr : Frame G w w') (hG : ∀ k, F k → ¬ G k) : DskL w' b F S g c m nn D := h.kept hFr.size fun k hk => hFr.block k (h.lt k hk) (hG k hk)
theorem DskL.cell0 (h : DskL w b F S g c m nn D) : w.cell? ⟨b, 0, none⟩ = some (.pointer (some ⟨b, 0, none⟩)) := h.head.cell rfl
theorem DskL.cell1 (h : DskL w b F S g c m nn D) : w.cell? ⟨b, 1, none⟩ = some (.slice (some ⟨g, 0, none⟩) S.n c) := h.head.cell rfl
theorem DskL.cell2 (h : DskL w b F S g c m nn D) : w.cell? ⟨b, 2, none⟩ = some (.map (some m)) := h.head.cell rfl
theorem DskL.cell3 (h : DskL w b F S g c m nn D) : w.cell? ⟨b, 3, none⟩ = some (.int .i64 (S.ops : Int)) := h.head.cell rfl
theorem DskL.cell4 (h : DskL w b F S g c m nn D) : w.cell? ⟨b, 4, none⟩ = some (.int .i64 S.fuseI) := h.head.cell rfl
theorem DskL.cell5 (h : DskL w b F S g c m nn D) : w.cell? ⟨b, 5, none⟩ = some (.bool S.out) := h.head.cell rfl
/-- a field of the head, turned -/
theorem DskL.head_set (h : DskL w b F S g c m nn D) (k : Nat) (u : Value) (hT : T.n = S.n ∧ T.firm = S.firm ∧ T.loose = S.loose ∧ S.ops ≤ T.ops) (hl : ∀ k, T.left = some k → k ≤ 9223372036854775807)
    (e : [Value.pointer (some ⟨b, 0, none⟩), .slice (some ⟨g, 0, none⟩) S.n c, .map (some m), .int .i64 (S.ops : Int), .int .i64 S.fuseI, .bool S.out].set k u = [.pointer (some ⟨b, 0, none⟩), .slice (some ⟨g, 0, none⟩) T.n c, .map (some m), .int .i64 (T.ops : Int), .int .i64 T.fuseI, .bool T.out]) :
    DskL (w.setCell ⟨b, k, none⟩ u) b F T g c m nn D := by
  obtain ⟨t1, t2, t3, t4⟩ := hT
  have hsz : (w.setCell ⟨b, k, none⟩ u).heap.size = w.heap.size := by simp [World.setCell]
  have ho : ∀ j, j ≠ b → (w.setCell ⟨b, k, none⟩ u).heap[j]? = w.heap[j]? := fun j hj => Below.heap_setCell w ⟨b, k, none⟩ u j hj
  refine ⟨⟨by rw [t1]; exact h.ok.n1, by rw [t1]; exact h.ok.n2, fun i hi => by rw [t2]; exact h.ok.firm i (by rw [← t1]; exact hi), fun i l hi => by rw [t1]; rw [t3] at hi; exact h.ok.loose i l hi⟩, hl, ?_,
    by rw [t1]; exact h.cap, h.Fb, h.Fg, h.Fm, h.nbg, h.nbm, h.ngm, fun k hk => by rw [hsz]; exact h.lt k hk, fun i hi => ?_, ?_, ownsMap_keep h.map (ho m h.nbm.symm), Nat.le_trans h.few t4, by rw [t3]; exact h.loose⟩
  · rw [← e]; exact h.head.set_ k u
  · rw [t1] at hi; rw [t2]; exact rangeAt_keep (h.rows i hi) (ho g h.nbg.symm)
  · rw [t1]; exact there_keep h.room (ho g h.nbg.symm)
theorem frameSet (w : World) (b k : Nat) (u : Value) (hF : F b) : Frame F w (w.setCell ⟨b, k, none⟩ u) := ⟨rfl, rfl, rfl, Nat.le_of_eq (by simp [World.setCell]), fun j _ hj => Below.heap_setCell w ⟨b, k, none⟩ u j (fun e => hj (by rw [show j = b from e]; exact hF))⟩
/-- a sector's bytes, laid over -/
theorem DskL.row_set (h : DskL w b F S g c m nn D) (i : Nat) (hi : i < S.n) {l : List UInt8} (hl : l.length = 64) :
    DskL (w.setCells g (i * 64) (cellsOfBytes l)) b F { S with firm := DS.upd S.firm i l } g c m nn D := by
  have hc : (cellsOfBytes l).length = 64 := by rw [cellsOfBytes_length, hl]
  have hg : ∀ (vs : List Value) (o : Nat) (w : World) (j : Nat), j ≠ g → (w.setCells g o vs).heap[j]? = w.heap[j]? := by
    intro vs
    induction vs with
    | nil => intro o w j _; rfl
    | cons v r ih => intro o w j hj; rw [World.setCells, ih (o + 1) _ j hj]; exact Below.heap_setCell w ⟨g, o, none⟩ v j hj
  have hsz : ∀ (vs : List Value) (o : Nat) (w : World), (w.setCells g o vs).heap.size = w.heap.size := by
    intro vs
    induction vs with
    | nil => intro o w; rfl
    | cons v r ih => intro o w; rw [World.setCells, ih (o + 1) _]; simp [World.setCell]
  have hth : w.there g (i * 64) (cellsOfBytes l).length := fun j hj => by
    have := h.room (i * 64 + j) (by rw [hc] at hj; omega)
    rw [Nat.zero_add] at this
    exact this
  refine { h with ok := ⟨h.ok.n1, h.ok.n2, fun j hj => ?_, h.ok.loose⟩, head := (hg _ _ w b h.nbg).trans h.head, lt := fun k hk => by rw [hsz]; exact h.lt k hk, rows := fun j hj => ?_, room := World.there_setCells h.room _ _ _, map := ownsMap_keep h.map (hg _ _ w m h.ngm.symm) }
  · show (DS.upd S.firm i l j).length = 64
    unfold DS.upd
    by_cases e : j = i
    · rw [if_pos e]; exact hl
    · rw [if_neg e]; exact h.ok.firm j hj
  · show World.rangeAt _ g (j * 64) (cellsOfBytes (DS.upd S.firm i l j))
    unfold DS.upd
    by_cases e : j = i
    · subst e
      rw [if_pos rfl]
      exact World.rangeAt_setCells_same _ _ _ _ hth
    · rw [if_neg e]
      refine World.rangeAt_setCells_apart (h.rows j hj) _ _ _ (.inr ?_)
      rw [hc, cellsOfBytes_length, h.ok.firm j hj]
      rcases Nat.lt_or_gt_of_ne e with h1 | h1
      · left; omega
      · right; omega
theorem frameCells (w : World) (g o : Nat) (vs : List Value) (hF : F g) : Frame F w (w.setCells g o vs) := by
  have hg : ∀ (vs : List Value) (o : Nat) (w : World) (j : Nat), j ≠ g → (w.setCells g o vs).heap[j]? = w.heap[j]? := by
    intro vs
    induction vs with
    | nil => intro o w j _; rfl
    | cons v r ih => intro o w j hj; rw [World.setCells, ih (o + 1) _ j hj]; exact Below.heap_setCell w ⟨g, o, none⟩ v j hj
  have hr : ∀ (vs : List Value) (o : Nat) (w : World), (w.setCells g o vs).os = w.os ∧ (w.setCells g o vs).tape = w.tape ∧ (w.setCells g o vs).output = w.output ∧ (w.setCells g o vs).heap.size = w.heap.size := by
    intro vs
    induction vs with
    | nil => intro o w; exact ⟨rfl, rfl, rfl, rfl⟩
    | cons v r ih =>
      intro o w
      rw [World.setCells]
      obtain ⟨h1, h2, h3, h4⟩ := ih (o + 1) (w.setCell ⟨g, o, none⟩ v)
      exact ⟨h1, h2, h3, by rw [h4]; simp [World.setCell]⟩
  obtain ⟨h1, h2, h3, h4⟩ := hr vs o w
  exact ⟨h1, h2, h3, Nat.le_of_eq h4.symm, fun j _ hj => hg vs o w j (fun e => hj (e ▸ hF))⟩
/-- the map, turned -/
theorem DskL.map_set (h : DskL w b F S g c m nn D) {nn' : Nat} {D' : DU} {L : Nat → Option (List UInt8)} {k : Nat} (hg : w.grownBy w' (some m)) (hm : w'.ownsMap Tryz.prog 3 elemR m nn' D') (hL : LooseD D' L) (hn : nn' ≤ k) (hk : k = S.ops) (hok : ∀ i l, L i = some l → i < S.n ∧ l.length = 64) :
    DskL w' b F { S with loose := L } g c m nn' D' := by
  have hb : ∀ j, F j → j ≠ m → w'.heap[j]? = w.heap[j]? := fun j hj hne => hg.block j (h.lt j hj) (fun e => hne (Option.some.inj e))
  subst hk
  exact { h with ok := ⟨h.ok.n1, h.ok.n2, h.ok.firm, hok⟩, head := (hb b h.Fb h.nbm).trans h.head, lt := fun j hj => Nat.lt_of_lt_of_le (h.lt j hj) hg.size, rows := fun i hi => rangeAt_keep (h.rows i hi) (hb g h.Fg h.ngm), room := there_keep h.room (hb g h.Fg h.ngm), map := hm, few := hn, loose := hL }
theorem frameGrown (hg : w.grownBy w' (some m)) (hF : F m) : Frame F w w' := ⟨hg.os, hg.tape, hg.output, hg.size, fun j hj hn => hg.block j hj (fun e => hn (by rw [Option.some.inj e]; exact hF))⟩
end
end Go.Proofs.YtcahpodmcklnbaaGreatDoor
/-
  The program's own disk: whether it was made, whether a sector is there, a change more, Fuse, Up, Sectors, Ops. Conditions: none.
-/
namespace Go.Proofs.YtcahpodmcklnbaaGreatDoor
open Go.RowKit Go.Maps

set_option maxRecDepth 100000 in
theorem made_yes (w : World) (b : Nat) (h0 : w.cell? ⟨b, 0, none⟩ = some (.pointer (some ⟨b, 0, none⟩))) : Calls Tryz.prog 62 #[.pointer (some ⟨b, 0, none⟩)] w fun e w' => e = .returned (.bool true) ∧ w = w' := by
  have he : ∀ w, (binOp .eql 24 (.pointer (some ⟨b, 0, none⟩)) (.pointer (some ⟨b, 0, none⟩))).run Tryz.prog w = .ok (.bool true) w := fun w => by
    obtain ⟨j, hj⟩ : ∃ j, Tryz.prog.info? 66 = some j := Option.isSome_iff_exists.1 (by kernel_rfl)
    exact run_eql_ptr_same w _ (tp := 24) (te := 66) (by kernel_rfl) hj
  go_enter Tryz.func62, Tryz.ntmps62
  go_wp2
  go_ret
  exact ⟨rfl, rfl⟩
theorem dHas (w : World) (b g c n : Nat) (i : Int) (x1 : w.cell? ⟨b, 1, none⟩ = some (.slice (some ⟨g, 0, none⟩) n c)) : Calls Tryz.prog 73 #[.pointer (some ⟨b, 0, none⟩), .int .i64 i] w fun e w' => e = .returned (.bool (decide (0 ≤ i) && decide (i < (n : Int)))) ∧ w = w' := by
  by_cases h1 : 0 ≤ i
  · go_enter Tryz.func73, Tryz.ntmps73
    go_wp2
    go_ret
    exact ⟨by simp [h1], rfl⟩
  · go_enter Tryz.func73, Tryz.ntmps73
    go_wp2
    go_ret
    exact ⟨by simp; omega, rfl⟩
theorem atomAdd (w : World) (b : Nat) (x s : Int) (x3 : w.cell? ⟨b, 3, none⟩ = some (.int .i64 x)) (f3 : w.frozen? ⟨b, 3, none⟩ = false) (hs : IntKind.i64.wrap (x + 1) = s) :
    Calls Tryz.prog 90 #[.pointer (some ⟨b, 3, none⟩), .int .i64 1] w fun e w' => e = .returned (.int .i64 s) ∧ w' = w.setCell ⟨b, 3, none⟩ (.int .i64 s) := by
  have hc := run_call_add (P := Tryz.prog) (f := 101) (fn := Tryz.f101) (by kernel_rfl) (by kernel_rfl) (by kernel_rfl) (by kernel_rfl) .i64 (by kernel_rfl) (a := ⟨b, 3, none⟩) (x := x) (y := 1) (s := s) x3 f3 (by simp [Op.intArith, hs])
  go_enter Tryz.func90, Tryz.ntmps90
  go_wp2
  go_ret
  exact ⟨rfl, rfl⟩
theorem atomLoad (w : World) (b : Nat) (x : Int) (x3 : w.cell? ⟨b, 3, none⟩ = some (.int .i64 x)) :
    Calls Tryz.prog 75 #[.pointer (some ⟨b, 3, none⟩)] w fun e w' => e = .returned (.int .i64 x) ∧ w = w' := by
  have hc := run_call_load (P := Tryz.prog) (f := 91) (fn := Tryz.f91) (by kernel_rfl) (by kernel_rfl) (by kernel_rfl) (by kernel_rfl) .i64 (by kernel_rfl) (a := ⟨b, 3, none⟩) (x := x) x3
  go_enter Tryz.func75, Tryz.ntmps75
  go_wp2
  go_ret
  exact ⟨rfl, rfl⟩
/-- what a method answers that turns the disk -/
def DPost (r : Int) (S : DS) (b : Nat) (F : Nat → Prop) (w : World) (e : Ending) (w' : World) : Prop :=
  ∃ F', e = .returned (.int .i64 r) ∧ DiskAt w' b F' S ∧ (∀ k, F' k → F k ∨ w.heap.size ≤ k) ∧ Frame F w w'

theorem dFuse (w : World) (b : Nat) (F : Nat → Prop) (S : DS) (n : Int) (h : DiskAt w b F S) (hn : -9223372036854775808 ≤ n) (hn2 : n ≤ 9223372036854775807) :
    Calls Tryz.prog 42 #[.pointer (some ⟨b, 0, none⟩), .int .i64 n] w (DPost (S.fuse n).2 (S.fuse n).1 b F w) := by
  have hM := h
  obtain ⟨g, c, m, nn, D, h⟩ := h
  have zm := made_yes w b h.cell0
  have x5 := h.cell5
  have f4 := h.head.frozen 4
  have x4 := h.cell4
  have HH := Lib.hid h
  replace hM := Lib.hid hM
  clear h
  cases ho : S.out with
  | true =>
    rw [show S.fuse n = (S, 10) by simp [DS.fuse, ho]]
    rw [ho] at x5
    go_enter Tryz.func42, Tryz.ntmps42
    go_wp2_with (go_at_call 62; refine zm.mono ?_; (rintro e w2 ⟨rfl, rfl⟩))
    go_ret
    exact ⟨F, rfl, hM.out, fun k hk => .inl hk, Frame.refl _ _⟩
  | false =>
    rw [ho] at x5
    by_cases h1 : n < 0
    · rw [show S.fuse n = (S, 2) by simp [DS.fuse, ho, h1]]
      go_enter Tryz.func42, Tryz.ntmps42
      go_wp2_with (go_at_call 62; refine zm.mono ?_; (rintro e w2 ⟨rfl, rfl⟩))
      go_ret
      exact ⟨F, rfl, hM.out, fun k hk => .inl hk, Frame.refl _ _⟩
    · rw [show S.fuse n = ({ S with left := some n.toNat }, 0) by simp [DS.fuse, ho, h1]]
      clear ho
      go_enter Tryz.func42, Tryz.ntmps42
      go_wp2_with (go_at_call 62; refine zm.mono ?_; (rintro e w2 ⟨rfl, rfl⟩))
      go_ret
      refine ⟨F, rfl, ⟨g, c, m, nn, D, HH.out.head_set (T := { S with left := some n.toNat }) 4 (.int .i64 n) ⟨rfl, rfl, rfl, Nat.le_refl _⟩ (fun k hk => ?_) ?_⟩, fun k hk => .inl hk, frameSet w b 4 _ HH.out.Fb⟩
      · have := Option.some.inj hk; omega
      · simp [DS.fuseI]; omega
theorem dUp (w : World) (b : Nat) (F : Nat → Prop) (S : DS) (h : DiskAt w b F S) : Calls Tryz.prog 47 #[.pointer (some ⟨b, 0, none⟩)] w fun e w' => e = .returned (.bool (!S.out)) ∧ Below w.heap.size w w' := by
  obtain ⟨g, c, m, nn, D, h⟩ := h
  have zm := made_yes w b h.cell0
  have x5 := h.cell5
  obtain ⟨o, ho⟩ : ∃ o, o = S.out := ⟨_, rfl⟩
  rw [← ho] at x5 ⊢
  clear h ho
  go_enter Tryz.func47, Tryz.ntmps47
  go_wp2_with (go_at_call 62; refine zm.mono ?_; (rintro e w2 ⟨rfl, rfl⟩))
  go_ret
  exact ⟨rfl, Below.refl _ _⟩
theorem dSectors (w : World) (b : Nat) (F : Nat → Prop) (S : DS) (h : DiskAt w b F S) : Calls Tryz.prog 29 #[.pointer (some ⟨b, 0, none⟩)] w fun e w' => e = .returned (.int .i64 (S.n : Int)) ∧ Below w.heap.size w w' := by
  obtain ⟨g, c, m, nn, D, h⟩ := h
  have zm := made_yes w b h.cell0
  have x1 := h.cell1
  obtain ⟨o, ho⟩ : ∃ o, o = S.n := ⟨_, rfl⟩
  rw [← ho] at x1 ⊢
  clear h ho
  go_enter Tryz.func29, Tryz.ntmps29
  go_wp2_with (go_at_call 62; refine zm.mono ?_; (rintro e w2 ⟨rfl, rfl⟩))
  go_ret
  exact ⟨rfl, Below.refl _ _⟩
theorem dOps (w : World) (b : Nat) (F : Nat → Prop) (S : DS) (h : DiskAt w b F S) (hops : S.ops ≤ 1000000) : Calls Tryz.prog 46 #[.pointer (some ⟨b, 0, none⟩)] w fun e w' => e = .returned (.int .i64 (S.ops : Int)) ∧ Below w.heap.size w w' := by
  obtain ⟨g, c, m, nn, D, h⟩ := h
  have zm := made_yes w b h.cell0
  have zl := atomLoad w b _ h.cell3
  obtain ⟨o, ho⟩ : ∃ o, o = S.ops := ⟨_, rfl⟩
  rw [← ho] at zl hops ⊢
  clear h ho
  have hw : IntKind.i64.wrap (o : Int) = (o : Int) := IntWalk.i64_in _ (by omega)
  go_enter Tryz.func46, Tryz.ntmps46
  go_wp2_with (first
    | (go_at_call 62; refine zm.mono ?_; (rintro e w2 ⟨rfl, rfl⟩))
    | (go_at_call 75; refine zl.mono ?_; (rintro e w2 ⟨rfl, rfl⟩)))
  go_ret
  exact ⟨rfl, Below.refl _ _⟩
/-- a change more, if one is allowed -/
theorem dChange (w : World) (b : Nat) (F : Nat → Prop) (S : DS) (g c m nn : Nat) (D : DU) (h : DskL w b F S g c m nn D) (ho : S.ops ≤ 1000000) :
    Calls Tryz.prog 74 #[.pointer (some ⟨b, 0, none⟩)] w fun e w' => e = .returned (.bool S.chg.isSome) ∧ DskL w' b F (S.chg.getD { S with out := true }) g c m nn D ∧ Frame (fun k => k = b) w w' := by
  have x3 := h.cell3
  have x4 := h.cell4
  have x5 := h.cell5
  have f3 := h.head.frozen 3
  have f4 := h.head.frozen 4
  have f5 := h.head.frozen 5
  have hl := h.left
  have HH := Lib.hid h
  unfold DS.chg
  clear h
  have e4 : IntKind.i64.wrap ((S.ops : Int) + 1) = (S.ops : Int) + 1 := IntWalk.i64_in _ (by omega)
  match hS : S.left with
  | none =>
    rw [show S.fuseI = -1 by simp [DS.fuseI, hS]] at x4
    have za := atomAdd w b _ _ x3 f3 e4
    go_enter Tryz.func74, Tryz.ntmps74
    go_wp2_with (go_at_call 90; refine za.mono ?_; (rintro e w2 ⟨rfl, rfl⟩))
    go_ret
    refine ⟨rfl, HH.out.head_set (T := { S with left := none, ops := S.ops + 1 }) 3 _ ⟨rfl, rfl, rfl, Nat.le_succ _⟩ (fun k hk => by cases hk) ?_, frameSet w b 3 _ rfl⟩
    simp [DS.fuseI, hS]
  | some 0 =>
    rw [show S.fuseI = 0 by simp [DS.fuseI, hS]] at x4
    go_enter Tryz.func74, Tryz.ntmps74
    go_wp2
    go_ret
    rw [← hS]
    exact ⟨rfl, HH.out.head_set (T := { S with out := true }) 5 (.bool true) ⟨rfl, rfl, rfl, Nat.le_refl _⟩ (fun k hk => hl k hk) (by simp [DS.fuseI]), frameSet w b 5 _ rfl⟩
  | some (k + 1) =>
    have hk := hl _ hS
    rw [show S.fuseI = (k : Int) + 1 by simp [DS.fuseI, hS]] at x4
    have e3 : IntKind.i64.wrap ((k : Int) + 1 - 1) = (k : Int) := by rw [IntWalk.i64_in _ (by omega)]; omega
    have x3' : (w.setCell ⟨b, 4, none⟩ (.int .i64 (k : Int))).cell? ⟨b, 3, none⟩ = some (.int .i64 (S.ops : Int)) := by rw [World.cell?_setCell_other _ _ _ _ (by simp)]; exact x3
    have za := atomAdd (w.setCell ⟨b, 4, none⟩ (.int .i64 (k : Int))) b _ _ x3' (by rw [World.frozen?_setCell]; exact f3) e4
    go_enter Tryz.func74, Tryz.ntmps74
    go_wp2_with (go_at_call 90; refine za.mono ?_; (rintro e w2 ⟨rfl, rfl⟩))
    go_ret
    have h1 := HH.out.head_set (T := { S with left := some k }) 4 (.int .i64 (k : Int)) ⟨rfl, rfl, rfl, Nat.le_refl _⟩ (fun j hj => by have := Option.some.inj hj; omega) (by simp [DS.fuseI])
    have h2 := h1.head_set (T := { S with left := some k, ops := S.ops + 1 }) 3 (.int .i64 ((S.ops : Int) + 1)) ⟨rfl, rfl, rfl, Nat.le_succ _⟩ (fun j hj => by have := Option.some.inj hj; omega) (by simp [DS.fuseI])
    refine ⟨rfl, ?_, ?_⟩
    · exact h2
    · exact Frame.trans (F := fun k => k = b) (G := fun k => k = b) (frameSet w b 4 _ rfl) (frameSet _ b 3 _ rfl) (fun k hk => .inl hk)
end Go.Proofs.YtcahpodmcklnbaaGreatDoor
/-
  Arrays of 64 bytes, by value: made, stored, loaded, at the operations. Conditions: none.
-/
namespace Go.Proofs.YtcahpodmcklnbaaGreatDoor
open Go.RowKit Go.Maps

abbrev zs : List UInt8 := List.replicate 64 0
set_option maxRecDepth 100000 in
theorem zeroC : ∀ w, (zeroValue 126).run Tryz.prog w = .ok (arr zs) w := by
  intro w
  kernel_rfl
set_option maxRecDepth 100000 in
theorem sizeC : (Tryz.prog.info? 126).map (·.size) = some 64 := by kernel_rfl
theorem underC : Tryz.prog.underlying 126 = some (.array 64 5) := by kernel_rfl
theorem one_bytes (l : List UInt8) : ∀ v ∈ cellsOfBytes l, v.oneCell' = true := by
  intro v hv
  simp only [cellsOfBytes, List.mem_map] at hv
  obtain ⟨x, _, rfl⟩ := hv
  rfl
section
variable {w : World} {ops : Array Oper} {rest : List Oper} {o : Oper} {a : Act} {Q : Exit → Act → World → Prop}
theorem wpList_allocC (hgd : o.guard = none) (ho : o.op = .alloc 126)
    (h : wpList Tryz.prog ops Q rest (a.put o.dst (.pointer (some ⟨w.heap.size, 0, none⟩))) (w.alloc (.cells (cellsOfBytes zs).toArray 126))) : wpList Tryz.prog ops Q (o :: rest) a w := by
  refine wpList_plain hgd fun K hK => ?_
  have e : (Instr.alloc 126 true (.tuple #[])).run Tryz.prog w = .ok (.pointer (some ⟨w.heap.size, 0, none⟩)) (w.alloc (.cells (cellsOfBytes zs).toArray 126)) := by
    obtain ⟨Z, hZ⟩ : ∃ Z, Z = (cellsOfBytes zs).toArray := ⟨_, rfl⟩
    have hz : (zeroValue 126).run Tryz.prog w = .ok (.agg Z) w := by rw [hZ]; exact zeroC w
    rw [← hZ]
    unfold Instr.alloc
    simp only [Sem.run_bind, hz, Result.andThen_ok, newVar, newRow, Value.cells]
    rfl
  unfold Oper.wp execOp
  simp only [ho, Sem.run_bind, e, Result.andThen_ok]
  exact hK _ _ h
theorem wpList_storeC (hgd : o.guard = none) (x y : Operand) (ho : o.op = .store 126 x y) (g k : Nat) (l : List UInt8) (hx : a.eval x = .pointer (some ⟨g, k, none⟩)) (hy : a.eval y = arr l) (hl : l.length = 64) (ht : w.there g k 64)
    (h : wpList Tryz.prog ops Q rest (a.put o.dst undef) (w.setCells g k (cellsOfBytes l))) : wpList Tryz.prog ops Q (o :: rest) a w :=
  wpList_store_mid hgd 126 x y ho g k (cellsOfBytes l).toArray hx hy (by rw [List.size_toArray, cellsOfBytes_length, hl]; exact ht) (by rw [List.size_toArray, cellsOfBytes_length, hl]; exact sizeC) (all_oneCell_toArray (one_bytes l)) (by rw [List.toList_toArray]; exact h)
theorem wpList_loadC (hgd : o.guard = none) (x : Operand) (ho : o.op = .load 126 x) (g k : Nat) (l : List UInt8) (hx : a.eval x = .pointer (some ⟨g, k, none⟩)) (hl : l.length = 64) (hr : w.rangeAt g k (cellsOfBytes l))
    (h : wpList Tryz.prog ops Q rest (a.put o.dst (arr l)) w) : wpList Tryz.prog ops Q (o :: rest) a w :=
  wpList_load_mid hgd 126 x ho g k hx (cellsOfBytes l) _ hr underC rfl (by rw [cellsOfBytes_length, hl]; exact sizeC) h
end
section
variable {w w' : World} {E : TypeId} {g : Nat} {xs ys : List Value}
theorem BlkR.range (h : BlkR E w g xs) : w.rangeAt g 0 xs := fun j v hv => by rw [Nat.zero_add]; exact h.cell hv
theorem BlkR.there (h : BlkR E w g xs) {n : Nat} (hn : n ≤ xs.length) : w.there g 0 n := fun j hj => by
  rw [Nat.zero_add]
  exact ⟨by rw [h.cell (List.getElem?_eq_getElem (by omega : j < xs.length))]; rfl, h.frozen j⟩
theorem setCells_list : ∀ (ys : List Value) (w : World) (o : Nat) (xs : List Value), BlkR E w g xs → o + ys.length ≤ xs.length → BlkR E (w.setCells g o ys) g (xs.take o ++ ys ++ xs.drop (o + ys.length))
  | [], w, o, xs, h, _ => by
    rw [World.setCells, List.append_nil, List.length_nil, Nat.add_zero, List.take_append_drop]
    exact h
  | v :: r, w, o, xs, h, hle => by
    rw [World.setCells]
    rw [List.length_cons] at hle
    have h2 := setCells_list r _ (o + 1) _ (h.set_ o v) (by rw [List.length_set]; omega)
    have e : (xs.set o v).take (o + 1) ++ r ++ (xs.set o v).drop (o + 1 + r.length) = xs.take o ++ (v :: r) ++ xs.drop (o + (v :: r).length) := by
      rw [List.drop_set_of_lt (by omega), List.length_cons, show o + (r.length + 1) = o + 1 + r.length by omega, List.take_add_one, List.take_set_of_le (Nat.le_refl o)]
      simp [show o < xs.length by omega]
    rw [← e]
    exact h2
theorem BlkR.over (h : BlkR E w g xs) (hl : ys.length = xs.length) : BlkR E (w.setCells g 0 ys) g ys := by
  have := setCells_list ys w 0 xs h (by omega)
  rwa [List.take_zero, List.nil_append, Nat.zero_add, hl, List.drop_length, List.append_nil] at this
theorem Below.setCells {B : Nat} {a : World} (h : Below B a w) (hg : B ≤ g) (o : Nat) (vs : List Value) : Below B a (w.setCells g o vs) := by
  induction vs generalizing w o with
  | nil => exact h
  | cons v r ih => rw [World.setCells]; exact ih (h.setCell (p := ⟨g, o, none⟩) hg v) (o + 1)
theorem setCells_size (w : World) (g o : Nat) (vs : List Value) : (w.setCells g o vs).heap.size = w.heap.size := by
  induction vs generalizing w o with
  | nil => rfl
  | cons v r ih => rw [World.setCells, ih]; simp [World.setCell]
end
/-- a store over a whole block of 64 bytes; the world behind it is a letter -/
theorem wpList_storeN {w : World} {ops : Array Oper} {rest : List Oper} {o : Oper} {a : Act} {Q : Exit → Act → World → Prop} {E : TypeId} (hgd : o.guard = none) (x y : Operand) (ho : o.op = .store 126 x y) (g : Nat) (l l0 : List UInt8) (hx : a.eval x = .pointer (some ⟨g, 0, none⟩)) (hy : a.eval y = arr l) (hl : l.length = 64) (hl0 : l0.length = 64) (hb : BlkR E w g (cellsOfBytes l0))
    (h : ∀ w', BlkR E w' g (cellsOfBytes l) → Below g w w' → w'.heap.size = w.heap.size → wpList Tryz.prog ops Q rest (a.put o.dst undef) w') : wpList Tryz.prog ops Q (o :: rest) a w :=
  wpList_storeC hgd x y ho g 0 l hx hy hl (hb.there (by rw [cellsOfBytes_length, hl0]; exact Nat.le_refl _))
    (h _ (hb.over (by rw [cellsOfBytes_length, cellsOfBytes_length, hl, hl0])) (Below.setCells (Below.refl _ _) (Nat.le_refl _) _ _) (setCells_size _ _ _ _))
theorem key_wf (i : Nat) (hi : i < 1024) : (Lit.int .i64 (i : Int)).wf = true := by
  have e1 : IntKind.i64.min = -9223372036854775808 := by decide
  have e2 : IntKind.i64.max = 9223372036854775807 := by decide
  simp only [Lit.wf, e1, e2, Bool.and_eq_true, decide_eq_true_eq]
  omega
theorem keyOf_at (i : Nat) (hi : i < 1024) : keyOf Tryz.prog 3 (.int .i64 (i : Int)) = some (.int .i64 (i : Int)) := keyOf_int_mk Tryz.underlying3 (key_wf i hi)
/-- v, ok := d.loose[i] -/
theorem look_run {w : World} {m nn : Nat} {D : DU} {L : Nat → Option (List UInt8)} (hm : w.ownsMap Tryz.prog 3 elemR m nn D) (hL : LooseD D L) (i : Nat) (hi : i < 1024) :
    (Instr.lookup 59 (.map (some m)) (.int .i64 (i : Int)) true).run Tryz.prog w = .ok (.tuple #[arr ((L i).getD zs), .bool (L i).isSome]) w := by
  obtain ⟨v, ps, hrun, hv⟩ := hm.look_ok (int_keyed Tryz.underlying3) Tryz.underlying59 (zeroC w) (elemR_mk (by simp)) (keyOf_at i hi)
  rw [hrun, hL.has]
  cases h : L i with
  | none =>
    have h0 : Maps.has D (.int .i64 (i : Int)) = false := by rw [hL.has]; simp [h]
    rw [Maps.atKey_of_not_has h0] at hv
    rw [(elemR_at hv).1]
    simp [h]
  | some l =>
    rw [hL.at_ i l h] at hv
    rw [(elemR_at hv).1]
    simp [h]
/-- d.loose[i] -/
theorem look_run1 {w : World} {m nn : Nat} {D : DU} {L : Nat → Option (List UInt8)} (hm : w.ownsMap Tryz.prog 3 elemR m nn D) (hL : LooseD D L) (i : Nat) (hi : i < 1024) :
    (Instr.lookup 59 (.map (some m)) (.int .i64 (i : Int)) false).run Tryz.prog w = .ok (arr ((L i).getD zs)) w := by
  obtain ⟨v, ps, hrun, hv⟩ := hm.lookup (int_keyed Tryz.underlying3) Tryz.underlying59 (zeroC w) (elemR_mk (by simp)) (keyOf_at i hi)
  rw [hrun]
  cases h : L i with
  | none =>
    have h0 : Maps.has D (.int .i64 (i : Int)) = false := by rw [hL.has]; simp [h]
    rw [Maps.atKey_of_not_has h0] at hv
    rw [(elemR_at hv).1]
    simp
  | some l =>
    rw [hL.at_ i l h] at hv
    rw [(elemR_at hv).1]
    simp
end Go.Proofs.YtcahpodmcklnbaaGreatDoor
/-
  The program's own disk: Read. Conditions: none.
-/
namespace Go.Proofs.YtcahpodmcklnbaaGreatDoor
open Go.RowKit Go.Maps

def DReadPost (S : DS) (i : Int) (w : World) (e : Ending) (w' : World) : Prop :=
  ∃ A c, e = .returned (.tuple #[.slice A (S.readB i).length c, .int .i64 (S.readE i)]) ∧ RdB w' w.heap.size A c (S.readB i) ∧ Below w.heap.size w w'
set_option maxRecDepth 100000 in
theorem dRead (w : World) (b : Nat) (F : Nat → Prop) (S : DS) (i : Int) (h : DiskAt w b F S) : Calls Tryz.prog 48 #[.pointer (some ⟨b, 0, none⟩), .int .i64 i] w (DReadPost S i w) := by
  obtain ⟨g, c, m, nn, D, h⟩ := h
  have zm := made_yes w b h.cell0
  have zh := dHas w b g c S.n i h.cell1
  have x1 := h.cell1
  have x2 := h.cell2
  have x5 := h.cell5
  change Calls _ _ _ _ (fun e w' => e = .returned (.bool (S.there i)) ∧ w = w') at zh
  cases ho : S.out with
  | true =>
    have e1 : S.readB i = [] := by simp [DS.readB, ho]
    have e2 : S.readE i = 10 := by simp [DS.readE, ho]
    unfold DReadPost
    rw [e1, e2]
    rw [ho] at x5
    clear h ho e1 e2 x1 x2
    go_enter Tryz.func48, Tryz.ntmps48
    go_wp2_with (go_at_call 62; refine zm.mono ?_; (rintro e w2 ⟨rfl, rfl⟩))
    go_ret2
    exact ⟨none, 0, rfl, .inl ⟨rfl, rfl, rfl⟩, Below.refl _ _⟩
  | false =>
    rw [ho] at x5
    cases ht : S.there i with
    | false =>
      have e1 : S.readB i = [] := by simp [DS.readB, ho, ht]
      have e2 : S.readE i = 5 := by simp [DS.readE, ho, ht]
      unfold DReadPost
      rw [e1, e2]
      rw [ht] at zh
      clear h ho e1 e2 ht x1 x2
      go_enter Tryz.func48, Tryz.ntmps48
      go_wp2_with (first
        | (go_at_call 62; refine zm.mono ?_; (rintro e w2 ⟨rfl, rfl⟩))
        | (go_at_call 73; refine zh.mono ?_; (rintro e w2 ⟨rfl, rfl⟩)))
      go_ret2
      exact ⟨none, 0, rfl, .inl ⟨rfl, rfl, rfl⟩, Below.refl _ _⟩
    | true =>
      rw [ht] at zh
      have hi := (S.there_iff i).1 ht
      obtain ⟨k, rfl⟩ : ∃ k : Nat, i = (k : Int) := ⟨i.toNat, by omega⟩
      have hk : k < S.n := by omega
      have hn2 := h.ok.n2
      have hlk := look_run h.map h.loose k (by omega)
      have e1 : S.readB (k : Int) = S.last k := by simp [DS.readB, ho, ht]
      have e2 : S.readE (k : Int) = 0 := by simp [DS.readE, ho, ht]
      have hl64 : (S.last k).length = 64 := by
        unfold DS.last
        cases hl : S.loose k with
        | none => exact h.ok.firm k hk
        | some l => exact (h.ok.loose k l hl).2
      have hb0 := Lib.hid (h.lt b h.Fb)
      have hg0 := Lib.hid (h.lt g h.Fg)
      unfold DReadPost
      rw [e1, e2]
      unfold DS.last at hl64 ⊢
      have hfirm := Lib.hid (h.rows k hk)
      have hf64 := Lib.hid (h.ok.firm k hk)
      obtain ⟨n, hn⟩ : ∃ n, n = S.n := ⟨_, rfl⟩
      rw [← hn] at x1 hk
      have hkk : (k : Int) < (n : Int) := by omega
      obtain ⟨f, hf⟩ : ∃ f, f = S.firm k := ⟨_, rfl⟩
      rw [← hf] at hfirm hf64 hl64
      rw [← hf]
      cases hl : S.loose k with
      | some l =>
        rw [hl] at hlk hl64
        simp only [Option.getD_some, Option.isSome_some] at hlk hl64 ⊢
        replace hl64 := Lib.hid hl64
        clear h ho e1 e2 ht hi hn hl hf hn2 x1 hk hkk
        go_enter Tryz.func48, Tryz.ntmps48
        go_wp2_with (first
          | (go_at_call 62; refine zm.mono ?_; (rintro e w2 ⟨rfl, rfl⟩))
          | (go_at_call 73; refine zh.mono ?_; (rintro e w2 ⟨rfl, rfl⟩))
          | (refine wpList_allocC rfl rfl ?_)
          | (refine wpList_storeN rfl _ _ rfl w.heap.size l zs rfl rfl hl64.out (by simp) (BlkR.new w (cellsOfBytes zs) 126) ?_; intro w3 hb3 hB3 hs3; have hb3 := Lib.hid hb3; have hB3 := Lib.hid hB3; have hs3 := Lib.hid hs3))
        go_ret2
        rw [hl64.out]
        exact ⟨_, 64, rfl, .inr ⟨w.heap.size, _, rfl, Nat.le_refl _, hb3.out, hl64.out.symm⟩, ((Below.refl _ w).alloc (Nat.le_refl _) _).trans hB3.out⟩
      | none =>
        rw [hl] at hlk hl64
        simp only [Option.getD_none, Option.isSome_none] at hlk hl64 ⊢
        clear h ho e1 e2 ht hi hn hl hf hn2 hk hl64
        have hc : ∀ w', Below w.heap.size w w' → w'.cell? ⟨b, 1, none⟩ = some (.slice (some ⟨g, 0, none⟩) n c) := fun w' hB => (hB.cell (p := ⟨b, 1, none⟩) hb0.out).trans x1
        replace hc := Lib.hid hc
        have hr : ∀ w', Below w.heap.size w w' → w'.rangeAt g (k * 64) (cellsOfBytes f) := fun w' hB => rangeAt_keep hfirm.out (hB.block g hg0.out)
        replace hr := Lib.hid hr
        clear x1
        go_enter Tryz.func48, Tryz.ntmps48
        go_wp2_with (first
          | (go_at_call 62; refine zm.mono ?_; (rintro e w2 ⟨rfl, rfl⟩))
          | (go_at_call 73; refine zh.mono ?_; (rintro e w2 ⟨rfl, rfl⟩))
          | (refine wpList_allocC rfl rfl ?_)
          | (refine wpList_storeN rfl _ _ rfl w.heap.size zs zs rfl rfl (by simp) (by simp) (BlkR.new w (cellsOfBytes zs) 126) ?_; intro w3 hb3 hB3 hs3; have hB4 := ((Below.refl _ w).alloc (Nat.le_refl _) _).trans hB3; have y1 := hc.out w3 hB4; have hr3 := Lib.hid (hr.out w3 hB4); have hb3 := Lib.hid hb3; replace hB4 := Lib.hid hB4; clear hs3 hB3)
          | (refine wpList_loadC rfl _ rfl g (k * 64) f rfl hf64.out hr3.out ?_)
          | (refine wpList_storeN rfl _ _ rfl w.heap.size f zs rfl rfl hf64.out (by simp) hb3.out ?_; intro w5 hb5 hB5 hs5; have hb5 := Lib.hid hb5; have hB5 := Lib.hid hB5; have hs5 := Lib.hid hs5))
        go_ret2
        rw [hf64.out]
        exact ⟨_, 64, rfl, .inr ⟨w.heap.size, _, rfl, Nat.le_refl _, hb5.out, hf64.out.symm⟩, hB4.out.trans hB5.out⟩
end Go.Proofs.YtcahpodmcklnbaaGreatDoor
/-
  The program's own disk: Write. Conditions: none.
-/
namespace Go.Proofs.YtcahpodmcklnbaaGreatDoor
open Go.RowKit Go.Maps

set_option maxRecDepth 100000 in
/-- copy(c[:], b): 64 bytes over a whole block -/
theorem wpList_copyN {w : World} {ops : Array Oper} {rest : List Oper} {o : Oper} {a : Act} {Q : Exit → Act → World → Prop} {E : TypeId} (hgd : o.guard = none) (d s : Operand)
    (ho : o.op = .call { callee := .builtin .copy, args := #[d, s], argTypes := #[32, 32] }) (g n c c' : Nat) (A : Option Addr) (hd : a.eval d = .slice (some ⟨g, 0, none⟩) n c) (hs : a.eval s = .slice A n c')
    (l m : List UInt8) (hl : l.length = n) (hm : m.length = n) (hn : 0 < n) (hg : BlkR E w g (cellsOfBytes l)) (hA : BytesAt w w.heap.size A m)
    (h : ∀ w', BlkR E w' g (cellsOfBytes m) → Below g w w' → w'.heap.size = w.heap.size → wpList Tryz.prog ops Q rest (a.put o.dst (goInt n)) w') : wpList Tryz.prog ops Q (o :: rest) a w := by
  have hlc : (cellsOfBytes m).length = n := by rw [cellsOfBytes_length, hm]
  obtain ⟨ad, rfl, hb, hc⟩ := hA (by rintro rfl; simp at hm; omega)
  refine wpList_copy_own hgd d s 32 32 ho 5 Tryz.underlying32 (by kernel_rfl) g 0 n c ad n c' hd hs (cellsOfBytes l).toArray E hg (cellsOfBytes m) (by rw [hlc]; exact (Nat.min_self _).symm)
    (fun j v hv => ?_) (by rw [hlc, List.size_toArray, cellsOfBytes_length, hl]; omega) (oneCell_bytes m) ?_
  · have hj : j < m.length := by
      have := (List.getElem?_eq_some_iff.1 hv).1
      rwa [cellsOfBytes_length] at this
    rw [cellsOfBytes_get m j hj] at hv
    rw [← Option.some.inj hv]
    exact hc j hj
  · rw [hlc]
    have e : ((cellsOfBytes l).toArray.toList.take 0 ++ (cellsOfBytes m ++ (cellsOfBytes l).toArray.toList.drop (0 + n))).toArray = (cellsOfBytes m).toArray := by
      rw [List.toList_toArray, List.take_zero, List.nil_append, List.drop_eq_nil_of_le (by rw [cellsOfBytes_length, hl]; omega), List.append_nil]
    rw [e]
    exact h _ (setRow_heap w g _ _ E _ hg) ⟨rfl, rfl, rfl, by simp [World.setRow], fun k hk => setRow_other w g k _ (by omega)⟩ (by simp [World.setRow])

/-- d.loose[i] = c -/
theorem store_run {w : World} {m nn : Nat} {D : DU} {L : Nat → Option (List UInt8)} (hm : w.ownsMap Tryz.prog 3 elemR m nn D) (hL : LooseD D L) (i : Nat) (hi : i < 1024) (hn : nn < maxLen) (l : List UInt8) (hl : l.length = 64) :
    ∃ w', (Instr.mapUpdate 59 (.map (some m)) (.int .i64 (i : Int)) (.agg (cellsOfBytes l).toArray)).run Tryz.prog w = .ok () w' ∧ w'.ownsMap Tryz.prog 3 elemR m (nn + 1) (D.put (.int .i64 (i : Int)) (.lit (.string l))) ∧ LooseD (D.put (.int .i64 (i : Int)) (.lit (.string l))) (DS.upd L i (some l)) ∧ w.grownBy w' (some m) := by
  obtain ⟨w', hrun, ho, ht⟩ := hm.store (int_keyed Tryz.underlying3) Tryz.underlying59 hn (keyOf_at i hi) (elemR_mk hl)
  exact ⟨w', hrun, ho, hL.put hm.isMap i l, ht.grown⟩
theorem chg_n {S T : DS} (hc : S.chg = some T) : T.n = S.n ∧ T.firm = S.firm ∧ T.loose = S.loose ∧ T.ops = S.ops + 1 := by
  unfold DS.chg at hc
  split at hc
  · cases hc
  · rw [← Option.some.inj hc]; exact ⟨rfl, rfl, rfl, rfl⟩
  · rw [← Option.some.inj hc]; exact ⟨rfl, rfl, rfl, rfl⟩

theorem blk_lt {w : World} {g : Nat} {l : List UInt8} (h : w.rangeAt g 0 (cellsOfBytes l)) (hl : l.length = 64) : g < w.heap.size := by
  have := h 0 _ (cellsOfBytes_get l 0 (by omega))
  exact World.block_lt_of_cell? w _ this
theorem DskL.far {w : World} {b g c m nn B : Nat} {F : Nat → Prop} {S : DS} {D : DU} {A : Option Addr} {l : List UInt8} (h : DskL w b F S g c m nn D) (hr : BytesAt w B A l) (hl : l ≠ []) : ∀ ad, A = some ad → ¬ ad.block = b := by
  rintro ad rfl e
  obtain ⟨ad', e1, _, hc⟩ := hr hl
  cases e1
  have h0 := hc 0 (List.length_pos_iff.2 hl)
  rw [show ad.add 0 = ad by unfold Addr.add; simp] at h0
  have hh := h.head
  unfold BlkR at hh
  unfold World.cell? at h0
  rw [e, hh] at h0
  simp only at h0
  split at h0
  · cases h0
  · rcases hk : ad.off with _ | _ | _ | _ | _ | _ | k <;> rw [hk] at h0 <;> simp at h0
set_option maxRecDepth 100000 in
theorem dWrite (w : World) (b : Nat) (F : Nat → Prop) (S : DS) (i : Int) (A : Option Addr) (l : List UInt8) (n c0 : Nat) (h : DiskAt w b F S) (hops : S.ops ≤ 1000000) (hr : BytesAt w w.heap.size A l) (hn : l.length = n) :
    Calls Tryz.prog 44 #[.pointer (some ⟨b, 0, none⟩), .int .i64 i, .slice A n c0] w (DPost (S.write i l).2 (S.write i l).1 b F w) := by
  have hM := Lib.hid h
  obtain ⟨g, c, m, nn, D, h⟩ := h
  have hA := h.far hr
  have hFb := Lib.hid h.Fb
  have zm := made_yes w b h.cell0
  have zh := dHas w b g c S.n i h.cell1
  have x5 := h.cell5
  change Calls _ _ _ _ (fun e w' => e = .returned (.bool (S.there i)) ∧ w = w') at zh
  cases ho : S.out with
  | true =>
    rw [show S.write i l = (S, 10) by simp [DS.write, ho]]
    rw [ho] at x5
    clear h ho zh
    go_enter Tryz.func44, Tryz.ntmps44
    go_wp2_with (go_at_call 62; refine zm.mono ?_; (rintro e w2 ⟨rfl, rfl⟩))
    go_ret
    exact ⟨F, rfl, hM.out, fun k hk => .inl hk, Frame.refl _ _⟩
  | false =>
    rw [ho] at x5
    cases ht : S.there i with
    | false =>
      rw [show S.write i l = (S, 5) by simp [DS.write, ho, ht]]
      rw [ht] at zh
      clear h ho ht
      go_enter Tryz.func44, Tryz.ntmps44
      go_wp2_with (first
        | (go_at_call 62; refine zm.mono ?_; (rintro e w2 ⟨rfl, rfl⟩))
        | (go_at_call 73; refine zh.mono ?_; (rintro e w2 ⟨rfl, rfl⟩)))
      go_ret
      exact ⟨F, rfl, hM.out, fun k hk => .inl hk, Frame.refl _ _⟩
    | true =>
      rw [ht] at zh
      by_cases h64 : n = 64
      · subst h64
        have hi := (S.there_iff i).1 ht
        obtain ⟨k, rfl⟩ : ∃ k : Nat, i = (k : Int) := ⟨i.toNat, by omega⟩
        have hk : k < S.n := by omega
        have hk2 : k < 1024 := by have := h.ok.n2; omega
        have zc := dChange w b F S g c m nn D h hops
        cases hc : S.chg with
        | none =>
          rw [hc] at zc
          rw [show S.write (k : Int) l = ({ S with out := true }, 10) by simp [DS.write, ho, ht, hn, hc]]
          clear h ho ht hc hi
          go_enter Tryz.func44, Tryz.ntmps44
          go_wp2_with (first
            | (go_at_call 62; refine zm.mono ?_; (rintro e w2 ⟨rfl, rfl⟩))
            | (go_at_call 73; refine zh.mono ?_; (rintro e w2 ⟨rfl, rfl⟩))
            | (go_at_call 74; refine zc.mono ?_; (rintro e w2 ⟨rfl, hM2, hFr2⟩)))
          go_ret
          exact ⟨F, rfl, ⟨g, c, m, nn, D, hM2⟩, fun k hk => .inl hk, hFr2.mono fun k e => e ▸ hFb.out⟩
        | some T =>
          rw [hc] at zc
          rw [show S.write (k : Int) l = ({ T with loose := DS.upd T.loose k (some l) }, 0) by simp [DS.write, ho, ht, hn, hc]]
          obtain ⟨t1, t2, t3, t4⟩ := chg_n hc
          have hfew := h.few
          have kT : k < T.n := by omega
          have hF := Lib.hid (And.intro h.Fb h.Fm)
          have hno : T.ops ≤ 1000001 := by omega
          have hnn : nn + 1 ≤ T.ops := by omega
          have hmax : nn < maxLen := by unfold maxLen; omega
          have hsz : (Tryz.prog.info? 126).map (·.size) = some (cellsOfBytes l).length := by rw [cellsOfBytes_length, hn]; exact sizeC
          have hun := underC
          have hof := Lib.hid hn
          clear h ho ht hc hi t1 t2 t3 t4 hk hM hfew hops hno hn
          go_enter Tryz.func44, Tryz.ntmps44
          go_wp2_with (first
            | (go_at_call 62; refine zm.mono ?_; (rintro e w2 ⟨rfl, rfl⟩))
            | (go_at_call 73; refine zh.mono ?_; (rintro e w2 ⟨rfl, rfl⟩))
            | (go_at_call 74; refine zc.mono ?_; (rintro e w2 ⟨rfl, hL, hFr2⟩; change DskL w2 b F T g c m nn D at hL; have hr2 : BytesAt w2 w2.heap.size A l := hFr2.bytes hr (hA (by rintro rfl; cases hof.out)); replace hFr2 := hFr2.mono (G := F) (fun k e => e ▸ hFb.out); have hL := Lib.hid hL; have hFr2 := Lib.hid hFr2; have hr2 := Lib.hid hr2))
            | (refine wpList_allocC rfl rfl ?_)
            | (refine wpList_copyN rfl _ _ rfl w2.heap.size 64 64 c0 A rfl rfl zs l (by simp) hof.out (by omega) (BlkR.new w2 (cellsOfBytes zs) 126) (hr2.out.step ((Below.refl _ _).alloc (Nat.le_refl _) _)) ?_; intro w4 hb4 hB4 hs4; have c4 : Below w2.heap.size w2 w4 := ((Below.refl _ _).alloc (Nat.le_refl _) _).trans hB4; have hL4 := hL.out.step c4; have y2 := hL4.cell2; obtain ⟨w5, run5, own5, ls5, gr5⟩ := store_run (w := w4.drew) hL4.map.drew hL4.loose k hk2 hmax l hof.out; have r4 := hb4.range; have hL4 := Lib.hid hL4; have c4 := Lib.hid c4; clear hb4 hB4 hs4; have y2d : w4.drew.cell? ⟨b, 2, none⟩ = some (.map (some m)) := y2; have r4d : w4.drew.rangeAt w2.heap.size 0 (cellsOfBytes l) := r4; have y5 : w5.cell? ⟨b, 2, none⟩ = some (.map (some m)) := (World.cell?_of_block (w := w4.drew) (a := ⟨b, 2, none⟩) (gr5.block b (hL4.out.lt b hF.out.1) (fun e => hL4.out.nbm (Option.some.inj e)))).trans y2d; have r5 : w5.rangeAt w2.heap.size 0 (cellsOfBytes l) := rangeAt_keep r4d (gr5.block w2.heap.size (blk_lt r4d hof.out) (fun e => Nat.ne_of_gt (hL.out.lt m hF.out.2) (Option.some.inj e))); have own5 := Lib.hid own5; have ls5 := Lib.hid ls5; have gr5 := Lib.hid gr5))
          go_region_held3 (fun w' => w'.cell? ⟨b, 2, none⟩ = some (.map (some m)) ∧ w'.rangeAt w2.heap.size 0 (cellsOfBytes l)) (first | exact ⟨y2d, r4d⟩ | exact ⟨y5, r5⟩) (fail)
          go_wp2
          go_ret
          refine ⟨F, rfl, ⟨g, c, m, _, _, (hL4.out.kept (w' := w4.drew) (Nat.le_refl _) fun _ _ => rfl).map_set gr5.out own5.out ls5.out hnn rfl (fun j q hj => ?_)⟩, fun j hj => .inl hj, ?_⟩
          · unfold DS.upd at hj
            by_cases e : j = k
            · rw [if_pos e] at hj; cases hj; subst e; exact ⟨kT, hof.out⟩
            · rw [if_neg e] at hj; exact hL4.out.ok.loose j q hj
          · exact (hFr2.out.trans (Frame.of_below (F := F) c4.out.drew) (fun j hj => .inl hj)).trans (frameGrown gr5.out hF.out.2) (fun j hj => .inl hj)
      · have hne : ((n : Int) != 64) = true := by simp; omega
        rw [show S.write i l = (S, 2) by simp [DS.write, ho, ht, hn, h64]]
        clear h ho ht
        go_enter Tryz.func44, Tryz.ntmps44
        go_wp2_with (first
          | (go_at_call 62; refine zm.mono ?_; (rintro e w2 ⟨rfl, rfl⟩))
          | (go_at_call 73; refine zh.mono ?_; (rintro e w2 ⟨rfl, rfl⟩)))
        go_ret
        exact ⟨F, rfl, hM.out, fun k hk => .inl hk, Frame.refl _ _⟩
end Go.Proofs.YtcahpodmcklnbaaGreatDoor
/-
  The program's own disk: Turn. Conditions: none.
-/
namespace Go.Proofs.YtcahpodmcklnbaaGreatDoor
open Go.RowKit Go.Maps

theorem xorU8 (x y : UInt8) : bits .xor .u8 (x.toNat : Int) (y.toNat : Int) = ((x ^^^ y).toNat : Int) := by
  rw [UInt8.toNat_xor]
  exact u8_xor_nat _ _ x.toNat_lt y.toNat_lt
section
variable {w w' : World} {b g c m nn : Nat} {F : Nat → Prop} {S : DS} {D : DU}
/-- a sector's byte, turned -/
theorem DskL.byte_set (h : DskL w b F S g c m nn D) (i : Nat) (hi : i < S.n) (j : Nat) (hj : j < 64) (x : UInt8) :
    DskL (w.setCell ⟨g, i * 64 + j, none⟩ (.int .u8 (x.toNat : Int))) b F { S with firm := DS.upd S.firm i ((S.firm i).set j x) } g c m nn D := by
  have hsz : (w.setCell ⟨g, i * 64 + j, none⟩ (.int .u8 (x.toNat : Int))).heap.size = w.heap.size := by simp [World.setCell]
  have ho : ∀ q, q ≠ g → (w.setCell ⟨g, i * 64 + j, none⟩ (.int .u8 (x.toNat : Int))).heap[q]? = w.heap[q]? := fun q hq => Below.heap_setCell w ⟨g, i * 64 + j, none⟩ _ q hq
  refine { h with ok := ⟨h.ok.n1, h.ok.n2, fun q hq => ?_, h.ok.loose⟩, head := (ho b h.nbg).trans h.head, lt := fun k hk => by rw [hsz]; exact h.lt k hk, rows := fun q hq => ?_, room := World.there_setCells h.room g (i * 64 + j) [.int .u8 (x.toNat : Int)], map := ownsMap_keep h.map (ho m h.ngm.symm) }
  · show (DS.upd S.firm i ((S.firm i).set j x) q).length = 64
    unfold DS.upd
    by_cases e : q = i
    · rw [if_pos e, List.length_set]; exact h.ok.firm i hi
    · rw [if_neg e]; exact h.ok.firm q hq
  · show World.rangeAt _ g (q * 64) (cellsOfBytes (DS.upd S.firm i ((S.firm i).set j x) q))
    unfold DS.upd
    by_cases e : q = i
    · subst e
      rw [if_pos rfl]
      have e1 : cellsOfBytes ((S.firm q).set j x) = (cellsOfBytes (S.firm q)).set j (.int .u8 (x.toNat : Int)) := by simp [cellsOfBytes, List.map_set]
      rw [e1]
      have h64 := h.ok.firm q hi
      intro k v hv
      by_cases ek : k = j
      · subst ek
        have hl : k < (cellsOfBytes (S.firm q)).length := by rw [cellsOfBytes_length]; omega
        rw [List.getElem?_set_self hl] at hv
        have h0 := h.rows q hi k _ (List.getElem?_eq_getElem hl)
        rw [← Option.some.inj hv]
        exact World.cell?_setCell_same _ _ _ h0
      · rw [List.getElem?_set_ne (Ne.symm ek)] at hv
        rw [World.cell?_setCell_other _ _ _ _ (by simp only [ne_eq, Addr.mk.injEq, true_and, and_true]; omega)]
        exact h.rows q hi k v hv
    · rw [if_neg e]
      refine World.rangeAt_setCells_apart (h.rows q hq) g (i * 64 + j) [.int .u8 (x.toNat : Int)] (.inr ?_)
      rw [cellsOfBytes_length, h.ok.firm q hq]
      simp only [List.length_cons, List.length_nil]
      rcases Nat.lt_or_gt_of_ne e with h1 | h1
      · left; omega
      · right; omega
end

set_option maxRecDepth 100000 in
theorem dTurn (w : World) (b : Nat) (F : Nat → Prop) (S : DS) (i a : Int) (mask : UInt8) (h : DiskAt w b F S) :
    Calls Tryz.prog 40 #[.pointer (some ⟨b, 0, none⟩), .int .i64 i, .int .i64 a, .int .u8 (mask.toNat : Int)] w (DPost (S.turn i a mask).2 (S.turn i a mask).1 b F w) := by
  have hM := Lib.hid h
  obtain ⟨g, c, m, nn, D, h⟩ := h
  have zm := made_yes w b h.cell0
  have zh := dHas w b g c S.n i h.cell1
  change Calls _ _ _ _ (fun e w' => e = .returned (.bool (S.there i)) ∧ w = w') at zh
  cases ht : S.there i with
  | false =>
    rw [show S.turn i a mask = (S, 5) by simp [DS.turn, ht]]
    rw [ht] at zh
    clear h ht
    go_enter Tryz.func40, Tryz.ntmps40
    go_wp2_with (first
      | (go_at_call 62; refine zm.mono ?_; (rintro e w2 ⟨rfl, rfl⟩))
      | (go_at_call 73; refine zh.mono ?_; (rintro e w2 ⟨rfl, rfl⟩)))
    go_ret
    exact ⟨F, rfl, hM.out, fun k hk => .inl hk, Frame.refl _ _⟩
  | true =>
    rw [ht] at zh
    by_cases ha : 0 ≤ a
    · by_cases ha2 : a < 64
      · have hi := (S.there_iff i).1 ht
        obtain ⟨k, rfl⟩ : ∃ k : Nat, i = (k : Int) := ⟨i.toNat, by omega⟩
        obtain ⟨j, rfl⟩ : ∃ j : Nat, a = (j : Int) := ⟨a.toNat, by omega⟩
        have hk : k < S.n := by omega
        have hj8 : j < 64 := by omega
        rw [show S.turn (k : Int) (j : Int) mask = ({ S with firm := DS.upd S.firm k ((S.firm k).set j ((S.firm k).getD j 0 ^^^ mask)) }, 0) by simp [DS.turn, ht]; omega]
        have x1 := h.cell1
        have e4 := h.ok.firm k hk
        have xg := h.rows k hk j _ (cellsOfBytes_get (S.firm k) j (by omega))
        have fg := (h.room (k * 64 + j) (by omega)).2
        rw [Nat.zero_add] at fg
        obtain ⟨y, hy⟩ : ∃ y, y = (S.firm k).getD j 0 := ⟨_, rfl⟩
        rw [← hy] at xg ⊢
        have q3 := xorU8 y mask
        obtain ⟨z, hz⟩ : ∃ z, z = y ^^^ mask := ⟨_, rfl⟩
        rw [← hz] at q3 ⊢
        have hL := Lib.hid (h.byte_set k hk j hj8 z)
        have hFg := Lib.hid h.Fg
        obtain ⟨n, hn⟩ : ∃ n, n = S.n := ⟨_, rfl⟩
        rw [← hn] at x1 hk
        have kk : (k : Int) < (n : Int) := by omega
        have jj : (j : Int) < 64 := by omega
        have x1d : w.drew.cell? ⟨b, 1, none⟩ = some (.slice (some ⟨g, 0, none⟩) n c) := x1
        have xgd : w.drew.cell? ⟨g, k * 64 + j, none⟩ = some (.int .u8 (y.toNat : Int)) := xg
        have fgd : w.drew.frozen? ⟨g, k * 64 + j, none⟩ = false := fg
        clear h ht hi hk hn e4 hy hz ha ha2
        go_enter Tryz.func40, Tryz.ntmps40
        go_wp2_with (first
          | (go_at_call 62; refine zm.mono ?_; (rintro e w2 ⟨rfl, rfl⟩))
          | (go_at_call 73; refine zh.mono ?_; (rintro e w2 ⟨rfl, rfl⟩)))
        go_region
        all_goals (go_wp2)
        go_ret
        exact ⟨F, rfl, ⟨g, c, m, nn, D, hL.out.kept (Nat.le_refl _) fun _ _ => rfl⟩, fun k hk => .inl hk, (frameSet w g _ _ hFg.out).trans (Frame.of_below (F := F) (Below.refl _ _).drew) (fun k hk => .inl hk)⟩
      · rw [show S.turn i a mask = (S, 5) by simp [DS.turn, ht]; omega]
        clear h ht
        go_enter Tryz.func40, Tryz.ntmps40
        go_wp2_with (first
          | (go_at_call 62; refine zm.mono ?_; (rintro e w2 ⟨rfl, rfl⟩))
          | (go_at_call 73; refine zh.mono ?_; (rintro e w2 ⟨rfl, rfl⟩)))
        go_ret
        exact ⟨F, rfl, hM.out, fun k hk => .inl hk, Frame.refl _ _⟩
    · rw [show S.turn i a mask = (S, 5) by simp [DS.turn, ht]; omega]
      clear h ht
      go_enter Tryz.func40, Tryz.ntmps40
      go_wp2_with (first
        | (go_at_call 62; refine zm.mono ?_; (rintro e w2 ⟨rfl, rfl⟩))
        | (go_at_call 73; refine zh.mono ?_; (rintro e w2 ⟨rfl, rfl⟩)))
      go_ret
      exact ⟨F, rfl, hM.out, fun k hk => .inl hk, Frame.refl _ _⟩
end Go.Proofs.YtcahpodmcklnbaaGreatDoor
