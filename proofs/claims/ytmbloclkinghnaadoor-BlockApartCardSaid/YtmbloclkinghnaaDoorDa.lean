/-
  Several texts in one (Disk, DmMem, DmSmall, DmArr). Conditions: as each says.
-/
import Derived.Test.YtmbloclkinghnaaDoorBa
import Derived.Maps.Own
import Derived.Maps.OwnSet
import Derived.Maps.RangeWalk
import Derived.Deep.WholeRow
import Derived.Deep.MidRow
import Derived.Laws.LoneSync
import Derived.LaidEqlPtr
/-
  A disk's state, by the document, and what each call makes of it: plain mathematics; what a world may have turned. Conditions: none.
-/
namespace Go.Proofs.YtmbloclkinghnaaDoor
open Go.RowKit

/-- a disk: how many sectors; what each has firmly; what is loose of it; how many changes there were; how many are allowed (none: any); whether it is out -/
structure DS where
  n : Nat
  firm : Nat → List UInt8
  loose : Nat → Option (List UInt8)
  ops : Nat
  left : Option Nat
  out : Bool

namespace DS
def fresh (n : Nat) : DS := ⟨n, fun _ => List.replicate 64 0, fun _ => none, 0, none, false⟩
/-- it is a disk -/
structure Ok (S : DS) : Prop where
  n1 : 1 ≤ S.n
  n2 : S.n ≤ 1024
  firm : ∀ i, i < S.n → (S.firm i).length = 64
  loose : ∀ i b, S.loose i = some b → i < S.n ∧ b.length = 64
/-- is the sector there -/
def there (S : DS) (i : Int) : Bool := decide (0 ≤ i) && decide (i < (S.n : Int))
theorem there_iff (S : DS) (i : Int) : S.there i = true ↔ 0 ≤ i ∧ i < (S.n : Int) := by simp [there]
/-- what a sector is read as -/
def last (S : DS) (i : Nat) : List UInt8 := (S.loose i).getD (S.firm i)
/-- a change more: none, where the fuse allows none -/
def chg (S : DS) : Option DS :=
  match S.left with
  | some 0 => none
  | some (k + 1) => some { S with left := some k, ops := S.ops + 1 }
  | none => some { S with ops := S.ops + 1 }
def upd {α : Type} (f : Nat → α) (i : Nat) (x : α) : Nat → α := fun j => if j = i then x else f j
def write (S : DS) (i : Int) (b : List UInt8) : DS × Int :=
  if S.out then (S, 10) else if S.there i = false then (S, 5) else if b.length ≠ 64 then (S, 2) else
  match S.chg with
  | none => ({ S with out := true }, 10)
  | some T => ({ T with loose := upd T.loose i.toNat (some b) }, 0)
def settle (S : DS) : DS := { S with firm := S.last, loose := fun _ => none }
def flush (S : DS) : DS × Int :=
  if S.out then (S, 10) else
  match S.chg with
  | none => ({ S with out := true }, 10)
  | some T => (T.settle, 0)
def readB (S : DS) (i : Int) : List UInt8 := if S.out then [] else if S.there i = false then [] else S.last i.toNat
def readE (S : DS) (i : Int) : Int := if S.out then 10 else if S.there i = false then 5 else 0
def isLoose (S : DS) (i : Nat) : Bool := (S.loose i).isSome
/-- the loose sectors below one -/
def looseBelow (S : DS) (s : Nat) : List Nat := (List.range s).filter S.isLoose
def looseList (S : DS) : List Int := (S.looseBelow S.n).map fun i : Nat => (i : Int)
/-- does a loose sector stay -/
def stays (S : DS) (keeps : List Bool) (s : Nat) : Bool := S.isLoose s && (keeps[(S.looseBelow s).length]?).getD false
def stayBelow (S : DS) (keeps : List Bool) (s : Nat) : List Nat := (List.range s).filter (S.stays keeps)
/-- what a sector is firmly behind a crash -/
def crashed (S : DS) (keeps : List Bool) (tear : Int) (s : Nat) : List UInt8 :=
  if S.stays keeps s then (if ((S.stayBelow keeps s).length : Int) = tear then (S.last s).take 32 ++ (S.firm s).drop 32 else S.last s) else S.firm s
def crash (S : DS) (keeps : List Bool) (tear : Int) : DS := { S with firm := S.crashed keeps tear, loose := fun _ => none, left := none, out := false }
def turn (S : DS) (i at_ : Int) (m : UInt8) : DS × Int :=
  if S.there i = true ∧ 0 ≤ at_ ∧ at_ < 64 then ({ S with firm := upd S.firm i.toNat ((S.firm i.toNat).set at_.toNat ((S.firm i.toNat).getD at_.toNat 0 ^^^ m)) }, 0) else (S, 5)
def fuse (S : DS) (k : Int) : DS × Int := if S.out then (S, 10) else if k < 0 then (S, 2) else ({ S with left := some k.toNat }, 0)
end DS

/-- but for the blocks F, and new ones, the world is as it was -/
structure Frame (F : Nat → Prop) (w w' : World) : Prop where
  os : w'.os = w.os
  tape : w'.tape = w.tape
  output : w'.output = w.output
  size : w.heap.size ≤ w'.heap.size
  block : ∀ k, k < w.heap.size → ¬ F k → w'.heap[k]? = w.heap[k]?
section
variable {F G : Nat → Prop} {a w w' : World} {B : Nat}
theorem Frame.refl (F : Nat → Prop) (w : World) : Frame F w w := ⟨rfl, rfl, rfl, Nat.le_refl _, fun _ _ _ => rfl⟩
theorem Frame.of_below (h : Below w.heap.size w w') : Frame F w w' := ⟨h.os, h.tape, h.output, h.size, fun k hk _ => h.block k hk⟩
theorem Frame.below (h : Frame F w w') (hF : ∀ k, F k → B ≤ k) (hB : B ≤ w.heap.size) : Below B w w' := ⟨h.os, h.tape, h.output, h.size, fun k hk => h.block k (by omega) (fun hf => by have := hF k hf; omega)⟩
theorem Frame.below0 (h : Frame F w w') (hF : ∀ k, ¬ F k) : Below w.heap.size w w' := ⟨h.os, h.tape, h.output, h.size, fun k hk => h.block k hk (hF k)⟩
theorem Frame.mono (h : Frame F w w') (hFG : ∀ k, F k → G k) : Frame G w w' := ⟨h.os, h.tape, h.output, h.size, fun k hk hg => h.block k hk (fun hf => hg (hFG k hf))⟩
/-- what the second step turns is among the first's, or new then -/
theorem Frame.trans (h : Frame F a w) (h2 : Frame G w w') (hG : ∀ k, G k → F k ∨ a.heap.size ≤ k) : Frame F a w' :=
  ⟨h2.os.trans h.os, h2.tape.trans h.tape, h2.output.trans h.output, Nat.le_trans h.size h2.size, fun k hk hf =>
    (h2.block k (Nat.lt_of_lt_of_le hk h.size) (fun hg => (hG k hg).elim hf (fun h => by omega))).trans (h.block k hk hf)⟩
theorem Frame.bytes {A : Option Addr} {l : List UInt8} (h : Frame F w w') (hr : BytesAt w w.heap.size A l) (hF : ∀ ad, A = some ad → ¬ F ad.block) : BytesAt w' w'.heap.size A l := fun hl => by
  obtain ⟨ad, e, hb, hc⟩ := hr hl
  refine ⟨ad, e, Nat.lt_of_lt_of_le hb h.size, fun k hk => ?_⟩
  rw [← hc k hk]
  exact World.cell?_of_block (w := w) (by rw [block_add]; exact h.block _ hb (hF ad e))
theorem Frame.blk {g : Nat} {l : List UInt8} (h : Frame F w w') (hb : BlkB w g l) (hF : ¬ F g) : BlkB w' g l := (h.block g hb.lt hF).trans hb
end

/-- what is read: nil, or a whole block that is new (a slice's own, or an array's) -/
def RdB (w : World) (base : Nat) (A : Option Addr) (c : Nat) (l : List UInt8) : Prop :=
  (l = [] ∧ A = none ∧ c = 0) ∨ ∃ g E, A = some ⟨g, 0, none⟩ ∧ base ≤ g ∧ BlkR E w g (cellsOfBytes l) ∧ c = l.length
section
variable {w w' : World} {base c : Nat} {A : Option Addr} {l : List UInt8}
theorem RdB.bytes (h : RdB w base A c l) : BytesAt w w.heap.size A l := fun hl => by
  rcases h with ⟨rfl, _, _⟩ | ⟨g, E, rfl, _, hb, _⟩
  · exact absurd rfl hl
  · refine ⟨_, rfl, hb.lt, fun k hk => ?_⟩
    rw [addr_zero_add]
    exact hb.cell (cellsOfBytes_get l k hk)
theorem RdB.cells (h : RdB w base A c l) (hl : 0 < l.length) : ∃ g, A = some ⟨g, 0, none⟩ ∧ ∀ k, k < l.length → w.cell? ⟨g, k, none⟩ = some (.int .u8 ((l.getD k 0).toNat : Int)) := by
  rcases h with ⟨rfl, _, _⟩ | ⟨g, E, rfl, _, hb, _⟩
  · cases hl
  · exact ⟨g, rfl, fun k hk => hb.cell (cellsOfBytes_get l k hk)⟩
end

/-- WHAT A DISK's METHODS DO, whatever the package's own memory looks like: 'At w b F S': at block b there is a disk of state S, whose memory is the blocks F. -/
structure Disks (P : Program) (At : World → Nat → (Nat → Prop) → DS → Prop) : Prop where
  ok : ∀ w b F S, At w b F S → S.Ok
  lt : ∀ w b F S, At w b F S → ∀ k, F k → k < w.heap.size
  keep : ∀ w w' b F S, At w b F S → w.heap.size ≤ w'.heap.size → (∀ k, F k → w'.heap[k]? = w.heap[k]?) → At w' b F S
end Go.Proofs.YtmbloclkinghnaaDoor
/-
  How the program's own disk lies in memory: a block of six cells, a block of sectors' bytes, a map of the loose ones. Conditions: none.
-/
namespace Go.Proofs.YtmbloclkinghnaaDoor
open Go.RowKit Go.Maps

abbrev DU := DataW Unit
def byteOf : Value → Option UInt8
  | .int .u8 a => if 0 ≤ a ∧ a < 256 then some (UInt8.ofNat a.toNat) else none
  | _ => none
theorem byteOf_mk (x : UInt8) : byteOf (.int .u8 (x.toNat : Int)) = some x := by
  have := x.toNat_lt
  simp [byteOf]; omega
theorem byteOf_inv {v : Value} {x : UInt8} (h : byteOf v = some x) : v = .int .u8 (x.toNat : Int) := by
  unfold byteOf at h
  split at h
  · split at h
    · rename_i a h2
      cases h
      have e : (UInt8.ofNat a.toNat).toNat = a.toNat := by rw [UInt8.toNat_ofNat_of_lt']; show a.toNat < 256; omega
      rw [e]
      congr 1
      omega
    · cases h
  · cases h
/-- bytes as a value of an array's -/
def arr (l : List UInt8) : Value := .agg (cellsOfBytes l).toArray
/-- how an element of the map reads -/
def elemR (v : Value) : Option (DU × List MemPlace) :=
  match v with
  | .agg cs => match cs.toList.mapM byteOf with
    | some l => if l.length = 64 then some (.lit (.string l), []) else none
    | none => none
  | _ => none
theorem mapM_bytes : ∀ l : List UInt8, (cellsOfBytes l).mapM byteOf = some l
  | [] => rfl
  | x :: r => by
    have h := mapM_bytes r
    have e : cellsOfBytes (x :: r) = .int .u8 (x.toNat : Int) :: cellsOfBytes r := rfl
    rw [e, List.mapM_cons, byteOf_mk, h]
    rfl
theorem bytes_mapM : ∀ (cs : List Value) (l : List UInt8), cs.mapM byteOf = some l → cs = cellsOfBytes l
  | [], l, h => by
    rw [List.mapM_nil] at h
    cases h
    rfl
  | v :: r, l, h => by
    rw [List.mapM_cons] at h
    cases hv : byteOf v with
    | none => rw [hv] at h; cases h
    | some x =>
      rw [hv] at h
      cases hr : r.mapM byteOf with
      | none => rw [hr] at h; cases h
      | some l' =>
        rw [hr] at h
        cases h
        rw [bytes_mapM r l' hr, byteOf_inv hv]
        rfl
theorem elemR_mk {l : List UInt8} (h : l.length = 64) : elemR (arr l) = some (.lit (.string l), []) := by
  simp [elemR, arr, mapM_bytes, h]
theorem elemR_inv {v : Value} {z : DU × List MemPlace} (h : elemR v = some z) : ∃ l : List UInt8, l.length = 64 ∧ v = arr l ∧ z = (.lit (.string l), []) := by
  unfold elemR at h
  split at h
  · rename_i cs
    split at h
    · rename_i l hl
      split at h
      · rename_i h64
        cases h
        refine ⟨l, h64, ?_, rfl⟩
        have e := bytes_mapM _ _ hl
        unfold arr
        rw [← e]
      · cases h
    · cases h
  · cases h
theorem elemR_at {v : Value} {l : List UInt8} {ps : List MemPlace} (h : elemR v = some (.lit (.string l), ps)) : v = arr l ∧ l.length = 64 := by
  obtain ⟨l', h1, h2, h3⟩ := elemR_inv h
  simp only [Prod.mk.injEq, DataW.lit.injEq, Lit.string.injEq] at h3
  obtain ⟨rfl, _⟩ := h3
  exact ⟨h2, h1⟩

/-- the datum says of each number what is loose of that sector -/
structure LooseD (D : DU) (L : Nat → Option (List UInt8)) : Prop where
  has : ∀ x : Int, Maps.has D (.int .i64 x) = (decide (0 ≤ x) && (L x.toNat).isSome)
  at_ : ∀ (i : Nat) l, L i = some l → ∀ z, D.atKey (.int .i64 (i : Int)) z = .lit (.string l)
theorem LooseD.none_ : LooseD (.map []) (fun _ => none) := ⟨fun x => by simp [Maps.has], fun i l h => by cases h⟩
theorem LooseD.put {D : DU} {L : Nat → Option (List UInt8)} (h : LooseD D L) (hm : Maps.IsMap D) (i : Nat) (l : List UInt8) : LooseD (D.put (.int .i64 (i : Int)) (.lit (.string l))) (DS.upd L i (some l)) := by
  have hk : WideAt.IsKeyLit (.int .i64 (i : Int)) := trivial
  refine ⟨fun x => ?_, fun j m hj z => ?_⟩
  · by_cases e : x = (i : Int)
    · subst e
      rw [Maps.has_put_same hm hk]
      simp [DS.upd]
    · rw [Maps.has_put_other (fun e1 => e (by cases e1; rfl)), h.has x]
      by_cases h0 : 0 ≤ x
      · have : x.toNat ≠ i := by omega
        simp [DS.upd, this]
      · simp [h0]
  · unfold DS.upd at hj
    by_cases e : j = i
    · subst e
      rw [if_pos rfl] at hj
      cases hj
      exact Maps.atKey_put_same hm hk _ _
    · rw [if_neg e] at hj
      rw [Maps.atKey_put_other (fun e1 => e (by have := (Lit.int.inj e1).2; omega))]
      exact h.at_ j m hj z

namespace DS
/-- the fuse as a number -/
def fuseI (S : DS) : Int := match S.left with | none => -1 | some k => (k : Int)
end DS
section
variable {w w' : World} {b g c m nn : Nat} {F G : Nat → Prop} {S T : DS} {D : DU}
theorem rangeAt_keep {g o : Nat} {cs : List Value} (h : w.rangeAt g o cs) (hk : w'.heap[g]? = w.heap[g]?) : w'.rangeAt g o cs := fun j v hv => (World.cell?_of_block (w := w) (a := ⟨g, o + j, none⟩) hk).trans (h j v hv)
theorem there_keep {g o n : Nat} (h : w.there g o n) (hk : w'.heap[g]? = w.heap[g]?) : w'.there g o n := fun j hj => by
  obtain ⟨h1, h2⟩ := h j hj
  refine ⟨by rw [World.cell?_of_block (w := w) (a := ⟨g, o + j, none⟩) hk]; exact h1, ?_⟩
  rw [← h2]
  unfold World.frozen?
  rw [show (⟨g, o + j, none⟩ : Addr).block = g from rfl, hk]
theorem ownsMap_keep {R : Value → Option (DU × List MemPlace)} {k : TypeId} (h : w.ownsMap Tryd.prog k R m nn D) (hk : w'.heap[m]? = w.heap[m]?) : w'.ownsMap Tryd.prog k R m nn D := by
  obtain ⟨es, clock, hb, r⟩ := h
  exact ⟨es, clock, hk.trans hb, r⟩
theorem frameSet (w : World) (b k : Nat) (u : Value) (hF : F b) : Frame F w (w.setCell ⟨b, k, none⟩ u) := ⟨rfl, rfl, rfl, Nat.le_of_eq (by simp [World.setCell]), fun j _ hj => Below.heap_setCell w ⟨b, k, none⟩ u j (fun e => hj (by rw [show j = b from e]; exact hF))⟩
theorem frameCells (w : World) (g o : Nat) (vs : List Value) (hF : F g) : Frame F w (w.setCells g o vs) := by
  have hg : ∀ (vs : List Value) (o : Nat) (w : World) (j : Nat), j ≠ g → (w.setCells g o vs).heap[j]? = w.heap[j]? := by
    intro vs
    induction vs with
    | nil => intro o w j _; rfl
    | cons v r ih => intro o w j hj; rw [World.setCells, ih (o + 1) _ j hj]; exact Below.heap_setCell w ⟨g, o, none⟩ v j hj
  have hr : ∀ (vs : List Value) (o : Nat) (w : World), (w.setCells g o vs).os = w.os ∧ (w.setCells g o vs).tape = w.tape ∧ (w.setCells g o vs).output = w.output ∧ (w.setCells g o vs).heap.size = w.heap.size := by
    intro vs
    induction vs with
    | nil => intro o w; exact ⟨rfl, rfl, rfl, rfl⟩
    | cons v r ih =>
      intro o w
      rw [World.setCells]
      obtain ⟨h1, h2, h3, h4⟩ := ih (o + 1) (w.setCell ⟨g, o, none⟩ v)
      exact ⟨h1, h2, h3, by rw [h4]; simp [World.setCell]⟩
  obtain ⟨h1, h2, h3, h4⟩ := hr vs o w
  exact ⟨h1, h2, h3, Nat.le_of_eq h4.symm, fun j _ hj => hg vs o w j (fun e => hj (e ▸ hF))⟩
theorem frameGrown (hg : w.grownBy w' (some m)) (hF : F m) : Frame F w w' := ⟨hg.os, hg.tape, hg.output, hg.size, fun j hj hn => hg.block j hj (fun e => hn (by rw [Option.some.inj e]; exact hF))⟩
end
end Go.Proofs.YtmbloclkinghnaaDoor
/-
  The program's own disk: whether it was made, whether a sector is there, a change more, Fuse, Up, Sectors, Ops. Conditions: none.
-/
namespace Go.Proofs.YtmbloclkinghnaaDoor
open Go.RowKit Go.Maps

end Go.Proofs.YtmbloclkinghnaaDoor
/-
  Arrays of 64 bytes, by value: made, stored, loaded, at the operations. Conditions: none.
-/
namespace Go.Proofs.YtmbloclkinghnaaDoor
open Go.RowKit Go.Maps

abbrev zs : List UInt8 := List.replicate 64 0
theorem one_bytes (l : List UInt8) : ∀ v ∈ cellsOfBytes l, v.oneCell' = true := by
  intro v hv
  simp only [cellsOfBytes, List.mem_map] at hv
  obtain ⟨x, _, rfl⟩ := hv
  rfl
section
variable {w : World} {ops : Array Oper} {rest : List Oper} {o : Oper} {a : Act} {Q : Exit → Act → World → Prop}
end
section
variable {w w' : World} {E : TypeId} {g : Nat} {xs ys : List Value}
theorem BlkR.range (h : BlkR E w g xs) : w.rangeAt g 0 xs := fun j v hv => by rw [Nat.zero_add]; exact h.cell hv
theorem BlkR.there (h : BlkR E w g xs) {n : Nat} (hn : n ≤ xs.length) : w.there g 0 n := fun j hj => by
  rw [Nat.zero_add]
  exact ⟨by rw [h.cell (List.getElem?_eq_getElem (by omega : j < xs.length))]; rfl, h.frozen j⟩
theorem setCells_list : ∀ (ys : List Value) (w : World) (o : Nat) (xs : List Value), BlkR E w g xs → o + ys.length ≤ xs.length → BlkR E (w.setCells g o ys) g (xs.take o ++ ys ++ xs.drop (o + ys.length))
  | [], w, o, xs, h, _ => by
    rw [World.setCells, List.append_nil, List.length_nil, Nat.add_zero, List.take_append_drop]
    exact h
  | v :: r, w, o, xs, h, hle => by
    rw [World.setCells]
    rw [List.length_cons] at hle
    have h2 := setCells_list r _ (o + 1) _ (h.set_ o v) (by rw [List.length_set]; omega)
    have e : (xs.set o v).take (o + 1) ++ r ++ (xs.set o v).drop (o + 1 + r.length) = xs.take o ++ (v :: r) ++ xs.drop (o + (v :: r).length) := by
      rw [List.drop_set_of_lt (by omega), List.length_cons, show o + (r.length + 1) = o + 1 + r.length by omega, List.take_add_one, List.take_set_of_le (Nat.le_refl o)]
      simp [show o < xs.length by omega]
    rw [← e]
    exact h2
theorem BlkR.over (h : BlkR E w g xs) (hl : ys.length = xs.length) : BlkR E (w.setCells g 0 ys) g ys := by
  have := setCells_list ys w 0 xs h (by omega)
  rwa [List.take_zero, List.nil_append, Nat.zero_add, hl, List.drop_length, List.append_nil] at this
theorem Below.setCells {B : Nat} {a : World} (h : Below B a w) (hg : B ≤ g) (o : Nat) (vs : List Value) : Below B a (w.setCells g o vs) := by
  induction vs generalizing w o with
  | nil => exact h
  | cons v r ih => rw [World.setCells]; exact ih (h.setCell (p := ⟨g, o, none⟩) hg v) (o + 1)
theorem setCells_size (w : World) (g o : Nat) (vs : List Value) : (w.setCells g o vs).heap.size = w.heap.size := by
  induction vs generalizing w o with
  | nil => rfl
  | cons v r ih => rw [World.setCells, ih]; simp [World.setCell]
end
theorem key_wf (i : Nat) (hi : i < 1024) : (Lit.int .i64 (i : Int)).wf = true := by
  have e1 : IntKind.i64.min = -9223372036854775808 := by decide
  have e2 : IntKind.i64.max = 9223372036854775807 := by decide
  simp only [Lit.wf, e1, e2, Bool.and_eq_true, decide_eq_true_eq]
  omega
theorem keyOf_at (i : Nat) (hi : i < 1024) : keyOf Tryd.prog 3 (.int .i64 (i : Int)) = some (.int .i64 (i : Int)) := keyOf_int_mk Tryd.underlying3 (key_wf i hi)
end Go.Proofs.YtmbloclkinghnaaDoor
