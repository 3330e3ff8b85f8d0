/-
  How the program's own disk lies in memory: a block of six cells, a block of sectors' bytes, a map of the loose ones. Conditions: none.
-/
import Derived.Test.YtgnfajmjhlnobaaDoorDisk
import Derived.Test.YtgnfajmjhlnobaaDoorKitOwn
import Derived.Maps.Own
import Derived.Maps.OwnSet
import Derived.Maps.RangeWalk
import Derived.Deep.WholeRow
import Derived.Deep.MidRow
import Derived.Laws.LoneSync
namespace Go.Proofs.YtgnfajmjhlnobaaDoor
open Go.RowKit Go.Maps

abbrev DU := DataW Unit
def byteOf : Value → Option UInt8
  | .int .u8 a => if 0 ≤ a ∧ a < 256 then some (UInt8.ofNat a.toNat) else none
  | _ => none
theorem byteOf_mk (x : UInt8) : byteOf (.int .u8 (x.toNat : Int)) = some x := by
  have := x.toNat_lt
  simp [byteOf]; omega
theorem byteOf_inv {v : Value} {x : UInt8} (h : byteOf v = some x) : v = .int .u8 (x.toNat : Int) := by
  unfold byteOf at h
  split at h
  · split at h
    · rename_i a h2
      cases h
      have e : (UInt8.ofNat a.toNat).toNat = a.toNat := by rw [UInt8.toNat_ofNat_of_lt']; show a.toNat < 256; omega
      rw [e]
      congr 1
      omega
    · cases h
  · cases h
/-- bytes as a value of an array's -/
def arr (l : List UInt8) : Value := .agg (cellsOfBytes l).toArray
/-- how an element of the map reads -/
def elemR (v : Value) : Option (DU × List MemPlace) :=
  match v with
  | .agg cs => match cs.toList.mapM byteOf with
    | some l => if l.length = 64 then some (.lit (.string l), []) else none
    | none => none
  | _ => none
theorem mapM_bytes : ∀ l : List UInt8, (cellsOfBytes l).mapM byteOf = some l
  | [] => rfl
  | x :: r => by
    have h := mapM_bytes r
    have e : cellsOfBytes (x :: r) = .int .u8 (x.toNat : Int) :: cellsOfBytes r := rfl
    rw [e, List.mapM_cons, byteOf_mk, h]
    rfl
theorem bytes_mapM : ∀ (cs : List Value) (l : List UInt8), cs.mapM byteOf = some l → cs = cellsOfBytes l
  | [], l, h => by
    rw [List.mapM_nil] at h
    cases h
    rfl
  | v :: r, l, h => by
    rw [List.mapM_cons] at h
    cases hv : byteOf v with
    | none => rw [hv] at h; cases h
    | some x =>
      rw [hv] at h
      cases hr : r.mapM byteOf with
      | none => rw [hr] at h; cases h
      | some l' =>
        rw [hr] at h
        cases h
        rw [bytes_mapM r l' hr, byteOf_inv hv]
        rfl
theorem elemR_mk {l : List UInt8} (h : l.length = 64) : elemR (arr l) = some (.lit (.string l), []) := by
  simp [elemR, arr, mapM_bytes, h]
theorem elemR_inv {v : Value} {z : DU × List MemPlace} (h : elemR v = some z) : ∃ l : List UInt8, l.length = 64 ∧ v = arr l ∧ z = (.lit (.string l), []) := by
  unfold elemR at h
  split at h
  · rename_i cs
    split at h
    · rename_i l hl
      split at h
      · rename_i h64
        cases h
        refine ⟨l, h64, ?_, rfl⟩
        have e := bytes_mapM _ _ hl
        unfold arr
        rw [← e]
      · cases h
    · cases h
  · cases h
theorem elemR_at {v : Value} {l : List UInt8} {ps : List MemPlace} (h : elemR v = some (.lit (.string l), ps)) : v = arr l ∧ l.length = 64 := by
  obtain ⟨l', h1, h2, h3⟩ := elemR_inv h
  simp only [Prod.mk.injEq, DataW.lit.injEq, Lit.string.injEq] at h3
  obtain ⟨rfl, _⟩ := h3
  exact ⟨h2, h1⟩

/-- the datum says of each number what is loose of that sector -/
structure LooseD (D : DU) (L : Nat → Option (List UInt8)) : Prop where
  has : ∀ x : Int, Maps.has D (.int .i64 x) = (decide (0 ≤ x) && (L x.toNat).isSome)
  at_ : ∀ (i : Nat) l, L i = some l → ∀ z, D.atKey (.int .i64 (i : Int)) z = .lit (.string l)
theorem LooseD.none_ : LooseD (.map []) (fun _ => none) := ⟨fun x => by simp [Maps.has], fun i l h => by cases h⟩
theorem LooseD.put {D : DU} {L : Nat → Option (List UInt8)} (h : LooseD D L) (hm : Maps.IsMap D) (i : Nat) (l : List UInt8) : LooseD (D.put (.int .i64 (i : Int)) (.lit (.string l))) (DS.upd L i (some l)) := by
  have hk : WideAt.IsKeyLit (.int .i64 (i : Int)) := trivial
  refine ⟨fun x => ?_, fun j m hj z => ?_⟩
  · by_cases e : x = (i : Int)
    · subst e
      rw [Maps.has_put_same hm hk]
      simp [DS.upd]
    · rw [Maps.has_put_other (fun e1 => e (by cases e1; rfl)), h.has x]
      by_cases h0 : 0 ≤ x
      · have : x.toNat ≠ i := by omega
        simp [DS.upd, this]
      · simp [h0]
  · unfold DS.upd at hj
    by_cases e : j = i
    · subst e
      rw [if_pos rfl] at hj
      cases hj
      exact Maps.atKey_put_same hm hk _ _
    · rw [if_neg e] at hj
      rw [Maps.atKey_put_other (fun e1 => e (by have := (Lit.int.inj e1).2; omega))]
      exact h.at_ j m hj z

namespace DS
/-- the fuse as a number -/
def fuseI (S : DS) : Int := match S.left with | none => -1 | some k => (k : Int)
end DS
/-- block b is a disk of state S; its sectors' bytes are at block g, its map at block m -/
structure DskL (w : World) (b : Nat) (F : Nat → Prop) (S : DS) (g c m nn : Nat) (D : DU) : Prop where
  ok : S.Ok
  left : ∀ k, S.left = some k → k ≤ 9223372036854775807
  head : BlkR 42 w b [.pointer (some ⟨b, 0, none⟩), .slice (some ⟨g, 0, none⟩) S.n c, .map (some m), .int .i64 (S.ops : Int), .int .i64 S.fuseI, .bool S.out]
  cap : S.n ≤ c
  Fb : F b
  Fg : F g
  Fm : F m
  nbg : b ≠ g
  nbm : b ≠ m
  ngm : g ≠ m
  lt : ∀ k, F k → k < w.heap.size
  rows : ∀ i, i < S.n → w.rangeAt g (i * 64) (cellsOfBytes (S.firm i))
  room : w.there g 0 (S.n * 64)
  map : w.ownsMap Tryd.prog 3 elemR m nn D
  few : nn ≤ S.ops
  loose : LooseD D S.loose
/-- a disk of state S is at block b, in the blocks F -/
def DiskAt (w : World) (b : Nat) (F : Nat → Prop) (S : DS) : Prop := ∃ g c m nn D, DskL w b F S g c m nn D

section
variable {w w' : World} {b g c m nn : Nat} {F G : Nat → Prop} {S T : DS} {D : DU}
theorem rangeAt_keep {g o : Nat} {cs : List Value} (h : w.rangeAt g o cs) (hk : w'.heap[g]? = w.heap[g]?) : w'.rangeAt g o cs := fun j v hv => (World.cell?_of_block (w := w) (a := ⟨g, o + j, none⟩) hk).trans (h j v hv)
theorem there_keep {g o n : Nat} (h : w.there g o n) (hk : w'.heap[g]? = w.heap[g]?) : w'.there g o n := fun j hj => by
  obtain ⟨h1, h2⟩ := h j hj
  refine ⟨by rw [World.cell?_of_block (w := w) (a := ⟨g, o + j, none⟩) hk]; exact h1, ?_⟩
  rw [← h2]
  unfold World.frozen?
  rw [show (⟨g, o + j, none⟩ : Addr).block = g from rfl, hk]
theorem ownsMap_keep {R : Value → Option (DU × List MemPlace)} {k : TypeId} (h : w.ownsMap Tryd.prog k R m nn D) (hk : w'.heap[m]? = w.heap[m]?) : w'.ownsMap Tryd.prog k R m nn D := by
  obtain ⟨es, clock, hb, r⟩ := h
  exact ⟨es, clock, hk.trans hb, r⟩
theorem DskL.kept (h : DskL w b F S g c m nn D) (hs : w.heap.size ≤ w'.heap.size) (hk : ∀ k, F k → w'.heap[k]? = w.heap[k]?) : DskL w' b F S g c m nn D :=
  { h with
    head := (hk b h.Fb).trans h.head, lt := fun k hk' => Nat.lt_of_lt_of_le (h.lt k hk') hs,
    rows := fun i hi => rangeAt_keep (h.rows i hi) (hk g h.Fg), room := there_keep h.room (hk g h.Fg), map := ownsMap_keep h.map (hk m h.Fm) }
theorem DiskAt.keep (h : DiskAt w b F S) (hs : w.heap.size ≤ w'.heap.size) (hk : ∀ k, F k → w'.heap[k]? = w.heap[k]?) : DiskAt w' b F S := by
  obtain ⟨g, c, m, nn, D, h⟩ := h
  exact ⟨g, c, m, nn, D, h.kept hs hk⟩
theorem DiskAt.lt (h : DiskAt w b F S) : ∀ k, F k → k < w.heap.size := by
  obtain ⟨g, c, m, nn, D, h⟩ := h
  exact h.lt
theorem DiskAt.ok (h : DiskAt w b F S) : S.Ok := by
  obtain ⟨g, c, m, nn, D, h⟩ := h
  exact h.ok
theorem DskL.step (h : DskL w b F S g c m nn D) (hb : Below w.heap.size w w') : DskL w' b F S g c m nn D := h.kept hb.size fun k hk => hb.block k (h.lt k hk)
theorem DiskAt.step (h : DiskAt w b F S) (hb : Below w.heap.size w w') : DiskAt w' b F S := h.keep hb.size fun k hk => hb.block k (h.lt k hk)
theorem DskL.frame (h : DskL w b F S g c m nn D) (hFr : Frame G w w') (hG : ∀ k, F k → ¬ G k) : DskL w' b F S g c m nn D := h.kept hFr.size fun k hk => hFr.block k (h.lt k hk) (hG k hk)
theorem DskL.cell0 (h : DskL w b F S g c m nn D) : w.cell? ⟨b, 0, none⟩ = some (.pointer (some ⟨b, 0, none⟩)) := h.head.cell rfl
theorem DskL.cell1 (h : DskL w b F S g c m nn D) : w.cell? ⟨b, 1, none⟩ = some (.slice (some ⟨g, 0, none⟩) S.n c) := h.head.cell rfl
theorem DskL.cell2 (h : DskL w b F S g c m nn D) : w.cell? ⟨b, 2, none⟩ = some (.map (some m)) := h.head.cell rfl
theorem DskL.cell3 (h : DskL w b F S g c m nn D) : w.cell? ⟨b, 3, none⟩ = some (.int .i64 (S.ops : Int)) := h.head.cell rfl
theorem DskL.cell4 (h : DskL w b F S g c m nn D) : w.cell? ⟨b, 4, none⟩ = some (.int .i64 S.fuseI) := h.head.cell rfl
theorem DskL.cell5 (h : DskL w b F S g c m nn D) : w.cell? ⟨b, 5, none⟩ = some (.bool S.out) := h.head.cell rfl
/-- a field of the head, turned -/
theorem DskL.head_set (h : DskL w b F S g c m nn D) (k : Nat) (u : Value) (hT : T.n = S.n ∧ T.firm = S.firm ∧ T.loose = S.loose ∧ S.ops ≤ T.ops) (hl : ∀ k, T.left = some k → k ≤ 9223372036854775807)
    (e : [Value.pointer (some ⟨b, 0, none⟩), .slice (some ⟨g, 0, none⟩) S.n c, .map (some m), .int .i64 (S.ops : Int), .int .i64 S.fuseI, .bool S.out].set k u = [.pointer (some ⟨b, 0, none⟩), .slice (some ⟨g, 0, none⟩) T.n c, .map (some m), .int .i64 (T.ops : Int), .int .i64 T.fuseI, .bool T.out]) :
    DskL (w.setCell ⟨b, k, none⟩ u) b F T g c m nn D := by
  obtain ⟨t1, t2, t3, t4⟩ := hT
  have hsz : (w.setCell ⟨b, k, none⟩ u).heap.size = w.heap.size := by simp [World.setCell]
  have ho : ∀ j, j ≠ b → (w.setCell ⟨b, k, none⟩ u).heap[j]? = w.heap[j]? := fun j hj => Below.heap_setCell w ⟨b, k, none⟩ u j hj
  refine ⟨⟨by rw [t1]; exact h.ok.n1, by rw [t1]; exact h.ok.n2, fun i hi => by rw [t2]; exact h.ok.firm i (by rw [← t1]; exact hi), fun i l hi => by rw [t1]; rw [t3] at hi; exact h.ok.loose i l hi⟩, hl, ?_,
    by rw [t1]; exact h.cap, h.Fb, h.Fg, h.Fm, h.nbg, h.nbm, h.ngm, fun k hk => by rw [hsz]; exact h.lt k hk, fun i hi => ?_, ?_, ownsMap_keep h.map (ho m h.nbm.symm), Nat.le_trans h.few t4, by rw [t3]; exact h.loose⟩
  · rw [← e]; exact h.head.set_ k u
  · rw [t1] at hi; rw [t2]; exact rangeAt_keep (h.rows i hi) (ho g h.nbg.symm)
  · rw [t1]; exact there_keep h.room (ho g h.nbg.symm)
theorem frameSet (w : World) (b k : Nat) (u : Value) (hF : F b) : Frame F w (w.setCell ⟨b, k, none⟩ u) := ⟨rfl, rfl, rfl, Nat.le_of_eq (by simp [World.setCell]), fun j _ hj => Below.heap_setCell w ⟨b, k, none⟩ u j (fun e => hj (by rw [show j = b from e]; exact hF))⟩
/-- a sector's bytes, laid over -/
theorem DskL.row_set (h : DskL w b F S g c m nn D) (i : Nat) (hi : i < S.n) {l : List UInt8} (hl : l.length = 64) :
    DskL (w.setCells g (i * 64) (cellsOfBytes l)) b F { S with firm := DS.upd S.firm i l } g c m nn D := by
  have hc : (cellsOfBytes l).length = 64 := by rw [cellsOfBytes_length, hl]
  have hg : ∀ (vs : List Value) (o : Nat) (w : World) (j : Nat), j ≠ g → (w.setCells g o vs).heap[j]? = w.heap[j]? := by
    intro vs
    induction vs with
    | nil => intro o w j _; rfl
    | cons v r ih => intro o w j hj; rw [World.setCells, ih (o + 1) _ j hj]; exact Below.heap_setCell w ⟨g, o, none⟩ v j hj
  have hsz : ∀ (vs : List Value) (o : Nat) (w : World), (w.setCells g o vs).heap.size = w.heap.size := by
    intro vs
    induction vs with
    | nil => intro o w; rfl
    | cons v r ih => intro o w; rw [World.setCells, ih (o + 1) _]; simp [World.setCell]
  have hth : w.there g (i * 64) (cellsOfBytes l).length := fun j hj => by
    have := h.room (i * 64 + j) (by rw [hc] at hj; omega)
    rw [Nat.zero_add] at this
    exact this
  refine { h with ok := ⟨h.ok.n1, h.ok.n2, fun j hj => ?_, h.ok.loose⟩, head := (hg _ _ w b h.nbg).trans h.head, lt := fun k hk => by rw [hsz]; exact h.lt k hk, rows := fun j hj => ?_, room := World.there_setCells h.room _ _ _, map := ownsMap_keep h.map (hg _ _ w m h.ngm.symm) }
  · show (DS.upd S.firm i l j).length = 64
    unfold DS.upd
    by_cases e : j = i
    · rw [if_pos e]; exact hl
    · rw [if_neg e]; exact h.ok.firm j hj
  · show World.rangeAt _ g (j * 64) (cellsOfBytes (DS.upd S.firm i l j))
    unfold DS.upd
    by_cases e : j = i
    · subst e
      rw [if_pos rfl]
      exact World.rangeAt_setCells_same _ _ _ _ hth
    · rw [if_neg e]
      refine World.rangeAt_setCells_apart (h.rows j hj) _ _ _ (.inr ?_)
      rw [hc, cellsOfBytes_length, h.ok.firm j hj]
      rcases Nat.lt_or_gt_of_ne e with h1 | h1
      · left; omega
      · right; omega
theorem frameCells (w : World) (g o : Nat) (vs : List Value) (hF : F g) : Frame F w (w.setCells g o vs) := by
  have hg : ∀ (vs : List Value) (o : Nat) (w : World) (j : Nat), j ≠ g → (w.setCells g o vs).heap[j]? = w.heap[j]? := by
    intro vs
    induction vs with
    | nil => intro o w j _; rfl
    | cons v r ih => intro o w j hj; rw [World.setCells, ih (o + 1) _ j hj]; exact Below.heap_setCell w ⟨g, o, none⟩ v j hj
  have hr : ∀ (vs : List Value) (o : Nat) (w : World), (w.setCells g o vs).os = w.os ∧ (w.setCells g o vs).tape = w.tape ∧ (w.setCells g o vs).output = w.output ∧ (w.setCells g o vs).heap.size = w.heap.size := by
    intro vs
    induction vs with
    | nil => intro o w; exact ⟨rfl, rfl, rfl, rfl⟩
    | cons v r ih =>
      intro o w
      rw [World.setCells]
      obtain ⟨h1, h2, h3, h4⟩ := ih (o + 1) (w.setCell ⟨g, o, none⟩ v)
      exact ⟨h1, h2, h3, by rw [h4]; simp [World.setCell]⟩
  obtain ⟨h1, h2, h3, h4⟩ := hr vs o w
  exact ⟨h1, h2, h3, Nat.le_of_eq h4.symm, fun j _ hj => hg vs o w j (fun e => hj (e ▸ hF))⟩
/-- the map, turned -/
theorem DskL.map_set (h : DskL w b F S g c m nn D) {nn' : Nat} {D' : DU} {L : Nat → Option (List UInt8)} {k : Nat} (hg : w.grownBy w' (some m)) (hm : w'.ownsMap Tryd.prog 3 elemR m nn' D') (hL : LooseD D' L) (hn : nn' ≤ k) (hk : k = S.ops) (hok : ∀ i l, L i = some l → i < S.n ∧ l.length = 64) :
    DskL w' b F { S with loose := L } g c m nn' D' := by
  have hb : ∀ j, F j → j ≠ m → w'.heap[j]? = w.heap[j]? := fun j hj hne => hg.block j (h.lt j hj) (fun e => hne (Option.some.inj e))
  subst hk
  exact { h with ok := ⟨h.ok.n1, h.ok.n2, h.ok.firm, hok⟩, head := (hb b h.Fb h.nbm).trans h.head, lt := fun j hj => Nat.lt_of_lt_of_le (h.lt j hj) hg.size, rows := fun i hi => rangeAt_keep (h.rows i hi) (hb g h.Fg h.ngm), room := there_keep h.room (hb g h.Fg h.ngm), map := hm, few := hn, loose := hL }
theorem frameGrown (hg : w.grownBy w' (some m)) (hF : F m) : Frame F w w' := ⟨hg.os, hg.tape, hg.output, hg.size, fun j hj hn => hg.block j hj (fun e => hn (by rw [Option.some.inj e]; exact hF))⟩
end
end Go.Proofs.YtgnfajmjhlnobaaDoor
