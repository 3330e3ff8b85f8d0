/-
  What the statements on disks share: a sector of one byte, what is read, the examples. Conditions: a disk's methods do what the document says (Disks).
-/
import Derived.Test.YtcahpodmcklnbaaGreatDoorDa
import Derived.Laws.CopyOwn
namespace Go.Proofs.YtcahpodmcklnbaaGreatDoor
open Go.RowKit

def sec (x : UInt8) : List UInt8 := List.replicate 64 x
theorem sec_length (x : UInt8) : (sec x).length = 64 := by simp [sec]
def secAt (x : UInt8) (j : Nat) : List UInt8 := List.replicate j x ++ List.replicate (64 - j) 0
theorem secAt_length (x : UInt8) (j : Nat) (h : j ≤ 64) : (secAt x j).length = 64 := by simp [secAt]; omega
theorem secAt_set (x : UInt8) (j : Nat) (h : j < 64) : (secAt x j).set j x = secAt x (j + 1) := by
  unfold secAt
  rw [show 64 - j = (64 - (j + 1)) + 1 by omega, List.replicate_succ, List.set_append_right _ _ (by simp), List.length_replicate, Nat.sub_self, List.set_cons_zero, List.replicate_succ']
  simp
def OfPost (x : UInt8) (w : World) (e : Ending) (w' : World) : Prop :=
  ∃ g, e = .returned (.slice (some ⟨g, 0, none⟩) 64 64) ∧ w.heap.size ≤ g ∧ BlkB w' g (sec x) ∧ Below w.heap.size w w'
/-- a change of a disk, in a chain of steps -/
theorem chg_go {F F' : Nat → Prop} {w0 w w' : World} (c : Below w0.heap.size w0 w) (hF : ∀ k, F k → w0.heap.size ≤ k) (h : ∀ k, F' k → F k ∨ w.heap.size ≤ k) (hFr : Frame F w w') : Below w0.heap.size w0 w' ∧ ∀ k, F' k → w0.heap.size ≤ k :=
  ⟨c.trans (hFr.below hF c.size), fun k hk => (h k hk).elim (hF k) (fun h => Nat.le_trans c.size h)⟩
/-- the first bytes of a block, with the room behind them -/
theorem BlkB.own_cut {w : World} {g base : Nat} {l : List UInt8} (h : BlkB w g l) (hg : base ≤ g) (k n : Nat) (hk : k ≤ l.length) (hn : l.length = n) (hm : n ≤ 100000000) : OwnB w base (.slice (some ⟨g, 0, none⟩) k n) (l.take k) := by
  subst hn
  have hl : (l.take k).length = k := by rw [List.length_take]; omega
  refine ⟨by rw [cellsOfBytes_length, Nat.mul_one], .inr ⟨g, l.length, (cellsOfBytes l).toArray, by rw [hl], hg, h, by rw [hl]; exact hk, by unfold maxLen; omega, by rw [List.size_toArray, cellsOfBytes_length, Nat.mul_one], ?_⟩⟩
  rw [List.toList_toArray, Nat.mul_one, hl, cellsOfBytes, cellsOfBytes, List.map_take]
theorem keep_cell {B : Nat} {w w1 w2 : World} {a : Addr} {v : Value} (c1 : Below B w w1) (c2 : Below B w w2) (x : w1.cell? a = some v) (h : a.block < B) : w2.cell? a = some v := (c2.cell h).trans ((c1.cell h).symm.trans x)
theorem BlkR.frame {E : TypeId} {w w' : World} {g : Nat} {xs : List Value} {F : Nat → Prop} (h : BlkR E w g xs) (hFr : Frame F w w') (hg : ¬ F g) : BlkR E w' g xs := (hFr.block g h.lt hg).trans h
theorem BlkR.step {E : TypeId} {w w' : World} {g : Nat} {xs : List Value} (h : BlkR E w g xs) (hb : Below w.heap.size w w') : BlkR E w' g xs := h.below hb h.lt
theorem BlkR.other {E : TypeId} {w : World} {g : Nat} {xs : List Value} (h : BlkR E w g xs) (a : Addr) (v : Value) (hg : g ≠ a.block) : BlkR E (w.setCell a v) g xs := (Below.heap_setCell w a v g hg).trans h
theorem bytesR {E : TypeId} {w : World} {g k : Nat} {l : List UInt8} (h : BlkR E w g (cellsOfBytes l)) (hk : k < l.length) : w.cell? ⟨g, k, none⟩ = some (.int .u8 ((l.getD k 0).toNat : Int)) := h.cell (cellsOfBytes_get l k hk)
theorem bytesR_set {E : TypeId} {w : World} {g : Nat} {l : List UInt8} (h : BlkR E w g (cellsOfBytes l)) (k : Nat) (x : UInt8) : BlkR E (w.setCell ⟨g, k, none⟩ (.int .u8 (x.toNat : Int))) g (cellsOfBytes (l.set k x)) := by
  have e : cellsOfBytes (l.set k x) = (cellsOfBytes l).set k (.int .u8 (x.toNat : Int)) := by simp [cellsOfBytes, List.map_set]
  rw [e]
  exact h.set_ k _
/-- eight bytes, laid over eight others -/
theorem bytesR_eight {E : TypeId} {w : World} {g : Nat} {l m : List UInt8} (h : BlkR E w g (cellsOfBytes l)) (hl : l.length = 8) (hm : m.length = 8) :
    BlkR E ((((((((w.setCell ⟨g, 0, none⟩ (.int .u8 ((m.getD 0 0).toNat : Int))).setCell ⟨g, 1, none⟩ (.int .u8 ((m.getD 1 0).toNat : Int))).setCell ⟨g, 2, none⟩ (.int .u8 ((m.getD 2 0).toNat : Int))).setCell ⟨g, 3, none⟩ (.int .u8 ((m.getD 3 0).toNat : Int))).setCell ⟨g, 4, none⟩ (.int .u8 ((m.getD 4 0).toNat : Int))).setCell ⟨g, 5, none⟩ (.int .u8 ((m.getD 5 0).toNat : Int))).setCell ⟨g, 6, none⟩ (.int .u8 ((m.getD 6 0).toNat : Int))).setCell ⟨g, 7, none⟩ (.int .u8 ((m.getD 7 0).toNat : Int))) g (cellsOfBytes m) := by
  have e : m = (((((((l.set 0 (m.getD 0 0)).set 1 (m.getD 1 0)).set 2 (m.getD 2 0)).set 3 (m.getD 3 0)).set 4 (m.getD 4 0)).set 5 (m.getD 5 0)).set 6 (m.getD 6 0)).set 7 (m.getD 7 0) := by
    match l, m, hl, hm with
    | [_, _, _, _, _, _, _, _], [_, _, _, _, _, _, _, _], _, _ => rfl
  have h8 := bytesR_set (bytesR_set (bytesR_set (bytesR_set (bytesR_set (bytesR_set (bytesR_set (bytesR_set h 0 (m.getD 0 0)) 1 (m.getD 1 0)) 2 (m.getD 2 0)) 3 (m.getD 3 0)) 4 (m.getD 4 0)) 5 (m.getD 5 0)) 6 (m.getD 6 0)) 7 (m.getD 7 0)
  rwa [← e] at h8
/-- eight stores in a row -/
def set8 (w : World) (g : Nat) (v : Nat → Value) : World :=
  (((((((w.setCell ⟨g, 0, none⟩ (v 0)).setCell ⟨g, 1, none⟩ (v 1)).setCell ⟨g, 2, none⟩ (v 2)).setCell ⟨g, 3, none⟩ (v 3)).setCell ⟨g, 4, none⟩ (v 4)).setCell ⟨g, 5, none⟩ (v 5)).setCell ⟨g, 6, none⟩ (v 6)).setCell ⟨g, 7, none⟩ (v 7)
theorem set8_block (w : World) (g : Nat) (v : Nat → Value) (k : Nat) (h : k ≠ g) : (set8 w g v).heap[k]? = w.heap[k]? := by
  unfold set8
  have e : ∀ (W : World) (j : Nat) (u : Value), (W.setCell ⟨g, j, none⟩ u).heap[k]? = W.heap[k]? := fun W j u => Below.heap_setCell W ⟨g, j, none⟩ u k h
  rw [e, e, e, e, e, e, e, e]
theorem set8_size (w : World) (g : Nat) (v : Nat → Value) : (set8 w g v).heap.size = w.heap.size := by
  unfold set8
  simp [World.setCell]
theorem BlkR.set8_other {E : TypeId} {w : World} {g g' : Nat} {xs : List Value} (h : BlkR E w g' xs) (v : Nat → Value) (hne : g' ≠ g) : BlkR E (set8 w g v) g' xs := (set8_block w g v g' hne).trans h
theorem Below.set8 {B : Nat} {a w : World} {g : Nat} (h : Below B a w) (hg : B ≤ g) (v : Nat → Value) : Below B a (set8 w g v) :=
  (((((((h.setCell (p := ⟨g, 0, none⟩) hg _).setCell (p := ⟨g, 1, none⟩) hg _).setCell (p := ⟨g, 2, none⟩) hg _).setCell (p := ⟨g, 3, none⟩) hg _).setCell (p := ⟨g, 4, none⟩) hg _).setCell (p := ⟨g, 5, none⟩) hg _).setCell (p := ⟨g, 6, none⟩) hg _).setCell (p := ⟨g, 7, none⟩) hg _
theorem bytesR_set8 {E : TypeId} {w : World} {g : Nat} {l m : List UInt8} (h : BlkR E w g (cellsOfBytes l)) (hl : l.length = 8) (hm : m.length = 8) : BlkR E (set8 w g fun j => .int .u8 ((m.getD j 0).toNat : Int)) g (cellsOfBytes m) := bytesR_eight h hl hm
set_option maxRecDepth 100000 in
/-- copy of a whole block over another one of the same length -/
theorem wpList_copy_blk {w : World} {ops : Array Oper} {rest : List Oper} {o : Oper} {a : Act} {Q : Exit → Act → World → Prop} (hgd : o.guard = none) (d s : Operand)
    (ho : o.op = .call { callee := .builtin .copy, args := #[d, s], argTypes := #[32, 32] }) (g g' n c c' : Nat) (hd : a.eval d = .slice (some ⟨g, 0, none⟩) n c) (hs : a.eval s = .slice (some ⟨g', 0, none⟩) n c')
    (l m : List UInt8) (hl : l.length = n) (hm : m.length = n) (hg : BlkB w g l) (hg' : BlkB w g' m)
    (h : ∀ w', BlkB w' g m → Frame (fun k => k = g) w w' → wpList Tryz.prog ops Q rest (a.put o.dst (goInt n)) w') : wpList Tryz.prog ops Q (o :: rest) a w := by
  have hlc : (cellsOfBytes m).length = n := by rw [cellsOfBytes_length, hm]
  refine wpList_copy_own hgd d s 32 32 ho 5 Tryz.underlying32 (by kernel_rfl) g 0 n c ⟨g', 0, none⟩ n c' hd hs (cellsOfBytes l).toArray 5 hg (cellsOfBytes m) (by rw [hlc]; exact (Nat.min_self _).symm)
    (fun j v hv => ?_) (by rw [hlc, List.size_toArray, cellsOfBytes_length, hl]; omega) (oneCell_bytes m) ?_
  · have hj : j < m.length := by
      have := (List.getElem?_eq_some_iff.1 hv).1
      rwa [cellsOfBytes_length] at this
    rw [cellsOfBytes_get m j hj] at hv
    rw [← Option.some.inj hv, addr_zero_add]
    exact hg'.cell j hj
  · rw [hlc]
    have e : ((cellsOfBytes l).toArray.toList.take 0 ++ (cellsOfBytes m ++ (cellsOfBytes l).toArray.toList.drop (0 + n))).toArray = (cellsOfBytes m).toArray := by
      rw [List.toList_toArray, List.take_zero, List.nil_append, List.drop_eq_nil_of_le (by rw [cellsOfBytes_length, hl]; omega), List.append_nil]
    rw [e]
    exact h _ (setRow_heap w g _ _ 5 _ hg) ⟨rfl, rfl, rfl, by simp [World.setRow], fun k _ hk => setRow_other w g k _ hk⟩
theorem blkB_other {w : World} {g : Nat} {l : List UInt8} (h : BlkB w g l) (a : Addr) (v : Value) (hg : g ≠ a.block) : BlkB (w.setCell a v) g l := (Below.heap_setCell w a v g hg).trans h
theorem blkB_zeros (W : World) (m : Nat) : BlkB (W.alloc (.cells (Array.replicate m (Value.int .u8 0)) 5)) W.heap.size (List.replicate m 0) := by
  have e : (cellsOfBytes (List.replicate m 0)).toArray = Array.replicate m (Value.int .u8 0) := by simp [cellsOfBytes]
  unfold BlkB
  rw [e]
  exact heap_alloc_new W _
theorem twoCells {w : World} {base c : Nat} {A : Option Addr} {l : List UInt8} {x y : UInt8} (h : RdB w base A c l) (hl : l.length = 64) (h5 : l.getD 5 0 = x) (h4 : l.getD 4 0 = y) :
    ∃ g, A = some ⟨g, 0, none⟩ ∧ w.cell? ⟨g, 5, none⟩ = some (.int .u8 (x.toNat : Int)) ∧ w.cell? ⟨g, 4, none⟩ = some (.int .u8 (y.toNat : Int)) := by
  obtain ⟨g, e, hc⟩ := h.cells (by omega)
  exact ⟨g, e, by rw [hc 5 (by omega), h5], by rw [hc 4 (by omega), h4]⟩
section
variable {At : World → Nat → (Nat → Prop) → DS → Prop} (D : Disks Tryz.prog At)
include D
theorem At_step {w w' : World} {b : Nat} {F : Nat → Prop} {S : DS} (h : At w b F S) (hb : Below w.heap.size w w') : At w' b F S :=
  D.keep w w' b F S h hb.size fun k hk => hb.block k (D.lt w b F S h k hk)
theorem At_alloc {w : World} {b : Nat} {F : Nat → Prop} {S : DS} (h : At w b F S) (o : Obj) : At (w.alloc o) b F S := At_step D h ((Below.refl _ _).alloc (Nat.le_refl _) o)
theorem At_set {w : World} {b : Nat} {F : Nat → Prop} {S : DS} (h : At w b F S) (a : Addr) (v : Value) (hF : ¬ F a.block) : At (w.setCell a v) b F S :=
  D.keep w _ b F S h (by simp [World.setCell]) fun k hk => Below.heap_setCell w a v k (fun e => hF (e ▸ hk))
theorem At_set8 {w : World} {b g : Nat} {F : Nat → Prop} {S : DS} (h : At w b F S) (v : Nat → Value) (hF : ¬ F g) : At (set8 w g v) b F S :=
  D.keep w _ b F S h (Nat.le_of_eq (set8_size w g v).symm) fun k hk => set8_block w g v k (fun e => hF (e ▸ hk))
theorem At_frame {w w' : World} {b : Nat} {F G : Nat → Prop} {S : DS} (h : At w b F S) (hFr : Frame G w w') (hG : ∀ k, F k → ¬ G k) : At w' b F S :=
  D.keep w w' b F S h hFr.size fun k hk => hFr.block k (D.lt w b F S h k hk) (hG k hk)
/-- two new blocks of noughts, beside a disk -/
theorem two_makes {w w2 : World} {b : Nat} {F : Nat → Prop} {S : DS} (m : Nat) (h : At w2 b F S) (hF : ∀ k, F k → w.heap.size ≤ k) (c : Below w.heap.size w w2) :
    BlkB ((w2.alloc (.cells (Array.replicate m (Value.int .u8 0)) 5)).alloc (.cells (Array.replicate m (Value.int .u8 0)) 5)).drew w2.heap.size (List.replicate m 0) ∧
    BlkB ((w2.alloc (.cells (Array.replicate m (Value.int .u8 0)) 5)).alloc (.cells (Array.replicate m (Value.int .u8 0)) 5)).drew (w2.heap.size + 1) (List.replicate m 0) ∧
    At ((w2.alloc (.cells (Array.replicate m (Value.int .u8 0)) 5)).alloc (.cells (Array.replicate m (Value.int .u8 0)) 5)).drew b F S ∧
    (∀ k, F k → w.heap.size ≤ k ∧ k ≠ w2.heap.size ∧ k ≠ w2.heap.size + 1) ∧
    Below w.heap.size w ((w2.alloc (.cells (Array.replicate m (Value.int .u8 0)) 5)).alloc (.cells (Array.replicate m (Value.int .u8 0)) 5)).drew := by
  have h1 : BlkB ((w2.alloc (.cells (Array.replicate m (Value.int .u8 0)) 5)).alloc (.cells (Array.replicate m (Value.int .u8 0)) 5)) w2.heap.size (List.replicate m 0) := (blkB_zeros w2 m).step ((Below.refl _ _).alloc (Nat.le_refl _) _)
  have h2 := blkB_zeros (w2.alloc (.cells (Array.replicate m (Value.int .u8 0)) 5)) m
  rw [show (w2.alloc (.cells (Array.replicate m (Value.int .u8 0)) 5)).heap.size = w2.heap.size + 1 by simp] at h2
  have h3 := At_alloc D (At_alloc D h (.cells (Array.replicate m (Value.int .u8 0)) 5)) (.cells (Array.replicate m (Value.int .u8 0)) 5)
  refine ⟨h1, h2, At_step D h3 (Below.refl _ _).drew, fun k hk => ⟨hF k hk, ?_, ?_⟩, (step_alloc (step_alloc c _) _).drew⟩
  · have := D.lt w2 b F S h k hk; omega
  · have := D.lt w2 b F S h k hk; omega
end
end Go.Proofs.YtcahpodmcklnbaaGreatDoor
