/-
  The walk of BlockKnown. Conditions: the table of crc lies as the program's text lays it.
-/
import Derived.Test.YtmbloclkinghnaaDoorBkAwake
namespace Go.Proofs.YtmbloclkinghnaaDoor
open Go.RowKit Fix

def mk0 (n : Nat) : Obj := .cells (List.replicate n (Value.int .u8 0)).toArray 5
theorem mkB (w : World) (n : Nat) : BytesAt (w.alloc (mk0 n)) (w.alloc (mk0 n)).heap.size (some ⟨w.heap.size, 0, none⟩) (List.replicate n 0) ∧ Below w.heap.size w (w.alloc (mk0 n)) := by
  have h := heap_alloc_new w (.cells (cellsOfBytes (List.replicate n 0)).toArray 5)
  have e : cellsOfBytes (List.replicate n 0) = List.replicate n (Value.int .u8 0) := by simp [cellsOfBytes]
  rw [e] at h
  have hb : BlkB (w.alloc (mk0 n)) w.heap.size (List.replicate n 0) := by unfold BlkB; rw [e]; exact h
  exact ⟨hb.at_, (Below.refl _ _).alloc (Nat.le_refl _) _⟩
/-- what is told of a block, a number and bytes that may not be -/
theorem bkBytes_no (a n : Int) (A : Option Addr) (r : List UInt8) (m c : Nat) (hm : r.length = m) (x : Int) (hx : Blk.bytesE a n r = x) (h0 : x ≠ 0) (w : World) (ht : TabAt w) (hr : BytesAt w w.heap.size A r) : Calls Tryd.prog 10 #[.int .i64 a, .int .i64 n, .slice A m c] w fun e w' =>
    ∃ A' c', e = .returned (.tuple #[.slice A' 0 c', .int .i64 x]) ∧ Below w.heap.size w w' := by
  have e2 := Blk.bytesB_bad a n r (by rw [hx]; exact h0)
  refine (blockBytes_any a n A r m c hm w ht hr).mono fun e w' ⟨A', c', he, _, _, hB⟩ => ⟨A', c', ?_, hB⟩
  rw [hx, e2] at he
  exact he
set_option maxRecDepth 100000 in
theorem known_any (w : World) (ht : TabAt w) : Calls Tryd.prog 8 #[] w fun e w' => e = .returned (.bool true) ∧ Below w.heap.size w w' := by
  have mk64 : ∀ W : World, (Instr.makeSlice 22 (.int .i64 64) (.int .i64 64)).run Tryd.prog W = .ok (.slice (some ⟨W.heap.size, 0, none⟩) 64 64) (W.alloc (mk0 64)) := make_bytes 64 (by decide)
  have zo : ∀ w : World, Calls Tryd.prog 20 #[.int .i64 32] w (OnesPost 32 w) := fun w => ones_any 32 (by decide) w
  have zo' : ∀ w : World, Calls Tryd.prog 20 #[.int .i64 31] w (OnesPost 31 w) := fun w => ones_any 31 (by decide) w
  unfold OnesPost at zo zo'
  have z1 := fun A w t h => bkRead_no 0 A (List.replicate 64 0) 64 64 (by decide) (Nat.le_refl _) 11 (Blk.readE_bad (by decide) (Blk.right_nots 0)) (Blk.right_nots 0) w t h
  have z2 := fun w t => bkRead_no 0 none [] 0 0 rfl (Nat.le_refl _) 4 (Blk.readE_len (by decide)) (Blk.right_len (by decide)) w t bytes_nil
  have z3 := fun A w t h => bkBytes_no 64 1 A (List.replicate 32 1) 32 32 (by decide) 5 (by decide) (by decide) w t h
  have z4 := fun A w t h => bkBytes_no 0 0 A (List.replicate 32 1) 32 32 (by decide) 5 (by decide) (by decide) w t h
  have z5 := fun A w t h => bkBytes_no 0 1 A (List.replicate 31 1) 31 31 (by decide) 2 (by decide) (by decide) w t h
  obtain ⟨r0, L0⟩ := mkB w 64
  have t0 := ht.below L0 (Nat.le_refl _)
  go_enter Tryd.func8, Tryd.ntmps8
  go_wp2_with (first
    | (go_at_call 12; first
      | ((with_reducible refine (z1 _ _ t0 r0).mono ?_); (rintro e w1 ⟨A1, c1, rfl, B1⟩; have C1 := step_trans L0 B1; have t1 := ht.below C1 (Nat.le_refl _)))
      | ((with_reducible refine (z2 w1 t1).mono ?_); (rintro e w2 ⟨A2, c2, rfl, B2⟩; have C2 := step_trans C1 B2)))
    | (go_at_call 20; first
      | ((with_reducible refine (zo' w6).mono ?_); (rintro e w7 ⟨g7, rfl, o7, B7⟩; have C7 := step_trans C6 B7; have t7 := ht.below C7 (Nat.le_refl _)))
      | ((with_reducible refine (zo w4).mono ?_); (rintro e w5 ⟨g5, rfl, o5, B5⟩; have C5 := step_trans C4 B5; have t5 := ht.below C5 (Nat.le_refl _)))
      | ((with_reducible refine (zo w2).mono ?_); (rintro e w3 ⟨g3, rfl, o3, B3⟩; have C3 := step_trans C2 B3; have t3 := ht.below C3 (Nat.le_refl _))))
    | (go_at_call 10; first
      | ((with_reducible refine (z3 _ w3 t3 o3).mono ?_); (rintro e w4 ⟨A4, c4, rfl, B4⟩; have C4 := step_trans C3 B4))
      | ((with_reducible refine (z4 _ w5 t5 o5).mono ?_); (rintro e w6 ⟨A6, c6, rfl, B6⟩; have C6 := step_trans C5 B6))
      | ((with_reducible refine (z5 _ w7 t7 o7).mono ?_); (rintro e w8 ⟨A8, c8, rfl, B8⟩; have C8 := step_trans C7 B8; have t8 := ht.below C8 (Nat.le_refl _))))
    | (go_at_call 17; refine (awake_any w8 t8).mono ?_; (rintro e w9 ⟨rfl, B9⟩; have C9 := step_trans C8 B9)))
  go_ret
  exact ⟨rfl, C9⟩
end Go.Proofs.YtmbloclkinghnaaDoor
