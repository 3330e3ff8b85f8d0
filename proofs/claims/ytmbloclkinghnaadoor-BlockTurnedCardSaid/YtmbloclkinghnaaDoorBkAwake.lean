/-
  What the statements on blocks share: bytes 1, the examples. Conditions: the table of crc lies as the program's text lays it.
-/
import Derived.Test.YtmbloclkinghnaaDoorBkRead
namespace Go.Proofs.YtmbloclkinghnaaDoor
open Go.RowKit Fix

def onesAt (m j : Nat) : List UInt8 := List.replicate j 1 ++ List.replicate (m - j) 0
theorem onesAt_length (m j : Nat) (h : j ≤ m) : (onesAt m j).length = m := by simp [onesAt]; omega
theorem onesAt_set (m j : Nat) (h : j < m) : (onesAt m j).set j 1 = onesAt m (j + 1) := by
  unfold onesAt
  rw [show m - j = (m - (j + 1)) + 1 by omega, List.replicate_succ, List.set_append_right _ _ (by simp), List.length_replicate, Nat.sub_self, List.set_cons_zero, List.replicate_succ']
  simp
def OnesPost (m : Nat) (w : World) (e : Ending) (w' : World) : Prop :=
  ∃ g, e = .returned (.slice (some ⟨g, 0, none⟩) m m) ∧ BytesAt w' w'.heap.size (some ⟨g, 0, none⟩) (List.replicate m 1) ∧ Below w.heap.size w w'
theorem ones_any (m : Nat) (hm : m ≤ 1000) (w : World) : Calls Tryd.prog 20 #[.int .i64 (m : Int)] w (OnesPost m w) := by
  have hmk := make_bytes m (by omega)
  have h0 : ∀ W : World, BlkB (W.alloc (.cells (List.replicate m (Value.int .u8 0)).toArray 5)) W.heap.size (onesAt m 0) := fun W => by
    have e : onesAt m 0 = List.replicate m 0 := by simp [onesAt]
    have := heap_alloc_new W (.cells (cellsOfBytes (List.replicate m 0)).toArray 5)
    rw [show cellsOfBytes (List.replicate m 0) = List.replicate m (Value.int .u8 0) by simp [cellsOfBytes]] at this
    unfold BlkB
    rw [e, show cellsOfBytes (List.replicate m 0) = List.replicate m (Value.int .u8 0) by simp [cellsOfBytes]]
    exact this
  replace h0 := Lib.hid h0
  go_enter Tryd.func20, Tryd.ntmps20
  go_wp2
  clear hmk
  go_loopw [4] (fun i wr => ∃ j : Nat, j ≤ m ∧ i = .int .i64 (j : Int) ∧ BlkB wr w.heap.size (onesAt m j) ∧ Below w.heap.size w wr) (fun i _ => m - (intOf i).toNat)
  case atStart => exact ⟨0, by omega, rfl, h0.out w, (Below.refl _ _).alloc (Nat.le_refl _) _⟩
  case round =>
    obtain ⟨j, hj, rfl, hblk, hbel⟩ := hrel
    by_cases hj8 : j < m
    · have hcell := hblk.cell j (by rw [onesAt_length m j hj]; exact hj8)
      have hfr := hblk.frozen j
      have HB := Lib.hid hblk
      clear hblk
      go_wp2
      go_roundw
      case rel =>
        refine ⟨j + 1, by omega, by go_num, ?_, hbel.setCell (Nat.le_refl _) _⟩
        rw [← onesAt_set m j hj8]
        exact HB.out.set_ j 1
      case measure => simp [intOf]; omega
    · obtain rfl : j = m := by omega
      rw [show onesAt j j = List.replicate j 1 by simp [onesAt]] at hblk
      go_wp2
      go_ret
      exact ⟨w.heap.size, rfl, hblk.at_, hbel⟩
/-- what is told of a block, a number and bytes that may be -/
theorem bkBytes_yes (a n : Nat) (A : Option Addr) (r : List UInt8) (m c : Nat) (hm : r.length = m) (hz : Blk.bytesE (a : Int) (n : Int) r = 0) (w : World) (ht : TabAt w) (hr : BytesAt w w.heap.size A r) : Calls Tryd.prog 10 #[.int .i64 (a : Int), .int .i64 (n : Int), .slice A m c] w fun e w' =>
    ∃ A' c', e = .returned (.tuple #[.slice A' 64 c', .int .i64 0]) ∧ 64 ≤ c' ∧ c' ≤ 9223372036854775807 ∧ Whole w' w.heap.size A' c' (Blk.sect a n r) ∧ Below w.heap.size w w' := by
  have e2 := Blk.bytesB_good a n r hz
  have e3 := Blk.sect_length a n r ((Blk.bytesE_zero _ _ _).1 hz).2.2.2.2
  refine (blockBytes_any (a : Int) (n : Int) A r m c hm w ht hr).mono fun e w' ⟨A', c', he, hc, hW, hB⟩ => ?_
  rw [hz, e2, e3] at he
  rw [e2] at hW
  have := hW.cap
  rw [e3] at this
  exact ⟨A', c', he, this, hc, hW, hB⟩
/-- and of a sector that is right -/
theorem bkRead_yes (A : Option Addr) (a n : Nat) (r : List UInt8) (c : Nat) (hc : 64 ≤ c) (hz : Blk.bytesE (a : Int) (n : Int) r = 0) (w : World) (ht : TabAt w) (hr : BytesAt w w.heap.size A (Blk.sect a n r)) : Calls Tryd.prog 12 #[.slice A 64 c, .int .i64 (a : Int)] w fun e w' =>
    ∃ A' c', e = .returned (.tuple #[.int .i64 (n : Int), .slice A' 32 c', .int .i64 0]) ∧ BytesAt w' w'.heap.size A' r ∧ Below w.heap.size w w' := by
  obtain ⟨e1, e2, e3⟩ := Blk.read_sect a n r hz
  have e4 := ((Blk.bytesE_zero _ _ _).1 hz).2.2.2.2
  refine (blockRead_any (a : Int) A (Blk.sect a n r) 64 c (Blk.sect_length a n r e4) hc w ht hr).mono fun e w' ⟨A', c', he, _, hW, hB⟩ => ?_
  rw [e1, e2, e3, e4] at he
  rw [e2] at hW
  exact ⟨A', c', he, hW.bytes, hB⟩
/-- of a sector that is not right -/
theorem bkRead_no (a : Int) (A : Option Addr) (l : List UInt8) (n c : Nat) (hn : l.length = n) (hc : n ≤ c) (x : Int) (hx : Blk.readE a l = x) (h0 : Blk.right a l = false) (w : World) (ht : TabAt w) (hr : BytesAt w w.heap.size A l) : Calls Tryd.prog 12 #[.slice A n c, .int .i64 a] w fun e w' =>
    ∃ A' c', e = .returned (.tuple #[.int .i64 0, .slice A' 0 c', .int .i64 x]) ∧ Below w.heap.size w w' := by
  refine (blockRead_any a A l n c hn hc w ht hr).mono fun e w' ⟨A', c', he, _, hW, hB⟩ => ⟨A', c', ?_, hB⟩
  rw [hx] at he
  simpa [Blk.readN, Blk.readB, h0] using he
def ones32 : List UInt8 := List.replicate 32 1
theorem ones32_ok : Blk.bytesE ((5 : Nat) : Int) ((7 : Nat) : Int) ones32 = 0 := by decide
set_option maxRecDepth 100000 in
theorem awake_any (w : World) (ht : TabAt w) : Calls Tryd.prog 17 #[] w fun e w' => e = .returned (.bool true) ∧ Below w.heap.size w w' := by
  have zo : ∀ w : World, Calls Tryd.prog 20 #[.int .i64 32] w (OnesPost 32 w) := fun w => ones_any 32 (by decide) w
  unfold OnesPost at zo
  rw [show List.replicate 32 (1 : UInt8) = ones32 from rfl] at zo
  have zb := fun A w t h => bkBytes_yes 5 7 A ones32 32 32 (by decide) ones32_ok w t h
  have zr := fun A c hc w t h => bkRead_yes A 5 7 ones32 c hc ones32_ok w t h
  have hsl := Blk.sect_length 5 7 ones32 (by decide)
  have h6 : Blk.right 6 (Blk.sect 5 7 ones32) = false := by
    rw [← Bool.not_eq_true, Blk.right_other 6 5 7 ones32 ones32_ok]
    decide
  have zn := fun A c hc w t h => bkRead_no 6 A (Blk.sect 5 7 ones32) 64 c hsl hc 11 (Blk.readE_bad hsl h6) h6 w t h
  rw [show ((5 : Nat) : Int) = 5 from rfl] at zb zr
  rw [show ((7 : Nat) : Int) = 7 from rfl] at zb zr
  have zs := fun A1 c1 A2 c2 w1 h h' => same_yes A1 ones32 32 c1 (by decide) A2 ones32 32 c2 (by decide) w1 h h' rfl
  obtain ⟨s, hs⟩ : ∃ x, x = Blk.sect 5 7 ones32 := ⟨_, rfl⟩
  rw [← hs] at zb zr zn
  obtain ⟨o, ho⟩ : ∃ x, x = ones32 := ⟨_, rfl⟩
  rw [← ho] at zo zb zr zs
  clear hsl h6 hs ho
  go_enter Tryd.func17, Tryd.ntmps17
  go_wp2_with (first
    | (go_at_call 20; first
      | ((with_reducible refine (zo w5).mono ?_); (rintro e w6 ⟨g6, rfl, o6, B6⟩; have r6 := r5.step B6; have C6 := step_trans C5 B6))
      | ((with_reducible refine (zo w).mono ?_); (rintro e w1 ⟨g1, rfl, o1, B1⟩; have t1 := ht.below B1 (Nat.le_refl _))))
    | (go_at_call 10; (with_reducible refine (zb _ w1 t1 o1).mono ?_); (rintro e w2 ⟨A2, c2, rfl, hc2, _, o2, B2⟩; have r2 := o2.bytes; have C2 := step_trans B1 B2; have t2 := ht.below C2 (Nat.le_refl _)))
    | (go_at_call 12; first
      | ((with_reducible refine (zn A2 c2 hc2 w3 t3 r3).mono ?_); (rintro e w5 ⟨A5, c5, rfl, B5⟩; have r5 := o3.step B5; have C5 := step_trans C3 B5))
      | ((with_reducible refine (zr A2 c2 hc2 w2 t2 r2).mono ?_); (rintro e w3 ⟨A3, c3, rfl, o3, B3⟩; have r3 := r2.step B3; have C3 := step_trans C2 B3; have t3 := ht.below C3 (Nat.le_refl _))))
    | (go_at_call 14; (with_reducible refine (zs A3 c3 _ _ w6 r6 o6).mono ?_); (rintro e w7 ⟨rfl, rfl⟩)))
  go_ret
  exact ⟨rfl, C6⟩
end Go.Proofs.YtmbloclkinghnaaDoor
