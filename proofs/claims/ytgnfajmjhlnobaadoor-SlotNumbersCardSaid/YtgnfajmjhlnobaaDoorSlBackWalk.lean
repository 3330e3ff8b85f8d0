/-
  The walk of SlotBack. Conditions: the table of crc lies as the program's text lays it; the bytes can be read.
-/
import Derived.Test.YtgnfajmjhlnobaaDoorSlAwake
import Derived.Test.YtgnfajmjhlnobaaDoorSlMath
import Derived.Test.YtgnfajmjhlnobaaDoorDiskAny
namespace Go.Proofs.YtgnfajmjhlnobaaDoor
open Go.RowKit Fix

/-- what is told of a number and a record that may be -/
theorem bytes_yes (n : Nat) (A : Option Addr) (r : List UInt8) (m c : Nat) (hm : r.length = m) (h1 : 1 ≤ n) (h2 : n ≤ 1099511627776) (h : m ≤ 40) (w : World) (ht : TabAt w) (hr : BytesAt w w.heap.size A r) : Calls Tryd.prog 12 #[.int .i64 (n : Int), .slice A m c] w fun e w' =>
    ∃ A' c', e = .returned (.tuple #[.slice A' 64 c', .int .i64 0]) ∧ 64 ≤ c' ∧ BytesAt w' w'.heap.size A' (Slot.sect n r) ∧ Below w.heap.size w w' := by
  obtain ⟨e1, e2⟩ := Slot.bytes_good' n r (by omega) (by omega)
  refine (slotBytes_any (n : Int) A r m c hm w ht hr).mono fun e w' ⟨A', c', he, _, hW, hB⟩ => ?_
  rw [e1, e2, Slot.sect_length n r (by omega)] at he
  rw [e2] at hW
  have := hW.cap
  rw [Slot.sect_length n r (by omega)] at this
  exact ⟨A', c', he, this, hW.bytes, hB⟩
/-- and of a sector that is right -/
theorem read_yes (A : Option Addr) (n : Nat) (r : List UInt8) (c : Nat) (hc : 64 ≤ c) (h1 : 1 ≤ n) (h2 : n ≤ 1099511627776) (h : r.length ≤ 40) (w : World) (ht : TabAt w) (hr : BytesAt w w.heap.size A (Slot.sect n r)) : Calls Tryd.prog 14 #[.slice A 64 c] w fun e w' =>
    ∃ A' c', e = .returned (.tuple #[.int .i64 (n : Int), .slice A' r.length c', .int .i64 0]) ∧ BytesAt w' w'.heap.size A' r ∧ Below w.heap.size w w' := by
  obtain ⟨e1, e2, e3⟩ := Slot.sect_read n r h1 h2 h
  refine (slotRead_any A (Slot.sect n r) 64 c (Slot.sect_length n r h) hc w ht hr).mono fun e w' ⟨A', c', he, _, hW, hB⟩ => ?_
  rw [e1, e2, e3] at he
  rw [e2] at hW
  exact ⟨A', c', he, hW.bytes, hB⟩
/-- of a sector that is not right -/
theorem read_no (A : Option Addr) (l : List UInt8) (n c : Nat) (hn : l.length = n) (hc : n ≤ c) (x : Int) (hx : Slot.readE l = x) (h0 : x ≠ 0) (w : World) (ht : TabAt w) (hr : BytesAt w w.heap.size A l) : Calls Tryd.prog 14 #[.slice A n c] w fun e w' =>
    e = .returned (.tuple #[.int .i64 0, .slice none 0 0, .int .i64 x]) ∧ Below w.heap.size w w' ∨ ∃ A' c', e = .returned (.tuple #[.int .i64 0, .slice A' 0 c', .int .i64 x]) ∧ Below w.heap.size w w' := by
  have hr0 : Slot.right l = false := by rw [← Bool.not_eq_true]; intro h; rw [← Slot.readE_zero, hx] at h; exact h0 h
  refine (slotRead_any A l n c hn hc w ht hr).mono fun e w' ⟨A', c', he, _, hW, hB⟩ => .inr ⟨A', c', ?_, hB⟩
  rw [hx] at he
  simpa [Slot.readN, Slot.readB, hr0] using he
set_option maxRecDepth 100000 in
theorem back_long (n : Int) (A : Option Addr) (r : List UInt8) (c : Nat) (A' : Option Addr) (l : List UInt8) (c' : Nat) (w : World) (ht : TabAt w) (h : 100 < r.length ∨ 100 < l.length) :
    Calls Tryd.prog 7 #[.int .i64 n, .slice A r.length c, .slice A' l.length c'] w fun e w' => e = .returned (.bool true) ∧ Below w.heap.size w w' := by
  by_cases h1 : 100 < r.length
  · have i1 : (100 : Int) < (r.length : Int) := by omega
    clear h h1
    go_enter Tryd.func7, Tryd.ntmps7
    go_wp2_with (go_at_call 19; refine (awake_any disks w ht).mono ?_; (rintro e w1 ⟨rfl, B1⟩))
    go_ret
    exact ⟨rfl, B1⟩
  · have i1 : ¬ (100 : Int) < (r.length : Int) := by omega
    have i2 : (100 : Int) < (l.length : Int) := by omega
    clear h h1
    go_enter Tryd.func7, Tryd.ntmps7
    go_wp2_with (go_at_call 19; refine (awake_any disks w ht).mono ?_; (rintro e w1 ⟨rfl, B1⟩))
    go_ret
    exact ⟨rfl, B1⟩
/-- the first part: what a sector is made of is read -/
theorem back_short (n : Int) (A : Option Addr) (r : List UInt8) (c : Nat) (A' : Option Addr) (l : List UInt8) (c' : Nat) (hlc : l.length ≤ c') (w : World) (ht : TabAt w) (hr : BytesAt w w.heap.size A r) (hr' : BytesAt w w.heap.size A' l) (h1 : r.length ≤ 100) (h2 : l.length ≤ 100) :
    Calls Tryd.prog 7 #[.int .i64 n, .slice A r.length c, .slice A' l.length c'] w fun e w' => e = .returned (.bool true) ∧ Below w.heap.size w w' := by
  have i1 : ¬ (100 : Int) < (r.length : Int) := by omega
  have i2 : ¬ (100 : Int) < (l.length : Int) := by omega
  obtain ⟨m, hm⟩ : ∃ m, m = r.length := ⟨_, rfl⟩
  obtain ⟨q, hq⟩ : ∃ m, m = l.length := ⟨_, rfl⟩
  rw [← hm] at i1 ⊢
  rw [← hq] at i2 hlc ⊢
  have zl := fun w t h => slotRead_any A' l q c' hq.symm hlc w t h
  unfold RdPost at zl
  have HM := Lib.hid (And.intro hm hq)
  by_cases hy : Slot.readE l = 0
  · obtain ⟨k1, k2, k3, k4⟩ := Slot.read_sect l hy
    rw [hy] at zl
    obtain ⟨rn, hrn⟩ : ∃ x, x = Slot.readN l := ⟨_, rfl⟩
    obtain ⟨rb, hrb⟩ : ∃ x, x = Slot.readB l := ⟨_, rfl⟩
    rw [← hrn, ← hrb] at zl
    rw [← hrn] at k1 k2
    rw [← hrb] at k3
    rw [← hrn, ← hrb] at k4
    obtain ⟨bl, hbl⟩ : ∃ x, x = rb.length := ⟨_, rfl⟩
    rw [← hbl] at zl
    have zy := fun A c w t h => bytes_yes rn A rb bl c hbl.symm k1 k2 (by omega) w t h
    rw [k4] at zy
    have q64 : q = 64 := by rw [HM.out.2, ← k4, Slot.sect_length _ _ k3]
    have zs := fun A1 c1 w1 h h' => same_yes A1 l 64 c1 (by rw [← HM.out.2, q64]) A' l q c' HM.out.2.symm w1 h h' rfl
    clear hm hq hy hrn hrb k4 k3 hbl q64 k1 k2
    by_cases hx : Slot.bytesE n r = 0
    · obtain ⟨g1, g2, g3⟩ := Slot.bytesE_zero n r hx
      obtain ⟨k, rfl⟩ : ∃ k : Nat, n = (k : Int) := ⟨n.toNat, by omega⟩
      have zb := fun w t h => bytes_yes k A r m c HM.out.1.symm (by omega) (by omega) (by rw [HM.out.1]; exact g1) w t h
      have zr := fun A c hc w t h => read_yes A k r c hc (by omega) (by omega) g1 w t h
      rw [← HM.out.1] at zr
      have zt := fun A1 c1 w1 h h' => same_yes A1 r m c1 HM.out.1.symm A r m c HM.out.1.symm w1 h h' rfl
      clear hx g1 g2 g3 h1 h2
      go_enter Tryd.func7, Tryd.ntmps7
      go_wp2_with (first
        | (go_at_call 19; refine (awake_any disks w ht).mono ?_; (rintro e w1 ⟨rfl, B1⟩; have t1 := ht.below B1 (Nat.le_refl _); have r1 := hr.step B1; have l1 := hr'.step B1))
        | (go_at_call 12; first
          | ((with_reducible refine (zb w1 t1 r1).mono ?_); (rintro e w2 ⟨A2, c2, rfl, hc2, x2, B2⟩; have t2 := t1.below B2 (Nat.le_refl _); have r2 := r1.step B2; have l2 := l1.step B2; have C2 := step_trans B1 B2))
          | ((with_reducible refine (zy A4 c4 w4 t4 o4).mono ?_); (rintro e w5 ⟨A5, c5, rfl, hc5, x5, B5⟩; have l5 := l4.step B5; have C5 := step_trans C4 B5)))
        | (go_at_call 14; first
          | ((with_reducible refine (zr A2 c2 hc2 w2 t2 x2).mono ?_); (rintro e w3 ⟨A3, c3, rfl, x3, B3⟩; have t3 := t2.below B3 (Nat.le_refl _); have r3 := r2.step B3; have l3 := l2.step B3; have C3 := step_trans C2 B3))
          | ((with_reducible refine (zl w3 t3 l3).mono ?_); (rintro e w4 ⟨A4, c4, rfl, hc4, o4, B4⟩; have o4 := o4.bytes; have t4 := t3.below B4 (Nat.le_refl _); have l4 := l3.step B4; have C4 := step_trans C3 B4)))
        | (go_at_call 16; first
          | ((with_reducible refine (zt A3 c3 w3 x3 r3).mono ?_); (rintro e w6 ⟨rfl, rfl⟩))
          | ((with_reducible refine (zs A5 c5 w5 x5 l5).mono ?_); (rintro e w6 ⟨rfl, rfl⟩))))
      go_ret
      exact ⟨rfl, C5⟩
    · have zb := fun w t h => slotBytes_any n A r m c HM.out.1.symm w t h
      unfold BsPost at zb
      obtain ⟨be, hbe⟩ : ∃ x, x = Slot.bytesE n r := ⟨_, rfl⟩
      rw [← hbe] at zb hx
      have hne : (be == 0) = false := by simpa using hx
      clear hx hbe h1 h2
      go_enter Tryd.func7, Tryd.ntmps7
      go_wp2_with (first
        | (go_at_call 19; refine (awake_any disks w ht).mono ?_; (rintro e w1 ⟨rfl, B1⟩; have t1 := ht.below B1 (Nat.le_refl _); have r1 := hr.step B1; have l1 := hr'.step B1))
        | (go_at_call 12; first
          | ((with_reducible refine (zb w1 t1 r1).mono ?_); (rintro e w3 ⟨A2, c2, rfl, hc2, x2, B2⟩; have t3 := t1.below B2 (Nat.le_refl _); have l3 := l1.step B2; have C3 := step_trans B1 B2))
          | ((with_reducible refine (zy A4 c4 w4 t4 o4).mono ?_); (rintro e w5 ⟨A5, c5, rfl, hc5, x5, B5⟩; have l5 := l4.step B5; have C5 := step_trans C4 B5)))
        | (go_at_call 14; ((with_reducible refine (zl w3 t3 l3).mono ?_); (rintro e w4 ⟨A4, c4, rfl, hc4, o4, B4⟩; have o4 := o4.bytes; have t4 := t3.below B4 (Nat.le_refl _); have l4 := l3.step B4; have C4 := step_trans C3 B4)))
        | (go_at_call 16; ((with_reducible refine (zs A5 c5 w5 x5 l5).mono ?_); (rintro e w6 ⟨rfl, rfl⟩))))
      go_ret
      exact ⟨rfl, C5⟩
  · obtain ⟨re, hre⟩ : ∃ x, x = Slot.readE l := ⟨_, rfl⟩
    rw [← hre] at zl hy
    have hny : (re != 0) = true := by simpa using hy
    clear hm hq hy hre
    by_cases hx : Slot.bytesE n r = 0
    · obtain ⟨g1, g2, g3⟩ := Slot.bytesE_zero n r hx
      obtain ⟨k, rfl⟩ : ∃ k : Nat, n = (k : Int) := ⟨n.toNat, by omega⟩
      have zb := fun w t h => bytes_yes k A r m c HM.out.1.symm (by omega) (by omega) (by rw [HM.out.1]; exact g1) w t h
      have zr := fun A c hc w t h => read_yes A k r c hc (by omega) (by omega) g1 w t h
      rw [← HM.out.1] at zr
      have zt := fun A1 c1 w1 h h' => same_yes A1 r m c1 HM.out.1.symm A r m c HM.out.1.symm w1 h h' rfl
      clear hx g1 g2 g3 h1 h2
      go_enter Tryd.func7, Tryd.ntmps7
      go_wp2_with (first
        | (go_at_call 19; refine (awake_any disks w ht).mono ?_; (rintro e w1 ⟨rfl, B1⟩; have t1 := ht.below B1 (Nat.le_refl _); have r1 := hr.step B1; have l1 := hr'.step B1))
        | (go_at_call 12; ((with_reducible refine (zb w1 t1 r1).mono ?_); (rintro e w2 ⟨A2, c2, rfl, hc2, x2, B2⟩; have t2 := t1.below B2 (Nat.le_refl _); have r2 := r1.step B2; have l2 := l1.step B2; have C2 := step_trans B1 B2)))
        | (go_at_call 14; first
          | ((with_reducible refine (zr A2 c2 hc2 w2 t2 x2).mono ?_); (rintro e w3 ⟨A3, c3, rfl, x3, B3⟩; have t3 := t2.below B3 (Nat.le_refl _); have r3 := r2.step B3; have l3 := l2.step B3; have C3 := step_trans C2 B3))
          | ((with_reducible refine (zl w3 t3 l3).mono ?_); (rintro e w4 ⟨A4, c4, rfl, hc4, o4, B4⟩; have C4 := step_trans C3 B4)))
        | (go_at_call 16; ((with_reducible refine (zt A3 c3 w3 x3 r3).mono ?_); (rintro e w6 ⟨rfl, rfl⟩))))
      go_ret
      exact ⟨rfl, C4⟩
    · have zb := fun w t h => slotBytes_any n A r m c HM.out.1.symm w t h
      unfold BsPost at zb
      obtain ⟨be, hbe⟩ : ∃ x, x = Slot.bytesE n r := ⟨_, rfl⟩
      rw [← hbe] at zb hx
      have hne : (be == 0) = false := by simpa using hx
      clear hx hbe h1 h2
      go_enter Tryd.func7, Tryd.ntmps7
      go_wp2_with (first
        | (go_at_call 19; refine (awake_any disks w ht).mono ?_; (rintro e w1 ⟨rfl, B1⟩; have t1 := ht.below B1 (Nat.le_refl _); have r1 := hr.step B1; have l1 := hr'.step B1))
        | (go_at_call 12; ((with_reducible refine (zb w1 t1 r1).mono ?_); (rintro e w3 ⟨A2, c2, rfl, hc2, x2, B2⟩; have t3 := t1.below B2 (Nat.le_refl _); have l3 := l1.step B2; have C3 := step_trans B1 B2)))
        | (go_at_call 14; ((with_reducible refine (zl w3 t3 l3).mono ?_); (rintro e w4 ⟨A4, c4, rfl, hc4, o4, B4⟩; have C4 := step_trans C3 B4))))
      go_ret
      exact ⟨rfl, C4⟩
theorem back_any (n : Int) (A : Option Addr) (r : List UInt8) (c : Nat) (A' : Option Addr) (l : List UInt8) (c' : Nat) (hlc : l.length ≤ c') (w : World) (ht : TabAt w) (hr : BytesAt w w.heap.size A r) (hr' : BytesAt w w.heap.size A' l) :
    Calls Tryd.prog 7 #[.int .i64 n, .slice A r.length c, .slice A' l.length c'] w fun e w' => e = .returned (.bool true) ∧ Below w.heap.size w w' := by
  by_cases h : 100 < r.length ∨ 100 < l.length
  · exact back_long n A r c A' l c' w ht h
  · exact back_short n A r c A' l c' hlc w ht hr hr' (by omega) (by omega)
end Go.Proofs.YtgnfajmjhlnobaaDoor
