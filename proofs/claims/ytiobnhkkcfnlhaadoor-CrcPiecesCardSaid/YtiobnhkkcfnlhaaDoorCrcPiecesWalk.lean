/-
  The walk of CrcPieces. Conditions: the table lies as the program's text lays it; the bytes can be read.
-/
import Derived.Test.YtiobnhkkcfnlhaaDoorCrcWalk
import Derived.Test.YtiobnhkkcfnlhaaDoorKit
namespace Go.Proofs.YtiobnhkkcfnlhaaDoor
open Go.RowKit

theorem pieces_long (A : Option Addr) (l : List UInt8) (c : Nat) (x : Int) (w : World) (ht : TabAt w) (_hc : l.length ≤ maxLen) (hlen : 5000 < l.length) :
    Calls Tryd.prog 4 #[.slice A l.length c, .int .i64 x] w fun e w' => e = .returned (.bool true) ∧ Below w.heap.size w w' := by
  unfold maxLen at _hc
  go_enter Tryd.func4, Tryd.ntmps4
  go_wp2_with (go_at_call 16; refine (awake_any _ ht).mono ?_; rintro e w1 ⟨rfl, hb1⟩)
  go_ret
  exact ⟨rfl, hb1⟩

theorem pieces_short (A : Option Addr) (l : List UInt8) (c : Nat) (x : Int) (w : World) (ht : TabAt w) (hlc : l.length ≤ c) (_hc : c ≤ maxLen) (hr : BytesAt w w.heap.size A l) (hlen : l.length ≤ 5000)
    (hx : -9223372036854775808 ≤ x) (hx2 : x ≤ 9223372036854775807) :
    Calls Tryd.prog 4 #[.slice A l.length c, .int .i64 x] w fun e w' => e = .returned (.bool true) ∧ Below w.heap.size w w' := by
  unfold maxLen at _hc
  obtain ⟨k, hk⟩ : ∃ k : Nat, x % ((l.length : Int) + 1) = (k : Int) := ⟨(x % ((l.length : Int) + 1)).toNat, by have := Int.emod_nonneg x (b := (l.length : Int) + 1) (by omega); omega⟩
  have hk1 : k ≤ l.length := by have := Int.emod_lt_of_pos x (b := (l.length : Int) + 1) (by omega); omega
  have HK := Lib.hid hk
  clear hk
  have q1 := cut_to A l.length c k (by omega)
  have q2 := cut_from A l.length c k hk1
  have HS : Hid (Crc.more (Crc.sum (l.take k)) (l.drop k) = Crc.sum l ∧ Crc.more 0 l = Crc.sum l) := ⟨by rw [← Crc.sum_append, List.take_append_drop], rfl⟩
  go_enter Tryd.func4, Tryd.ntmps4
  go_wp2_with (first
    | (go_at_call 16; refine (awake_any _ ht).mono ?_; rintro e w1 ⟨rfl, hb1⟩)
    | (go_at_call 17; refine (pick_any x _ _ hx hx2 ?p1 ?p2).mono ?p3; rotate_left 2; (rintro e w' ⟨rfl, rfl⟩; rw [HK.out])))
  · have ht1 := ht.below hb1 (Nat.le_refl _)
    have hr1 := hr.below hb1
    have z1 := fun n => sum_n A (l.take k) k c (by simp; omega) _ (w1.drewN n) (ht1.drewN n) (by simp; omega) ((hr1.take k).drewN n)
    have z2 := fun n => sum_n A l l.length c rfl _ (w1.drewN n) (ht1.drewN n) (by omega) (hr1.drewN n)
    have z3 := fun n => more_n (Crc.sum (l.take k)) (Crc.sum_lt _) (cutA A k c) (l.drop k) (l.length - k) (c - k) (by simp) _ (w1.drewN n) (ht1.drewN n) (by simp; omega) ((hr1.drop k c hlc).drewN n)
    have z4 := fun n => more_n 0 (by decide) A l l.length c rfl _ (w1.drewN n) (ht1.drewN n) (by omega) (hr1.drewN n)
    rw [HS.out.1] at z3
    rw [HS.out.2] at z4
    go_quiet (first
      | (go_at_call 11; with_reducible first | exact quietN (z1 _) | exact quietA (z1 _) | exact quietN (z2 _) | exact quietA (z2 _))
      | (go_at_call 12; with_reducible first | exact quietN (z3 _) | exact quietA (z3 _) | exact quietN (z4 _) | exact quietA (z4 _)))
    go_wp2
    go_ret
    exact ⟨rfl, belowN hb1 _⟩
  case p1 => omega
  case p2 => omega

theorem pieces_any (A : Option Addr) (l : List UInt8) (c : Nat) (x : Int) (w : World) (ht : TabAt w) (hlc : l.length ≤ c) (hc : c ≤ maxLen) (hr : BytesAt w w.heap.size A l)
    (hx : -9223372036854775808 ≤ x ∧ x ≤ 9223372036854775807) :
    Calls Tryd.prog 4 #[.slice A l.length c, .int .i64 x] w fun e w' => e = .returned (.bool true) ∧ Below w.heap.size w w' := by
  by_cases h : l.length ≤ 5000
  · exact pieces_short A l c x w ht hlc hc hr h hx.1 hx.2
  · exact pieces_long A l c x w ht (Nat.le_trans hlc hc) (by omega)
end Go.Proofs.YtiobnhkkcfnlhaaDoor
