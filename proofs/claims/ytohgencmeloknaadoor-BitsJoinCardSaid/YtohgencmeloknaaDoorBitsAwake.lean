/-
  The walks of awake and of BitsKnown. Conditions: the library's table lies as its text lays it.
-/
import Derived.Test.YtohgencmeloknaaDoorBitsWalk
import Derived.Test.YtohgencmeloknaaDoorKitInts
namespace Go.Proofs.YtohgencmeloknaaDoor
open Go.RowKit Bits

theorem awake_any (w : World) (ht : TzAt w) :
    Calls Tryd.prog 22 #[] w fun e w' => e = .returned (.bool true) ∧ w = w' := by
  have HD : Hid ((0 ||| 2 ^ 3 = 8) ∧ rest 10 (lo 2) ≠ 0 ∧ low (rest 10 (lo 2)) = 3 ∧ cnt 11 = 3) := ⟨by decide +kernel, by decide +kernel, by decide +kernel, by decide +kernel⟩
  go_enter Tryd.func22, Tryd.ntmps22
  go_wp2_with (first
    | (go_at_call 8; refine (put_in 0 3 (by decide) (by decide) _).mono ?_; (rintro e w' ⟨rfl, rfl⟩; rw [HD.out.1]))
    | (go_at_call 12; refine (first_some 10 2 (by decide) HD.out.2.1 _ ht).mono ?_; (rintro e w' ⟨rfl, rfl⟩; rw [HD.out.2.2.1]))
    | (go_at_call 17; refine (count_any 11 (by decide) _).mono ?_; (rintro e w' ⟨rfl, rfl⟩; rw [HD.out.2.2.2])))
  go_ret
  exact ⟨rfl, rfl⟩
theorem known_any (w : World) (ht : TzAt w) :
    Calls Tryd.prog 7 #[] w fun e w' => e = .returned (.bool true) ∧ Below w.heap.size w w' := by
  have HD : Hid (ofl [5, 0, 5] = 33 ∧ (∀ b ∈ [(5 : Int), 0, 5], okb b = true) ∧ ints 33 = [0, 5] ∧ cnt 33 = 2) := ⟨by decide +kernel, by decide +kernel, by decide +kernel, by decide +kernel⟩
  have z1 : ∀ w, Calls Tryd.prog 8 #[.int .u64 8, .int .i64 64] w fun e w' => e = .returned (.tuple #[.int .u64 0, .int .i64 5]) ∧ w = w' := put_out 8 64 (by decide)
  have z2 : ∀ w, Calls Tryd.prog 10 #[.int .u64 8, .int .i64 3] w fun e w' => e = .returned (.tuple #[.int .u64 0, .int .i64 0]) ∧ w = w' := fun w => by
    have := cut_in 8 3 (by decide) (by decide) w
    rwa [show 8 &&& (full - 2 ^ 3) = 0 from by decide +kernel] at this
  have z3 : ∀ w, Calls Tryd.prog 12 #[.int .u64 10, .int .i64 4] w fun e w' => e = .returned (.tuple #[.int .i64 0, .bool false]) ∧ w = w' := first_none 10 4 (by decide) (by decide +kernel)
  have z4 : ∀ w, TzAt w → Calls Tryd.prog 12 #[.int .u64 10, .int .i64 (-5)] w fun e w' => e = .returned (.tuple #[.int .i64 1, .bool true]) ∧ w = w' := fun w ht => by
    have := first_some 10 (-5) (by decide) (by decide +kernel) w ht
    rwa [show low (rest 10 (lo (-5))) = 1 from by decide +kernel] at this
  have z5 : ∀ w, Calls Tryd.prog 24 #[.int .i64 3] w fun e w' => e = .returned (.tuple #[.int .u64 7, .int .i64 0]) ∧ w = w' := fun w => by
    have := all_in 3 (by decide) (by decide) w
    rwa [show ones (lo 3) = 7 from by decide +kernel] at this
  have z6 : ∀ w, Calls Tryd.prog 24 #[.int .i64 65] w fun e w' => e = .returned (.tuple #[.int .u64 0, .int .i64 5]) ∧ w = w' := all_out 65 (by decide)
  have z7 : ∀ w, Calls Tryd.prog 18 #[.int .u64 8, .int .i64 3] w fun e w' => e = .returned (.bool true) ∧ w = w' := fun w => by
    have := has_in 8 3 (by decide) (by decide) w
    rwa [show Nat.testBit 8 3 = true from by decide +kernel] at this
  have z8 : ∀ w, Calls Tryd.prog 18 #[.int .u64 8, .int .i64 (-1)] w fun e w' => e = .returned (.bool false) ∧ w = w' := has_out 8 (-1) (by decide)
  have z9 : ∀ w, Calls Tryd.prog 20 #[.int .u64 8, .int .i64 3] w fun e w' => e = .returned (.bool false) ∧ w = w' := fun w => by
    have := within_any 8 3 (by decide) w
    rwa [show inB 8 3 = false from by decide +kernel] at this
  have za : ∀ w, Calls Tryd.prog 20 #[.int .u64 8, .int .i64 4] w fun e w' => e = .returned (.bool true) ∧ w = w' := fun w => by
    have := within_any 8 4 (by decide) w
    rwa [show inB 8 4 = true from by decide +kernel] at this
  have zb : ∀ w B A, RowAt w B A (iv [5, 0, 5]) → Calls Tryd.prog 26 #[.slice A 3 3] w fun e w' => e = .returned (.tuple #[.int .u64 33, .int .i64 0]) ∧ w = w' := fun w B A hr => by
    have := of_good A [5, 0, 5] 3 3 B rfl w (by decide) hr HD.out.2.1
    rwa [HD.out.1] at this
  have zc : ∀ w, TzAt w → Calls Tryd.prog 14 #[.int .u64 33] w fun e w' => ∃ A c, e = .returned (.slice A 2 c) ∧ OwnR 3 w' w.heap.size (.slice A 2 c) (iv [0, 5]) ∧ Below w.heap.size w w' := fun w ht => (list_any 33 (by decide) w ht).mono fun e w' ⟨A, c, h1, h2, h3, h4, h5⟩ => by
    rw [HD.out.2.2.2, HD.out.2.2.1] at *
    exact ⟨A, c, h1, h4, h5⟩
  have Z := Lib.hid (And.intro zb zc)
  clear zb zc
  go_enter Tryd.func7, Tryd.ntmps7
  go_wp2_with (first
    | (go_at_call 8; (with_reducible refine (z1 _).mono ?_); (rintro e w' ⟨rfl, rfl⟩))
    | (go_at_call 10; (with_reducible refine (z2 _).mono ?_); (rintro e w' ⟨rfl, rfl⟩))
    | (go_at_call 12; (with_reducible refine (z3 _).mono ?_); (rintro e w' ⟨rfl, rfl⟩))
    | (go_at_call 12; (with_reducible refine (z4 _ ht).mono ?_); (rintro e w' ⟨rfl, rfl⟩))
    | (go_at_call 24; (with_reducible refine (z5 _).mono ?_); (rintro e w' ⟨rfl, rfl⟩))
    | (go_at_call 24; (with_reducible refine (z6 _).mono ?_); (rintro e w' ⟨rfl, rfl⟩))
    | (go_at_call 18; (with_reducible refine (z7 _).mono ?_); (rintro e w' ⟨rfl, rfl⟩))
    | (go_at_call 18; (with_reducible refine (z8 _).mono ?_); (rintro e w' ⟨rfl, rfl⟩))
    | (go_at_call 20; (with_reducible refine (z9 _).mono ?_); (rintro e w' ⟨rfl, rfl⟩))
    | (go_at_call 20; (with_reducible refine (za _).mono ?_); (rintro e w' ⟨rfl, rfl⟩))
    | (go_at_call 26; refine (Z.out.1 _ (w.heap.size + 1) _ ?c1).mono ?_; rotate_left; (rintro e w' ⟨rfl, rfl⟩))
    | (go_at_call 14; refine (Z.out.2 _ ?c2).mono ?_; rotate_left; (rintro e w1 ⟨A, c, rfl, hown, hbel⟩))
    | (go_at_call 22; refine (awake_any _ ?c3).mono ?_; rotate_left; (rintro e w' ⟨rfl, rfl⟩))
    | (go_at_call 16; refine (sameInts_any _ [0, 5] 2 _ rfl _ [0, 5] 2 2 rfl (w1.heap.size + 1) _ ?c4 ?c5 (by decide)).mono ?_; rotate_left 2; (rintro e w' ⟨rfl, n3, rfl⟩)))
  · have hb0 : Below w.heap.size w w1 := ((Below.refl _ _).alloc (Nat.le_refl _) _).trans (hbel.mono (by simp))
    go_ret
    exact ⟨rfl, belowDN (hb0.alloc hb0.size _) n3⟩
  case c1 => exact (BlkR.new w (iv [5, 0, 5]) 3).row ⟨[], rfl⟩ (Nat.lt_succ_self _)
  case c2 => exact ht.alloc _
  case c3 => exact ht.alloc _
  case c4 => exact (hown.row.alloc (Nat.le_refl _) _).more (Nat.le_succ _)
  case c5 => exact (BlkR.new w1 (iv [0, 5]) 3).row ⟨[], rfl⟩ (Nat.lt_succ_self _)
end Go.Proofs.YtohgencmeloknaaDoor
