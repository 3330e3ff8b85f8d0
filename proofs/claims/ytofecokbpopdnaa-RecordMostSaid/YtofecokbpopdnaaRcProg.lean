/-
  The program's records: Check, Newer, Has. Conditions: a set is an int of 64 bits.
-/
import Derived.Test.YtofecokbpopdnaaTells
import Derived.Test.YtofecokbpopdnaaRcMath
import Derived.Test.YtofecokbpopdnaaBa
import Derived.Test.YtofecokbpopdnaaFrame
import Derived.IntWalk
import Derived.Shelf.RegionOpen
import Derived.Deep.RegionHeld3
namespace Go.Proofs.Ytofecokbpopdnaa
open Go.RowKit Rc

/-- a number is told, whatever memory is made -/
def Tin (n : Int) (w : World) (e : Ending) (w' : World) : Prop := e = .returned (.int .i64 n) ∧ Below w.heap.size w w'

def I64 (s : Int) : Prop := -9223372036854775808 ≤ s ∧ s ≤ 9223372036854775807
theorem nat_and2 (n : Nat) : n &&& 2 = n / 2 % 2 * 2 := by
  apply Nat.eq_of_testBit_eq
  intro i
  rw [Nat.testBit_and, show (2:Nat) = 2 ^ 1 by decide, Nat.testBit_two_pow, Nat.testBit_mul_two_pow]
  by_cases h : i = 1
  · subst h; simp [Nat.testBit_eq_decide_div_mod_eq]
  · have h' : ¬ 1 = i := fun e => h e.symm
    simp only [h', decide_false, Bool.and_false]
    by_cases h2 : 1 ≤ i
    · have : (n / 2 ^ 1 % 2 ^ 1).testBit (i - 1) = false := Nat.testBit_lt_two_pow (Nat.lt_of_lt_of_le (Nat.mod_lt _ (by decide)) (Nat.pow_le_pow_right (by decide) (by omega)))
      rw [this]; simp
    · simp [h2]
theorem and1 (s : Int) : bits .and .i64 s 1 = s % 2 := by
  show IntKind.i64.wrap ((BitVec.ofInt 64 s &&& BitVec.ofInt 64 1).toNat : Int) = _
  have e : (BitVec.ofInt 64 s &&& BitVec.ofInt 64 1).toNat = (s % 2).toNat := by
    rw [BitVec.toNat_and, BitVec.toNat_ofInt, show (BitVec.ofInt 64 1).toNat = 2 ^ 1 - 1 by decide, Nat.and_two_pow_sub_one_eq_mod]
    omega
  rw [e, IntWalk.i64_in _ (by omega)]
  omega
theorem and2 (s : Int) : bits .and .i64 s 2 = s / 2 % 2 * 2 := by
  show IntKind.i64.wrap ((BitVec.ofInt 64 s &&& BitVec.ofInt 64 2).toNat : Int) = _
  have e : (BitVec.ofInt 64 s &&& BitVec.ofInt 64 2).toNat = (s / 2 % 2 * 2).toNat := by
    rw [BitVec.toNat_and, BitVec.toNat_ofInt, show (BitVec.ofInt 64 2).toNat = 2 by decide, nat_and2]
    omega
  rw [e, IntWalk.i64_in _ (by omega)]
  omega
theorem set_iff (s : Int) (h : I64 s) : (bits .andNot .i64 s 3 == 0) = decide (0 ≤ s ∧ s ≤ 3) := by
  have key : bits .andNot .i64 s 3 = 0 ↔ 0 ≤ s ∧ s ≤ 3 := by
    show IntKind.i64.wrap ((BitVec.ofInt 64 s &&& ~~~ BitVec.ofInt 64 3).toNat : Int) = 0 ↔ _
    constructor
    · intro e
      have lt := (BitVec.ofInt 64 s &&& ~~~ BitVec.ofInt 64 3).isLt
      have z : (BitVec.ofInt 64 s &&& ~~~ BitVec.ofInt 64 3).toNat = 0 := by
        generalize (BitVec.ofInt 64 s &&& ~~~ BitVec.ofInt 64 3).toNat = n at e lt
        unfold IntKind.wrap at e
        simp only [IntKind.bits, IntKind.signed, Bool.true_and] at e
        split at e <;> omega
      rw [BitVec.toNat_and, BitVec.toNat_ofInt, show (~~~ BitVec.ofInt 64 3).toNat = 2 ^ 64 - 4 by decide] at z
      have lt4 : (s % ↑(2 ^ 64)).toNat < 2 ^ 2 := by
        refine Nat.lt_pow_two_of_testBit _ fun i hi => ?_
        by_cases h64 : i < 64
        · have a : ∀ j, j < 64 → 2 ≤ j → (2 ^ 64 - 4).testBit j = true := by decide
          have b := congrArg (fun n => n.testBit i) z
          simp only [Nat.testBit_and, a i h64 hi, Bool.and_true, Nat.zero_testBit] at b
          exact b
        · exact Nat.testBit_lt_two_pow (Nat.lt_of_lt_of_le (by omega : (s % ↑(2 ^ 64)).toNat < 2 ^ 64) (Nat.pow_le_pow_right (by decide) (by omega)))
      unfold I64 at h
      omega
    · rintro ⟨h1, h2⟩
      rcases (show s = 0 ∨ s = 1 ∨ s = 2 ∨ s = 3 by omega) with rfl | rfl | rfl | rfl <;> decide
  rw [Bool.eq_iff_iff]
  simp only [beq_iff_eq, decide_eq_true_eq]
  exact key
set_option maxRecDepth 100000 in
theorem isNumber_any (n : Int) (w : World) : Calls Try.prog 23 #[.int .i64 n] w (Tls (decide (Num n)) w) := by
  have e : decide (Num n) = (decide (0 ≤ n) && decide (n ≤ 1099511627776)) := Bool.decide_and _ _
  by_cases l0 : (0 : Int) ≤ n
  · have FIN : Hid (decide (Num n) = decide (n ≤ 1099511627776)) := Lib.hid (by rw [e, decide_eq_true l0]; rfl)
    clear e
    go_enter Try.func23, Try.ntmps23
    go_wp2
    go_ret
    exact ⟨by rw [FIN.out]; rfl, rfl⟩
  · have FIN : Hid (decide (Num n) = false) := Lib.hid (by rw [e, decide_eq_false l0]; rfl)
    clear e
    go_enter Try.func23, Try.ntmps23
    go_wp2
    go_ret
    exact ⟨by rw [FIN.out]; rfl, rfl⟩
set_option maxRecDepth 100000 in
theorem isSet_any (s : Int) (h : I64 s) (w : World) : Calls Try.prog 24 #[.int .i64 s] w (Tls (decide (Set3 s)) w) := by
  by_cases g : s = 0
  · subst g
    go_enter Try.func24, Try.ntmps24
    go_wp2
    go_ret
    exact ⟨rfl, rfl⟩
  · have l0 : (s != 0) = true := by simp [g]
    have FIN : Hid (decide (Set3 s) = (bits .andNot .i64 s 3 == 0)) := Lib.hid (by rw [set_iff s h]; exact decide_eq_decide.2 (by unfold Set3; omega))
    clear g h
    go_enter Try.func24, Try.ntmps24
    go_wp2
    go_ret
    exact ⟨by rw [FIN.out]; rfl, rfl⟩
theorem recTy : RowTy Try.prog 23 [.int .i64 0, .int .i64 0, .int .i64 0] := ⟨fun w => by kernel_rfl, by kernel_rfl, _, Try.underlying23, rfl⟩
def rcL (t n s : Int) : List Value := [.int .i64 t, .int .i64 n, .int .i64 s]
/-- a record in a block of its own -/
def RcBox (w : World) (g : Nat) (t n s : Int) : Prop := w.cell? ⟨g, 0, none⟩ = some (.int .i64 t) ∧ w.cell? ⟨g, 1, none⟩ = some (.int .i64 n) ∧ w.cell? ⟨g, 2, none⟩ = some (.int .i64 s)
theorem rc_box {w : World} {g : Nat} {t n s : Int} (b : BlkR 23 w g (rcL t n s)) : RcBox w g t n s := ⟨b.cell rfl, b.cell rfl, b.cell rfl⟩
def errN (r : R) : Int := if Ok r then 0 else 2
set_option maxRecDepth 100000 in
theorem rcCheck_any (t n s : Int) (hs : I64 s) (w : World) : Calls Try.prog 9 #[.agg #[.int .i64 t, .int .i64 n, .int .i64 s]] w (Tin (errN ⟨t, n, s⟩) w) := by
  obtain ⟨w1, hw1⟩ : ∃ w1, w1 = w.alloc (.cells #[.int .i64 t, .int .i64 n, .int .i64 s] 23) := ⟨_, rfl⟩
  have B1 : Below w.heap.size w w1 := by rw [hw1]; exact step_alloc (Below.refl _ w) _
  have b1 : BlkR 23 w1 w.heap.size (rcL t n s) := by rw [hw1]; exact BlkR.new w (rcL t n s) _
  obtain ⟨c0, c1, c2⟩ := rc_box b1
  have z1 := isNumber_any t w1
  have z2 := isNumber_any n w1
  have z3 := isSet_any s hs w1
  have BB := Lib.hid B1
  by_cases h1 : Num t
  · rw [decide_eq_true h1] at z1
    by_cases h2 : Num n
    · rw [decide_eq_true h2] at z2
      have e : errN ⟨t, n, s⟩ = if Set3 s then 0 else 2 := by
        unfold errN
        by_cases h3 : Set3 s
        · rw [if_pos ⟨h1, h2, h3⟩, if_pos h3]
        · rw [if_neg (fun x => h3 x.2.2), if_neg h3]
      by_cases h3 : Set3 s
      · rw [decide_eq_true h3] at z3
        rw [e, if_pos h3]
        clear e h1 h2 h3 hs b1 B1
        go_enter Try.func9, Try.ntmps9
        go_wp2_with (first
          | (go_at_call 23; rw [← hw1]; clear hw1; (with_reducible refine z1.mono ?_); (rintro e w2 ⟨rfl, rfl⟩))
          | (go_at_call 23; (with_reducible refine z2.mono ?_); (rintro e w2 ⟨rfl, rfl⟩))
          | (go_at_call 24; (with_reducible refine z3.mono ?_); (rintro e w2 ⟨rfl, rfl⟩)))
        go_ret
        exact ⟨rfl, BB.out⟩
      · rw [decide_eq_false h3] at z3
        rw [e, if_neg h3]
        clear e h1 h2 h3 hs b1 B1
        go_enter Try.func9, Try.ntmps9
        go_wp2_with (first
          | (go_at_call 23; rw [← hw1]; clear hw1; (with_reducible refine z1.mono ?_); (rintro e w2 ⟨rfl, rfl⟩))
          | (go_at_call 23; (with_reducible refine z2.mono ?_); (rintro e w2 ⟨rfl, rfl⟩))
          | (go_at_call 24; (with_reducible refine z3.mono ?_); (rintro e w2 ⟨rfl, rfl⟩)))
        go_ret
        exact ⟨rfl, BB.out⟩
    · rw [decide_eq_false h2] at z2
      have e : errN ⟨t, n, s⟩ = 2 := if_neg fun x => h2 x.2.1
      rw [e]
      clear e h1 h2 hs b1 B1
      go_enter Try.func9, Try.ntmps9
      go_wp2_with (first
        | (go_at_call 23; rw [← hw1]; clear hw1; (with_reducible refine z1.mono ?_); (rintro e w2 ⟨rfl, rfl⟩))
        | (go_at_call 23; (with_reducible refine z2.mono ?_); (rintro e w2 ⟨rfl, rfl⟩)))
      go_ret
      exact ⟨rfl, BB.out⟩
  · rw [decide_eq_false h1] at z1
    have e : errN ⟨t, n, s⟩ = 2 := if_neg fun x => h1 x.1
    rw [e]
    clear e h1 hs b1 B1
    go_enter Try.func9, Try.ntmps9
    go_wp2_with (first
      | (go_at_call 23; rw [← hw1]; clear hw1; (with_reducible refine z1.mono ?_); (rintro e w2 ⟨rfl, rfl⟩)))
    go_ret
    exact ⟨rfl, BB.out⟩
end Go.Proofs.Ytofecokbpopdnaa
