/-
  What a session knows of the other one: has, with. Conditions: its numbers are within their bounds.
-/
import Derived.Test.YtfopjilncfndnaaDoorSsRing
import Derived.Laws.BitsAllLaws
import Derived.RegionTactic
namespace Go.Proofs.YtfopjilncfndnaaDoor
open Go.RowKit Fix

theorem has_num (s j : Nat) (hs : s < 18446744073709551616) (hj : j < 64) : (bits .and .u64 ((s : Int) / 2 ^ min j 64) 1 == 1) = s.testBit j := by
  have e : (s : Int) / 2 ^ min j 64 = ((s / 2 ^ j : Nat) : Int) := by rw [Nat.min_eq_left (by omega), Int.natCast_ediv, Int.natCast_pow]; rfl
  have hd : s / 2 ^ j ≤ s := Nat.div_le_self _ _
  rw [e, show (1 : Int) = ((1 : Nat) : Int) from rfl, u64_and_nat _ 1 (by omega) (by decide), nat_mask1, Nat.testBit_eq_decide_div_mod_eq]
  rcases Nat.mod_two_eq_zero_or_one (s / 2 ^ j) with h | h <;> rw [h] <;> rfl
/-- what is known, in cells, and as a value -/
def kL (k : Ss.K) : List Value := [.int .i64 (k.boot : Int), .int .i64 (k.top : Int), .int .u64 (k.came : Int)]
set_option maxRecDepth 100000 in
theorem has_any (k : Ss.K) (n : Nat) (ht : k.top ≤ 1099511627776) (hc : k.came < 18446744073709551616) (hn : n ≤ 1099511627776) (w : World) : Calls Tryd.prog 49 #[.agg #[.int .i64 (k.boot : Int), .int .i64 (k.top : Int), .int .u64 (k.came : Int)], .int .i64 (n : Int)] w fun e w' => e = .returned (.bool (k.has n)) ∧ Below w.heap.size w w' := by
  obtain ⟨b, hb⟩ : ∃ x : Int, x = (k.boot : Int) := ⟨_, rfl⟩
  obtain ⟨t, hts⟩ : ∃ t : Int, t = (k.top : Int) - (n : Int) := ⟨_, rfl⟩
  have q1 : IntKind.i64.wrap ((k.top : Int) - (n : Int)) = t := by rw [hts]; exact IntWalk.i64_in _ (by omega)
  by_cases g1 : k.top < n
  · have e : k.has n = false := by unfold Ss.K.has; rw [if_pos g1]
    rw [e, ← hb]
    have i1 : t < 0 := by omega
    clear g1 e hb ht hc hn hts
    go_enter Tryd.func49, Tryd.ntmps49
    go_wp2
    go_ret
    exact ⟨rfl, step_alloc (Below.refl _ w) _⟩
  by_cases g2 : k.top = n
  · have e : k.has n = true := by unfold Ss.K.has; rw [if_neg g1, if_pos g2]
    rw [e, ← hb]
    obtain rfl : t = 0 := by omega
    clear g1 g2 e hb ht hc hn hts
    go_enter Tryd.func49, Tryd.ntmps49
    go_wp2
    go_ret
    exact ⟨rfl, step_alloc (Below.refl _ w) _⟩
  by_cases g3 : 64 < k.top - n
  · have e : k.has n = true := by unfold Ss.K.has; rw [if_neg g1, if_neg g2, if_pos g3]
    rw [e, ← hb]
    have i1 : ¬ t < 0 := by omega
    have i2 : (t == 0) = false := by simp; omega
    have i3 : 64 < t := by omega
    clear g1 g2 g3 e hb ht hc hn hts
    go_enter Tryd.func49, Tryd.ntmps49
    go_wp2
    go_ret
    exact ⟨rfl, step_alloc (Below.refl _ w) _⟩
  · have e : k.has n = k.came.testBit (k.top - n - 1) := by unfold Ss.K.has; rw [if_neg g1, if_neg g2, if_neg g3]
    rw [e, ← hb]
    have i1 : ¬ t < 0 := by omega
    have i2 : (t == 0) = false := by simp; omega
    have i3 : ¬ 64 < t := by omega
    obtain ⟨j, hj⟩ : ∃ j, j = k.top - n - 1 := ⟨_, rfl⟩
    have q2 : IntKind.i64.wrap (t - 1) = (j : Int) := by rw [IntWalk.i64_in _ (by omega)]; omega
    rw [← hj]
    have q3 := has_num k.came j hc (by omega)
    clear g1 g2 g3 e hb ht hn hts hj hc
    go_enter Tryd.func49, Tryd.ntmps49
    go_wp2
    go_ret
    exact ⟨rfl, step_alloc (Below.refl _ w) _⟩
theorem known_at (w : World) (xs zs : List Value) (w2 : World) (hw2 : w2 = (w.alloc (.cells xs.toArray 61)).alloc (.cells zs.toArray 61)) : BlkR 61 w2 w.heap.size xs ∧ BlkR 61 w2 (w.heap.size + 1) zs ∧ Below w.heap.size w w2 := by
  have B := (Below.refl w.heap.size w).alloc (Nat.le_refl _) (.cells xs.toArray 61)
  have b1 := BlkR.new w xs 61
  have b2 := BlkR.new (w.alloc (.cells xs.toArray 61)) zs 61
  rw [World.size_alloc] at b2
  rw [hw2]
  exact ⟨BlkR.below b1 ((Below.refl _ _).alloc (Nat.le_refl _) _) (by simp), b2, B.alloc (by simp) _⟩
theorem shl_one (j : Nat) : IntKind.u64.wrap (2 ^ min j 64) = ((2 ^ j % 18446744073709551616 : Nat) : Int) := by
  by_cases h : j < 64
  · rw [Nat.min_eq_left (by omega), IntKind.wrap_u64, Int.natCast_emod, Int.natCast_pow]; rfl
  · rw [Nat.min_eq_right (by omega), show 2 ^ j = 2 ^ 64 * 2 ^ (j - 64) by rw [← Nat.pow_add]; congr 1; omega, show (18446744073709551616 : Nat) = 2 ^ 64 from rfl, Nat.mul_mod_right]
    rfl
theorem set_bit (c j : Nat) (hc : c < 18446744073709551616) (hj : j < 64) : bits .or .u64 (c : Int) (IntKind.u64.wrap (2 ^ min j 64)) = ((c ||| 2 ^ j : Nat) : Int) := by
  rw [shl_one, Nat.mod_eq_of_lt (by rw [show (18446744073709551616 : Nat) = 2 ^ 64 from rfl]; exact Nat.pow_lt_pow_right (by decide) hj)]
  exact u64_or_nat _ _ (by omega) (by have := Nat.pow_lt_pow_right (a := 2) (by decide) hj; omega)
set_option maxRecDepth 100000 in
theorem with_low (k : Ss.K) (n : Nat) (h : k.Ok) (hlt : n < k.top) (hj : k.top - n - 1 < 64) (w : World) : Calls Tryd.prog 50 #[.agg #[.int .i64 (k.boot : Int), .int .i64 (k.top : Int), .int .u64 (k.came : Int)], .int .i64 (n : Int)] w fun e w' => e = .returned (.agg #[.int .i64 ((k.add n).boot : Int), .int .i64 ((k.add n).top : Int), .int .u64 ((k.add n).came : Int)]) ∧ Below w.heap.size w w' := by
  have ht := h.top
  have hc := h.came
  have e : k.add n = ⟨k.boot, k.top, k.came ||| 2 ^ (k.top - n - 1)⟩ := by unfold Ss.K.add; rw [if_pos hlt]
  rw [e]
  dsimp only
  obtain ⟨b, hb⟩ : ∃ x : Int, x = (k.boot : Int) := ⟨_, rfl⟩
  obtain ⟨top, htop⟩ : ∃ x, x = k.top := ⟨_, rfl⟩
  obtain ⟨c, hcc⟩ : ∃ x, x = k.came := ⟨_, rfl⟩
  obtain ⟨w2, hw2⟩ : ∃ w2, w2 = (w.alloc (.cells #[.int .i64 b, .int .i64 (top : Int), .int .u64 (c : Int)] 61)).alloc (.cells #[.int .i64 0, .int .i64 0, .int .u64 0] 61) := ⟨_, rfl⟩
  obtain ⟨b1, b2, B2⟩ := known_at w [.int .i64 b, .int .i64 (top : Int), .int .u64 (c : Int)] [.int .i64 0, .int .i64 0, .int .u64 0] w2 hw2
  have c0 := b1.cell (k := 0) rfl
  have c1 := b1.cell (k := 1) rfl
  have c2 := b1.cell (k := 2) rfl
  have f2 := b1.frozen 2
  have d0 := b2.cell (k := 0) rfl
  have d1 := b2.cell (k := 1) rfl
  have d2 := b2.cell (k := 2) rfl
  have g0 := b2.frozen 0
  have g1 := b2.frozen 1
  have g2 := b2.frozen 2
  rw [← htop] at hlt hj ht ⊢
  rw [← hcc] at hc ⊢
  rw [← hb]
  have i1 : (n : Int) < (top : Int) := by omega
  obtain ⟨t, htt⟩ : ∃ t : Int, t = (top : Int) - 1 := ⟨_, rfl⟩
  obtain ⟨j, hjj⟩ : ∃ j, j = top - n - 1 := ⟨_, rfl⟩
  have q1 : IntKind.i64.wrap ((top : Int) - 1) = t := by rw [htt]; exact IntWalk.i64_in _ (by omega)
  have q2 : IntKind.i64.wrap (t - (n : Int)) = (j : Int) := by rw [IntWalk.i64_in _ (by omega)]; omega
  rw [← hjj] at hj ⊢
  have q3 := set_bit c j hc hj
  clear htt hjj hb htop hcc hc hj hlt ht h e
  go_enter Tryd.func50, Tryd.ntmps50
  go_wp2
  rw [← hw2]
  clear hw2
  have B2 := Lib.hid B2
  go_region
  go_wp2
  refine bodyPost_ret (v := .agg #[.int .i64 b, .int .i64 (top : Int), .int .u64 ((c ||| 2 ^ j : Nat) : Int)]) (by simp [results, Tryd.results50, go_sem, d0, d1, d2]) rfl ⟨rfl, ?_⟩
  have B := B2.out
  clear b1 b2 B2 c0 c1 c2 f2 d0 d1 d2 g0 g1 g2
  refine Below.drew (Below.setCell (Below.setCell (Below.setCell (Below.setCell B (Nat.le_refl _) _) ?_ _) ?_ _) ?_ _) <;> (show w.heap.size ≤ w.heap.size + 1; omega)
theorem shl_many (c j : Nat) : IntKind.u64.wrap ((c : Int) * 2 ^ min j 64) = ((c * 2 ^ j % 18446744073709551616 : Nat) : Int) := by
  by_cases h : j < 64
  · rw [Nat.min_eq_left (by omega), IntKind.wrap_u64, Int.natCast_emod, Int.natCast_mul, Int.natCast_pow]; rfl
  · rw [Nat.min_eq_right (by omega), show 2 ^ j = 2 ^ 64 * 2 ^ (j - 64) by rw [← Nat.pow_add]; congr 1; omega, show c * (2 ^ 64 * 2 ^ (j - 64)) = 18446744073709551616 * (c * 2 ^ (j - 64)) by rw [show (18446744073709551616 : Nat) = 2 ^ 64 from rfl, Nat.mul_left_comm], Nat.mul_mod_right, IntKind.wrap_u64]
    omega
theorem or_bits (x j : Nat) (hx : x < 18446744073709551616) : bits .or .u64 (x : Int) (IntKind.u64.wrap (2 ^ min j 64)) = ((x ||| 2 ^ j % 18446744073709551616 : Nat) : Int) := by
  rw [shl_one]
  exact u64_or_nat _ _ (by omega) (by have := Nat.mod_lt (2 ^ j) (by decide : 18446744073709551616 > 0); omega)
set_option maxRecDepth 100000 in
theorem with_high (k : Ss.K) (n : Nat) (h : k.Ok) (hlt : k.top < n) (hn : n ≤ 1099511627776) (w : World) : Calls Tryd.prog 50 #[.agg #[.int .i64 (k.boot : Int), .int .i64 (k.top : Int), .int .u64 (k.came : Int)], .int .i64 (n : Int)] w fun e w' => e = .returned (.agg #[.int .i64 ((k.add n).boot : Int), .int .i64 ((k.add n).top : Int), .int .u64 ((k.add n).came : Int)]) ∧ Below w.heap.size w w' := by
  have ht := h.top
  have hc := h.came
  have e : k.add n = ⟨k.boot, n, (k.came * 2 ^ (n - k.top)) % 18446744073709551616 ||| (if 0 < k.top then 2 ^ (n - k.top - 1) % 18446744073709551616 else 0)⟩ := by unfold Ss.K.add; rw [if_neg (by omega)]
  rw [e]
  dsimp only
  obtain ⟨b, hb⟩ : ∃ x : Int, x = (k.boot : Int) := ⟨_, rfl⟩
  obtain ⟨top, htop⟩ : ∃ x, x = k.top := ⟨_, rfl⟩
  obtain ⟨c, hcc⟩ : ∃ x, x = k.came := ⟨_, rfl⟩
  rw [← htop] at hlt ht ⊢
  rw [← hcc] at hc ⊢
  rw [← hb]
  have i1 : ¬ (n : Int) < (top : Int) := by omega
  obtain ⟨j, hjj⟩ : ∃ j, j = n - top := ⟨_, rfl⟩
  have q1 : IntKind.i64.wrap ((n : Int) - (top : Int)) = (j : Int) := by rw [IntWalk.i64_in _ (by omega)]; omega
  have hj1 : 1 ≤ j := by omega
  rw [← hjj]
  have q3 := shl_many c j
  obtain ⟨x, hx⟩ : ∃ x, x = c * 2 ^ j % 18446744073709551616 := ⟨_, rfl⟩
  have hx64 : x < 18446744073709551616 := by rw [hx]; exact Nat.mod_lt _ (by decide)
  rw [← hx] at q3 ⊢
  obtain ⟨w2, hw2⟩ : ∃ w2, w2 = (w.alloc (.cells #[.int .i64 b, .int .i64 (top : Int), .int .u64 (x : Int)] 61)).alloc (.cells #[.int .i64 0, .int .i64 0, .int .u64 0] 61) := ⟨_, rfl⟩
  obtain ⟨b1, b2, B2⟩ := known_at w [.int .i64 b, .int .i64 (top : Int), .int .u64 (x : Int)] [.int .i64 0, .int .i64 0, .int .u64 0] w2 hw2
  have c0 := b1.cell (k := 0) rfl
  have c1 := b1.cell (k := 1) rfl
  have c2 := b1.cell (k := 2) rfl
  have f1 := b1.frozen 1
  have f2 := b1.frozen 2
  have d0 := b2.cell (k := 0) rfl
  have d1 := b2.cell (k := 1) rfl
  have d2 := b2.cell (k := 2) rfl
  have g0 := b2.frozen 0
  have g1 := b2.frozen 1
  have g2 := b2.frozen 2
  by_cases h0 : 0 < top
  · rw [if_pos h0]
    have i2 : (0 : Int) < (top : Int) := by omega
    obtain ⟨i, hi⟩ : ∃ i, i = j - 1 := ⟨_, rfl⟩
    have q4 : IntKind.i64.wrap ((j : Int) - 1) = (i : Int) := by rw [IntWalk.i64_in _ (by omega)]; omega
    rw [← hi]
    have q5 := or_bits x i hx64
    clear hjj hb htop hcc hc hlt ht h e hx hi hj1 h0 hx64
    go_enter Tryd.func50, Tryd.ntmps50
    go_wp2
    rw [← hw2]
    clear hw2
    have B2 := Lib.hid B2
    go_region
    go_wp2
    refine bodyPost_ret (v := .agg #[.int .i64 b, .int .i64 (n : Int), .int .u64 ((x ||| 2 ^ i % 18446744073709551616 : Nat) : Int)]) (by simp [results, Tryd.results50, go_sem, d0, d1, d2]) rfl ⟨rfl, ?_⟩
    have B := B2.out
    clear b1 b2 B2 c0 c1 c2 f1 f2 d0 d1 d2 g0 g1 g2
    refine Below.drew (Below.setCell (Below.setCell (Below.setCell (Below.setCell (Below.setCell B (Nat.le_refl _) _) (Nat.le_refl _) _) ?_ _) ?_ _) ?_ _) <;> (show w.heap.size ≤ w.heap.size + 1; omega)
  · rw [if_neg h0]
    have i2 : ¬ (0 : Int) < (top : Int) := by omega
    rw [Nat.or_zero]
    clear hjj hb htop hcc hc hlt ht h e hx hj1 h0 hx64 b1 b2 B2 c0 c1 c2 f1 f2 d0 d1 d2 g0 g1 g2 hw2 w2
    go_enter Tryd.func50, Tryd.ntmps50
    go_wp2
    refine bodyPost_ret (v := .agg #[.int .i64 b, .int .i64 (n : Int), .int .u64 (x : Int)]) (by simp [results, Tryd.results50, go_sem]) rfl ⟨rfl, ?_⟩
    exact step_alloc (step_alloc (Below.refl _ w) _) _
/-- a number that has not come comes -/
theorem with_any (k : Ss.K) (n : Nat) (h : k.Ok) (hn : n ≤ 1099511627776) (hno : k.has n = false) (w : World) : Calls Tryd.prog 50 #[.agg #[.int .i64 (k.boot : Int), .int .i64 (k.top : Int), .int .u64 (k.came : Int)], .int .i64 (n : Int)] w fun e w' => e = .returned (.agg #[.int .i64 ((k.add n).boot : Int), .int .i64 ((k.add n).top : Int), .int .u64 ((k.add n).came : Int)]) ∧ Below w.heap.size w w' := by
  rcases Ss.has_no hno with a | ⟨a, b, _⟩
  · exact with_high k n h a hn w
  · exact with_low k n h a (by omega) w
end Go.Proofs.YtfopjilncfndnaaDoor
