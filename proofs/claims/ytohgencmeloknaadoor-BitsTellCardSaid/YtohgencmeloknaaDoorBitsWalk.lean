/-
  Package bits: what its functions return. Conditions: the library's table lies as its text lays it; sets are words of 64 bits.
-/
import Derived.Test.YtohgencmeloknaaDoorBitsSets
import Derived.Test.YtohgencmeloknaaDoorRow
import Derived.Outline
import Derived.WalkKit
import Derived.Lib.Hide
import Derived.Laws.BitsAllLaws
namespace Go.Proofs.YtohgencmeloknaaDoor
open Go.RowKit Bits

theorem isBlock_yes (b : Int) (w : World) (h1 : 0 ≤ b) (h2 : b < 64) :
    Calls Tryd.prog 29 #[.int .i64 b] w fun e w' => e = .returned (.bool true) ∧ w = w' := by
  go_enter Tryd.func29, Tryd.ntmps29
  go_wp2
  go_ret
  exact ⟨rfl, rfl⟩
theorem isBlock_no (b : Int) (w : World) (h : b < 0 ∨ 64 ≤ b) :
    Calls Tryd.prog 29 #[.int .i64 b] w fun e w' => e = .returned (.bool false) ∧ w = w' := by
  rcases h with h | h
  · go_enter Tryd.func29, Tryd.ntmps29
    go_wp2
    go_ret
    exact ⟨rfl, rfl⟩
  · have h' : 0 ≤ b := by omega
    have h2 : ¬ b < 64 := by omega
    go_enter Tryd.func29, Tryd.ntmps29
    go_wp2
    go_ret
    exact ⟨rfl, rfl⟩
theorem wrap_u64 (n : Int) (h1 : 0 ≤ n) (h2 : n < 18446744073709551616) : IntKind.u64.wrap n = n := by rw [IntKind.wrap_u64]; omega
theorem below_num (n : Int) : IntKind.u64.wrap (IntKind.u64.wrap (2 ^ min n.toNat 64) - 1) = (ones (lo n) : Int) := by
  have e : (2 : Int) ^ min n.toNat 64 = ((2 ^ lo n : Nat) : Int) := by rw [Int.natCast_pow]; rfl
  have h0 := Nat.two_pow_pos (lo n)
  rw [e, IntKind.wrap_u64, IntKind.wrap_u64]
  unfold ones
  by_cases h : lo n = 64
  · rw [h]; decide
  · have h1 : 2 ^ lo n < 2 ^ 64 := Nat.pow_lt_pow_right (by decide) (by have := lo_le n; omega)
    generalize 2 ^ lo n = q at h0 h1 ⊢
    omega
theorem below_any (n : Int) (w : World) :
    Calls Tryd.prog 30 #[.int .i64 n] w fun e w' => e = .returned (.int .u64 (ones (lo n) : Int)) ∧ w = w' := by
  have hn := below_num n
  by_cases h : 0 ≤ n
  · go_enter Tryd.func30, Tryd.ntmps30
    go_wp2
    go_ret
    exact ⟨rfl, rfl⟩
  · have e : ones (lo n) = 0 := by
      have : lo n = 0 := by unfold lo; omega
      rw [this]; rfl
    rw [e]
    clear hn e
    go_enter Tryd.func30, Tryd.ntmps30
    go_wp2
    go_ret
    exact ⟨rfl, rfl⟩
theorem shl_num (b : Nat) (hb : b < 64) : IntKind.u64.wrap (2 ^ b) = ((2 ^ b : Nat) : Int) := by
  have h1 := two_pow_lt b hb
  have e : (2 : Int) ^ b = ((2 ^ b : Nat) : Int) := by rw [Int.natCast_pow]; rfl
  rw [e]
  generalize 2 ^ b = q at h1 ⊢
  exact wrap_u64 _ (by omega) (by omega)
theorem has_num (s b : Nat) (hs : s < 2 ^ 64) : (bits .and .u64 ((s : Int) / 2 ^ b) 1 == 1) = s.testBit b := by
  have e : (s : Int) / 2 ^ b = ((s / 2 ^ b : Nat) : Int) := by rw [Int.natCast_ediv, Int.natCast_pow]; rfl
  have h1 : s / 2 ^ b ≤ s := Nat.div_le_self _ _
  rw [e, show (1 : Int) = ((1 : Nat) : Int) from rfl, u64_and_nat _ 1 (by omega) (by decide), nat_mask1, Nat.testBit_eq_decide_div_mod_eq]
  rw [Bool.eq_iff_iff]
  simp
  omega
theorem put_num (s b : Nat) (hs : s < 2 ^ 64) (hb : b < 64) : bits .or .u64 (s : Int) (IntKind.u64.wrap (2 ^ b)) = ((s ||| 2 ^ b : Nat) : Int) := by
  rw [shl_num b hb]; exact u64_or_nat _ _ (by omega) (two_pow_lt b hb)
theorem cut_num (s b : Nat) (hs : s < 2 ^ 64) (hb : b < 64) : bits .andNot .u64 (s : Int) (IntKind.u64.wrap (2 ^ b)) = ((s &&& (full - 2 ^ b) : Nat) : Int) := by
  rw [shl_num b hb]; exact u64_andNot_nat _ _ (by omega) (two_pow_lt b hb)
theorem has_in (s : Nat) (b : Nat) (hs : s < 2 ^ 64) (hb : b < 64) (w : World) :
    Calls Tryd.prog 18 #[.int .u64 (s : Int), .int .i64 (b : Int)] w fun e w' => e = .returned (.bool (s.testBit b)) ∧ w = w' := by
  have hn := has_num s b hs
  go_enter Tryd.func18, Tryd.ntmps18
  go_wp2_with (go_at_call 29; refine (isBlock_yes _ _ (by omega) (by omega)).mono ?_; rintro e w' ⟨rfl, rfl⟩)
  go_ret
  exact ⟨rfl, rfl⟩
theorem has_out (s : Int) (b : Int) (hb : b < 0 ∨ 64 ≤ b) (w : World) :
    Calls Tryd.prog 18 #[.int .u64 s, .int .i64 b] w fun e w' => e = .returned (.bool false) ∧ w = w' := by
  go_enter Tryd.func18, Tryd.ntmps18
  go_wp2_with (go_at_call 29; refine (isBlock_no _ _ hb).mono ?_; rintro e w' ⟨rfl, rfl⟩)
  go_ret
  exact ⟨rfl, rfl⟩
theorem put_in (s : Nat) (b : Nat) (hs : s < 2 ^ 64) (hb : b < 64) (w : World) :
    Calls Tryd.prog 8 #[.int .u64 (s : Int), .int .i64 (b : Int)] w fun e w' => e = .returned (.tuple #[.int .u64 ((s ||| 2 ^ b : Nat) : Int), .int .i64 0]) ∧ w = w' := by
  have hn := put_num s b hs hb
  go_enter Tryd.func8, Tryd.ntmps8
  go_wp2_with (go_at_call 29; refine (isBlock_yes _ _ (by omega) (by omega)).mono ?_; rintro e w' ⟨rfl, rfl⟩)
  go_ret2
  exact ⟨rfl, rfl⟩
theorem put_out (s : Int) (b : Int) (hb : b < 0 ∨ 64 ≤ b) (w : World) :
    Calls Tryd.prog 8 #[.int .u64 s, .int .i64 b] w fun e w' => e = .returned (.tuple #[.int .u64 0, .int .i64 5]) ∧ w = w' := by
  go_enter Tryd.func8, Tryd.ntmps8
  go_wp2_with (go_at_call 29; refine (isBlock_no _ _ hb).mono ?_; rintro e w' ⟨rfl, rfl⟩)
  go_ret2
  exact ⟨rfl, rfl⟩
theorem cut_in (s : Nat) (b : Nat) (hs : s < 2 ^ 64) (hb : b < 64) (w : World) :
    Calls Tryd.prog 10 #[.int .u64 (s : Int), .int .i64 (b : Int)] w fun e w' => e = .returned (.tuple #[.int .u64 ((s &&& (full - 2 ^ b) : Nat) : Int), .int .i64 0]) ∧ w = w' := by
  have hn := cut_num s b hs hb
  go_enter Tryd.func10, Tryd.ntmps10
  go_wp2_with (go_at_call 29; refine (isBlock_yes _ _ (by omega) (by omega)).mono ?_; rintro e w' ⟨rfl, rfl⟩)
  go_ret2
  exact ⟨rfl, rfl⟩
theorem cut_out (s : Int) (b : Int) (hb : b < 0 ∨ 64 ≤ b) (w : World) :
    Calls Tryd.prog 10 #[.int .u64 s, .int .i64 b] w fun e w' => e = .returned (.tuple #[.int .u64 0, .int .i64 5]) ∧ w = w' := by
  go_enter Tryd.func10, Tryd.ntmps10
  go_wp2_with (go_at_call 29; refine (isBlock_no _ _ hb).mono ?_; rintro e w' ⟨rfl, rfl⟩)
  go_ret2
  exact ⟨rfl, rfl⟩

theorem i64_low7 (x : Nat) (hx : x < 9223372036854775808) : bits .and .i64 (x : Int) 127 = ((x % 128 : Nat) : Int) := by
  have h1 : (BitVec.ofInt 64 (x : Int)).toNat = x := ofInt_u64 x (by omega)
  show IntKind.i64.wrap ((BitVec.ofInt 64 (x : Int) &&& BitVec.ofInt 64 127).toNat : Int) = _
  rw [BitVec.toNat_and, h1, show (BitVec.ofInt 64 127).toNat = 127 from by decide, Nat.and_two_pow_sub_one_eq_mod x 7, IntKind.wrap_i64]
  omega
theorem onesCount_any (s : Nat) (hs : s < 2 ^ 64) (w : World) :
    Calls Tryd.prog 32 #[.int .u64 (s : Int)] w fun e w' => e = .returned (.int .i64 (cnt s : Int)) ∧ w = w' := by
  obtain ⟨x1, h1⟩ : ∃ x, x = st1 8 s := ⟨_, rfl⟩
  obtain ⟨x2, h2⟩ : ∃ x, x = st2 8 x1 := ⟨_, rfl⟩
  obtain ⟨x3, h3⟩ : ∃ x, x = st3 8 x2 := ⟨_, rfl⟩
  obtain ⟨x4, h4⟩ : ∃ x, x = x3 + x3 / 256 := ⟨_, rfl⟩
  obtain ⟨x5, h5⟩ : ∃ x, x = x4 + x4 / 65536 := ⟨_, rfl⟩
  obtain ⟨x6, h6⟩ : ∃ x, x = x5 + x5 / 4294967296 := ⟨_, rfl⟩
  obtain ⟨f1, f2, f3, f4, f5⟩ := F8 s x3 (by rw [h3, h2, h1]; rfl)
  rw [← h4] at f2 f3 f4 f5
  rw [← h5] at f3 f4 f5
  rw [← h6] at f4 f5
  have a0 : ∀ x : Nat, x &&& m0 8 ≤ 6148914691236517205 := fun x => by rw [m0_8]; exact Nat.and_le_right
  have a1 : ∀ x : Nat, x &&& m1 8 ≤ 3689348814741910323 := fun x => by rw [m1_8]; exact Nat.and_le_right
  have b1 : x1 ≤ 12297829382473034410 := by rw [h1, st1]; have := a0 (s / 2); have := a0 s; omega
  have b2 : x2 ≤ 7378697629483820646 := by rw [h2, st2]; have := a1 (x1 / 4); have := a1 x1; omega
  have q1 : IntKind.u64.wrap (bits .and .u64 ((s : Int) / 2) 6148914691236517205 + bits .and .u64 (s : Int) 6148914691236517205) = (x1 : Int) := by
    have e1 := u64_and_nat (s / 2) 6148914691236517205 (by omega) (by decide)
    have e2 := u64_and_nat s 6148914691236517205 (by omega) (by decide)
    rw [show (s : Int) / 2 = ((s / 2 : Nat) : Int) by omega]
    rw [show (6148914691236517205 : Int) = ((6148914691236517205 : Nat) : Int) from rfl, e1, e2, ← m0_8, ← Int.natCast_add, wrap_u64 _ (by omega) (by have := a0 (s / 2); have := a0 s; omega), h1]
    rfl
  have q2 : IntKind.u64.wrap (bits .and .u64 ((x1 : Int) / 4) 3689348814741910323 + bits .and .u64 (x1 : Int) 3689348814741910323) = (x2 : Int) := by
    have e1 := u64_and_nat (x1 / 4) 3689348814741910323 (by omega) (by decide)
    have e2 := u64_and_nat x1 3689348814741910323 (by omega) (by decide)
    rw [show (x1 : Int) / 4 = ((x1 / 4 : Nat) : Int) by omega]
    rw [show (3689348814741910323 : Int) = ((3689348814741910323 : Nat) : Int) from rfl, e1, e2, ← m1_8, ← Int.natCast_add, wrap_u64 _ (by omega) (by have := a1 (x1 / 4); have := a1 x1; omega), h2]
    rfl
  have q3 : bits .and .u64 (IntKind.u64.wrap ((x2 : Int) / 16 + (x2 : Int))) 1085102592571150095 = (x3 : Int) := by
    have e1 := u64_and_nat (x2 / 16 + x2) 1085102592571150095 (by omega) (by decide)
    rw [wrap_u64 _ (by omega) (by omega), show (x2 : Int) / 16 + (x2 : Int) = ((x2 / 16 + x2 : Nat) : Int) by omega]
    rw [show (1085102592571150095 : Int) = ((1085102592571150095 : Nat) : Int) from rfl, e1, ← m2_8, h3]
    rfl
  have q4 : IntKind.u64.wrap ((x3 : Int) + (x3 : Int) / 256) = (x4 : Int) := by rw [wrap_u64 _ (by omega) (by omega), h4]; omega
  have q5 : IntKind.u64.wrap ((x4 : Int) + (x4 : Int) / 65536) = (x5 : Int) := by rw [wrap_u64 _ (by omega) (by omega), h5]; omega
  have q6 : IntKind.u64.wrap ((x5 : Int) + (x5 : Int) / 4294967296) = (x6 : Int) := by rw [wrap_u64 _ (by omega) (by omega), h6]; omega
  have q7 : bits .and .i64 (x6 : Int) 127 = (cnt s : Int) := by rw [i64_low7 x6 (by omega), f5]
  have g6 : x6 ≤ 9223372036854775807 := by omega
  clear h1 h2 h3 h4 h5 h6 f1 f2 f3 f4 f5 a0 a1 b1 b2
  go_enter Tryd.func32, Tryd.ntmps32
  go_wp2
  go_ret
  exact ⟨rfl, rfl⟩
theorem count_any (s : Nat) (hs : s < 2 ^ 64) (w : World) :
    Calls Tryd.prog 17 #[.int .u64 (s : Int)] w fun e w' => e = .returned (.int .i64 (cnt s : Int)) ∧ w = w' := by
  go_enter Tryd.func17, Tryd.ntmps17
  go_wp2_with (go_at_call 32; refine (onesCount_any _ hs _).mono ?_; rintro e w' ⟨rfl, rfl⟩)
  go_ret
  exact ⟨rfl, rfl⟩

/-- the library's table lies as it must -/
def TzAt (w : World) : Prop := ∀ i, i < 64 → w.cell? ⟨0, i, none⟩ = some (.int .u8 ((Lib.deBruijn64tab.getD i 0 : Nat) : Int))
theorem tz_any (s : Nat) (h0 : s ≠ 0) (hs : s < 2 ^ 64) (w : World) (ht : TzAt w) :
    Calls Tryd.prog 31 #[.int .u64 (s : Int)] w fun e w' => e = .returned (.int .i64 (low s : Int)) ∧ w = w' := by
  obtain ⟨hlow, hk⟩ := Lib.lowest_bit 64 s h0 hs
  obtain ⟨hi, htab⟩ := Lib.deBruijn64_at _ hk
  have hcell := ht _ hi
  rw [htab] at hcell
  obtain ⟨idx, hidx⟩ : ∃ i, i = 2 ^ Lib.ctz 64 s * 285870213051353865 % 18446744073709551616 / 288230376151711744 := ⟨_, rfl⟩
  rw [← hidx] at hcell hi
  have q1 : IntKind.u64.wrap (bits .and .u64 (s : Int) (IntKind.u64.wrap (-(s : Int))) * 285870213051353865) / 288230376151711744 = (idx : Int) := by
    have e1 : IntKind.u64.wrap (-(s : Int)) = ((18446744073709551616 - s : Nat) : Int) := by rw [IntKind.wrap_u64]; omega
    rw [e1, u64_and_nat s _ hs (by omega), hlow, IntKind.wrap_u64, hidx]
    generalize 2 ^ Lib.ctz 64 s = a
    omega
  have g0 : ((s : Int) == 0) = false := by simp; omega
  show Calls _ _ _ _ fun e w' => e = .returned (.int .i64 (Lib.ctz 64 s : Int)) ∧ w = w'
  clear hlow htab hidx ht h0
  go_enter Tryd.func31, Tryd.ntmps31
  go_wp2_with (simp only [q1])
  go_ret
  exact ⟨rfl, rfl⟩
theorem TzAt.lt {w : World} (h : TzAt w) : 0 < w.heap.size := by
  have h0 := h 0 (by decide)
  rcases Nat.lt_or_ge 0 w.heap.size with hlt | hge
  · exact hlt
  · simp [World.cell?, Array.getElem?_eq_none hge] at h0
theorem TzAt.below {w w' : World} {B : Nat} (h : TzAt w) (hb : Below B w w') (hB : w.heap.size ≤ B) : TzAt w' := fun i hi => (hb.cell (p := ⟨0, i, none⟩) (Nat.lt_of_lt_of_le h.lt hB)).trans (h i hi)
theorem TzAt.drewN {w : World} (h : TzAt w) (n : Nat) : TzAt (w.drewN n) := h
theorem TzAt.alloc {w : World} (h : TzAt w) (o : Obj) : TzAt (w.alloc o) := h.below ((Below.refl _ _).alloc (Nat.le_refl _) o) (Nat.le_refl _)

theorem first_none (s : Nat) (f : Int) (hs : s < 2 ^ 64) (h0 : rest s (lo f) = 0) (w : World) :
    Calls Tryd.prog 12 #[.int .u64 (s : Int), .int .i64 f] w fun e w' => e = .returned (.tuple #[.int .i64 0, .bool false]) ∧ w = w' := by
  have q1 : bits .andNot .u64 (s : Int) (ones (lo f) : Int) = 0 := by
    rw [u64_andNot_nat s _ hs (ones_lt _ (lo_le f))]
    exact congrArg Nat.cast h0
  clear h0
  go_enter Tryd.func12, Tryd.ntmps12
  go_wp2_with (go_at_call 30; refine (below_any _ _).mono ?_; rintro e w' ⟨rfl, rfl⟩)
  go_ret2
  exact ⟨rfl, rfl⟩
theorem first_some (s : Nat) (f : Int) (hs : s < 2 ^ 64) (h0 : rest s (lo f) ≠ 0) (w : World) (ht : TzAt w) :
    Calls Tryd.prog 12 #[.int .u64 (s : Int), .int .i64 f] w fun e w' => e = .returned (.tuple #[.int .i64 (low (rest s (lo f)) : Int), .bool true]) ∧ w = w' := by
  have q1 : bits .andNot .u64 (s : Int) (ones (lo f) : Int) = (rest s (lo f) : Int) := u64_andNot_nat s _ hs (ones_lt _ (lo_le f))
  have q2 : ((rest s (lo f) : Int) == 0) = false := by simp; omega
  have H0 := Lib.hid h0
  clear h0
  go_enter Tryd.func12, Tryd.ntmps12
  go_wp2_with (first
    | (go_at_call 30; refine (below_any _ _).mono ?_; rintro e w' ⟨rfl, rfl⟩)
    | (go_at_call 31; refine (tz_any _ H0.out (rest_lt _ _ hs) _ ht).mono ?_; rintro e w' ⟨rfl, rfl⟩))
  go_ret2
  exact ⟨rfl, rfl⟩
theorem all_in (n : Int) (h1 : 0 ≤ n) (h2 : n ≤ 64) (w : World) :
    Calls Tryd.prog 24 #[.int .i64 n] w fun e w' => e = .returned (.tuple #[.int .u64 (ones (lo n) : Int), .int .i64 0]) ∧ w = w' := by
  have h3 : ¬ 64 < n := by omega
  go_enter Tryd.func24, Tryd.ntmps24
  go_wp2_with (go_at_call 30; refine (below_any _ _).mono ?_; rintro e w' ⟨rfl, rfl⟩)
  go_ret2
  exact ⟨rfl, rfl⟩
theorem all_out (n : Int) (h : n < 0 ∨ 64 < n) (w : World) :
    Calls Tryd.prog 24 #[.int .i64 n] w fun e w' => e = .returned (.tuple #[.int .u64 0, .int .i64 5]) ∧ w = w' := by
  rcases h with h | h
  · go_enter Tryd.func24, Tryd.ntmps24
    go_wp2
    go_ret2
    exact ⟨rfl, rfl⟩
  · have h3 : ¬ n < 0 := by omega
    go_enter Tryd.func24, Tryd.ntmps24
    go_wp2
    go_ret2
    exact ⟨rfl, rfl⟩
/-- are all blocks below a number? -/
def inB (s : Nat) (f : Int) : Bool := rest s (lo f) == 0
theorem within_any (s : Nat) (f : Int) (hs : s < 2 ^ 64) (w : World) :
    Calls Tryd.prog 20 #[.int .u64 (s : Int), .int .i64 f] w fun e w' => e = .returned (.bool (inB s f)) ∧ w = w' := by
  have q1 : (bits .andNot .u64 (s : Int) (ones (lo f) : Int) == 0) = inB s f := by
    rw [u64_andNot_nat s _ hs (ones_lt _ (lo_le f))]
    unfold inB rest full
    rw [Bool.eq_iff_iff]
    simp
  go_enter Tryd.func20, Tryd.ntmps20
  go_wp2_with (go_at_call 30; refine (below_any _ _).mono ?_; rintro e w' ⟨rfl, rfl⟩)
  go_ret
  exact ⟨rfl, rfl⟩

theorem elInts : Elem Tryd.prog 28 3 (.int .i64 0) 8 := ⟨Tryd.underlying28, ⟨_, rfl, by kernel_rfl, by kernel_rfl, by kernel_rfl⟩, rfl, rfl⟩
def ListPost (s : Nat) (w : World) (e : Ending) (w' : World) : Prop :=
  ∃ A c, e = .returned (.slice A (cnt s) c) ∧ cnt s ≤ c ∧ c ≤ maxLen ∧ OwnR 3 w' w.heap.size (.slice A (cnt s) c) (iv (ints s)) ∧ Below w.heap.size w w'
theorem ints_low {s : Nat} (h0 : s ≠ 0) (hs : s < 2 ^ 64) : ints s = (low s : Int) :: ints (s &&& (s - 1)) := by
  unfold ints
  rw [els_low h0 hs]
  rfl
theorem clear_num (r : Nat) (h0 : r ≠ 0) (hr : r < 2 ^ 64) : bits .and .u64 (r : Int) (IntKind.u64.wrap ((r : Int) - 1)) = ((r &&& (r - 1) : Nat) : Int) := by
  rw [wrap_u64 _ (by omega) (by omega), show (r : Int) - 1 = ((r - 1 : Nat) : Int) by omega]
  exact u64_and_nat _ _ hr (by omega)
theorem list_any (s : Nat) (hs : s < 2 ^ 64) (w : World) (ht : TzAt w) :
    Calls Tryd.prog 14 #[.int .u64 (s : Int)] w (ListPost s w) := by
  have hc := cnt_le s
  have hmk := make_row elInts 0 (cnt s) (Nat.zero_le _) (by omega) (by unfold maxLen; omega)
  simp only [Int.natCast_zero] at hmk
  have h0 := fun w => made_own w 3 (.int .i64 0) (cnt s) w.heap.size (by unfold maxLen; omega) (Nat.le_refl _)
  have H0 := Lib.hid h0
  clear h0
  go_enter Tryd.func14, Tryd.ntmps14
  go_wp2_with (go_at_call 17; refine (count_any _ hs _).mono ?_; rintro e w' ⟨rfl, rfl⟩)
  clear hmk
  go_loopw [3, 4] (fun v r wr => ∃ (q : Nat) (l : List Int), q < 2 ^ 64 ∧ r = .int .u64 (q : Int) ∧ l ++ ints q = ints s ∧ OwnR 3 wr w.heap.size v (iv l) ∧ Below w.heap.size w wr) (fun _ r _ => cnt (intOf r).toNat)
  case atStart => exact ⟨s, [], hs, rfl, rfl, H0.out w, (Below.refl _ _).alloc (Nat.le_refl _) _⟩
  case round =>
    obtain ⟨q, l, hq, rfl, hl, hown, hbel⟩ := hrel
    by_cases hq0 : q = 0
    · subst hq0
      obtain ⟨A, c, rfl, hlc, hcm⟩ := hown.form
      have e1 : l = ints s := by rw [← hl]; simp [ints, els_zero]
      have e2 : (iv l).length = cnt s := by rw [iv_length, e1, ints_length]
      have HE := Lib.hid (And.intro e1 e2)
      clear e1 e2 hl
      go_wp2
      go_ret
      obtain ⟨e1, e2⟩ := HE.out
      rw [e2, e1] at hown
      rw [e2] at hlc ⊢
      exact ⟨A, c, rfl, hlc, hcm, hown, hbel⟩
    · have g0 : ((q : Int) == 0) = false := by simp; omega
      have g1 : ((q : Int) != 0) = true := by simp; omega
      have hcl := clear_num q hq0 hq
      have hl1 := ints_low hq0 hq
      have HL := Lib.hid (And.intro hl hl1)
      have HQ := Lib.hid hq0
      clear hl hl1 hq0
      go_wp2_with (first
        | (go_at_call 31; refine (tz_any _ HQ.out hq _ (ht.below hbel (Nat.le_refl _))).mono ?_; rintro e w' ⟨rfl, rfl⟩)
        | (at_builtin; refine wpList_appendR rfl (.tmp 15) (.tmp 18) elInts rfl w.heap.size _ (iv l) rfl (hown.alloc _) _ (iv [(low q : Int)]) 1 1 (wr.heap.size + 1) rfl rfl ?c1 (iv_one _) ?c2 ?c3 ?c4 ?c5; rotate_left 4; (intro v' w' ho hg hat)))
      · go_roundw
        case rel =>
          obtain ⟨hl, hl1⟩ := HL.out
          refine ⟨q &&& (q - 1), l ++ [(low q : Int)], clear_lt hq, rfl, ?_, ?_, ?_⟩
          · rw [← hl, hl1, List.append_assoc]; rfl
          · rw [iv_append]; exact ho
          · exact grown_belowR (hbel.alloc hbel.size _) hg (by have := hbel.size; simp; omega) (hown.alloc _) (Nat.le_refl _)
        case measure =>
          have e := els_low HQ.out hq
          simp only [intOf, Int.toNat_natCast]
          unfold cnt
          rw [e]
          simp
      case c1 => exact (BlkR.new wr (iv [(low q : Int)]) 3).row ⟨[], (List.append_nil _).symm⟩ (Nat.lt_succ_self _)
      case c2 =>
        have h1 := congrArg List.length HL.out.1
        rw [List.length_append, ints_length, ints_length] at h1
        rw [iv_length, iv_length]; unfold maxLen; simp; omega
      case c3 =>
        have h1 := congrArg List.length HL.out.1
        rw [List.length_append, ints_length, ints_length] at h1
        rw [iv_length, iv_length]; simp; omega
      case c4 => have := hbel.size; simp; omega

/-- a slice of numbers, as a list of them -/
theorem of_good (A : Option Addr) (l : List Int) (n c B : Nat) (hn : l.length = n) (w : World) (hm : l.length ≤ 1000000) (hr : RowAt w B A (iv l)) (hl : ∀ b ∈ l, okb b = true) :
    Calls Tryd.prog 26 #[.slice A n c] w fun e w' => e = .returned (.tuple #[.int .u64 (ofl l : Int), .int .i64 0]) ∧ w = w' := by
  subst hn
  go_enter Tryd.func26, Tryd.ntmps26
  go_wp2
  go_loop [4, 11] (fun s i => ∃ k : Nat, k ≤ l.length ∧ i = .int .i64 (k : Int) ∧ s = .int .u64 (ofl (l.take k) : Int)) (fun _ i => l.length - (intOf i).toNat)
  case atStart => exact ⟨0, Nat.zero_le _, rfl, rfl⟩
  case round =>
    obtain ⟨k, hk, rfl, rfl⟩ := hrel
    by_cases hlt : k < l.length
    · have hb := okb_iff.1 (hl _ (List.getElem_mem hlt))
      obtain ⟨b, hb0⟩ : ∃ b : Nat, l.getD k 0 = (b : Int) := ⟨(l.getD k 0).toNat, by rw [List.getD_eq_getElem?_getD, List.getElem?_eq_getElem hlt]; simp; omega⟩
      have hb1 : b < 64 := by rw [List.getD_eq_getElem?_getD, List.getElem?_eq_getElem hlt] at hb0; simp at hb0; omega
      obtain ⟨ad, rfl, _, hcell⟩ := hr.at_ (iv_get l k hlt)
      rw [hb0] at hcell
      have hs := ofl_lt (l.take k) fun x hx => hl x (List.mem_of_mem_take hx)
      have e1 : ofl (l.take (k + 1)) = ofl (l.take k) ||| 2 ^ b := by
        rw [List.take_succ_eq_append_getElem hlt, ofl_snoc]
        rw [List.getD_eq_getElem?_getD, List.getElem?_eq_getElem hlt] at hb0
        simp at hb0
        rw [hb0, Int.toNat_natCast]
      obtain ⟨s, hs0⟩ : ∃ s, s = ofl (l.take k) := ⟨_, rfl⟩
      rw [← hs0] at hs e1 ⊢
      have HE := Lib.hid e1
      clear e1 hr hl hb hb0 hs0
      go_wp2_with (go_at_call 8; refine (put_in s b hs hb1 _).mono ?_; rintro e w' ⟨rfl, rfl⟩)
      go_round
      case rel => exact ⟨k + 1, by omega, by go_num, by rw [HE.out]⟩
      case measure => simp [intOf]; omega
    · obtain rfl : k = l.length := by omega
      rw [List.take_length]
      go_wp2
      go_ret2
      exact ⟨rfl, rfl⟩
theorem of_bad (A : Option Addr) (l : List Int) (n c B : Nat) (hn : l.length = n) (w : World) (hm : l.length ≤ 1000000) (hr : RowAt w B A (iv l)) (hl : ¬ ∀ b ∈ l, okb b = true) :
    Calls Tryd.prog 26 #[.slice A n c] w fun e w' => e = .returned (.tuple #[.int .u64 0, .int .i64 5]) ∧ w = w' := by
  subst hn
  go_enter Tryd.func26, Tryd.ntmps26
  go_wp2
  go_loop [4, 11] (fun s i => ∃ k : Nat, k ≤ l.length ∧ i = .int .i64 (k : Int) ∧ (∀ b ∈ l.take k, okb b = true) ∧ s = .int .u64 (ofl (l.take k) : Int)) (fun _ i => l.length - (intOf i).toNat)
  case atStart => exact ⟨0, Nat.zero_le _, rfl, fun b hb => (by rw [List.take_zero] at hb; cases hb), rfl⟩
  case round =>
    obtain ⟨k, hk, rfl, hok, rfl⟩ := hrel
    by_cases hlt : k < l.length
    · obtain ⟨ad, rfl, _, hcell⟩ := hr.at_ (iv_get l k hlt)
      have hs := ofl_lt (l.take k) hok
      by_cases hb : okb (l.getD k 0) = true
      · have hb' := okb_iff.1 hb
        obtain ⟨b, hb0⟩ : ∃ b : Nat, l.getD k 0 = (b : Int) := ⟨(l.getD k 0).toNat, by omega⟩
        have hb1 : b < 64 := by omega
        have hok1 : ∀ x ∈ l.take (k + 1), okb x = true := fun x hx => by
          rw [List.take_succ_eq_append_getElem hlt] at hx
          rcases List.mem_append.1 hx with h | h
          · exact hok x h
          · rw [List.getD_eq_getElem?_getD, List.getElem?_eq_getElem hlt] at hb
            simp at h hb
            rw [h]; exact hb
        have e1 : ofl (l.take (k + 1)) = ofl (l.take k) ||| 2 ^ b := by
          rw [List.take_succ_eq_append_getElem hlt, ofl_snoc]
          rw [List.getD_eq_getElem?_getD, List.getElem?_eq_getElem hlt] at hb0
          simp at hb0
          rw [hb0, Int.toNat_natCast]
        rw [hb0] at hcell
        obtain ⟨s, hs0⟩ : ∃ s, s = ofl (l.take k) := ⟨_, rfl⟩
        rw [← hs0] at hs e1 ⊢
        have HE := Lib.hid (And.intro e1 hok1)
        clear e1 hok1 hok hr hl hb hb' hb0 hs0
        go_wp2_with (go_at_call 8; refine (put_in s b hs hb1 _).mono ?_; rintro e w' ⟨rfl, rfl⟩)
        go_round
        case rel => exact ⟨k + 1, by omega, by go_num, HE.out.2, by rw [HE.out.1]⟩
        case measure => simp [intOf]; omega
      · have hb' : l.getD k 0 < 0 ∨ 64 ≤ l.getD k 0 := by rw [okb_iff] at hb; omega
        obtain ⟨b, hb0⟩ : ∃ b, b = l.getD k 0 := ⟨_, rfl⟩
        rw [← hb0] at hb' hcell
        clear hok hr hl hb hb0
        go_wp2_with (go_at_call 8; refine (put_out _ b hb' _).mono ?_; rintro e w' ⟨rfl, rfl⟩)
        go_ret2
        exact ⟨rfl, rfl⟩
    · obtain rfl : k = l.length := by omega
      rw [List.take_length] at hok
      exact absurd hok hl
end Go.Proofs.YtohgencmeloknaaDoor
