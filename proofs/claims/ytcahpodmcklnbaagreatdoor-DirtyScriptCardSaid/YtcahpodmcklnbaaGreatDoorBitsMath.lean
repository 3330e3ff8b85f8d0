/-
  Sets of blocks as words of 64 bits: plain arithmetic of numbers and lists. Conditions: as each lemma names them.
-/
import Derived.Lib.TrailingZeros
namespace Go.Proofs.YtcahpodmcklnbaaGreatDoor.Bits

/-- the blocks of a set, rising -/
def els (s : Nat) : List Nat := (List.range 64).filter fun i => s.testBit i
def cnt (s : Nat) : Nat := (els s).length
/-- the bits below a number of blocks -/
def ones (n : Nat) : Nat := 2 ^ n - 1
def full : Nat := 18446744073709551615

theorem mem_els {s i : Nat} : i ∈ els s ↔ i < 64 ∧ s.testBit i = true := by simp [els]
theorem els_lt {s i : Nat} (h : i ∈ els s) : i < 64 := (mem_els.1 h).1
theorem els_sorted (s : Nat) : (els s).Pairwise (· < ·) := List.Pairwise.filter _ List.pairwise_lt_range
theorem cnt_le (s : Nat) : cnt s ≤ 64 := by
  have := List.length_filter_le (fun i => s.testBit i) (List.range 64)
  simpa [cnt, els] using this
theorem els_ext {s t : Nat} (h : ∀ i, i < 64 → s.testBit i = t.testBit i) : els s = els t := by
  unfold els
  apply List.filter_congr
  intro i hi
  exact h i (by simpa using hi)
theorem eq_of_bits {s t : Nat} (hs : s < 2 ^ 64) (ht : t < 2 ^ 64) (h : ∀ i, i < 64 → s.testBit i = t.testBit i) : s = t := by
  apply Nat.eq_of_testBit_eq
  intro i
  by_cases hi : i < 64
  · exact h i hi
  · rw [Nat.testBit_lt_two_pow (Nat.lt_of_lt_of_le hs (Nat.pow_le_pow_right (by decide) (by omega))), Nat.testBit_lt_two_pow (Nat.lt_of_lt_of_le ht (Nat.pow_le_pow_right (by decide) (by omega)))]
theorem els_zero : els 0 = [] := by decide +kernel
theorem els_nil {s : Nat} (hs : s < 2 ^ 64) (h : els s = []) : s = 0 := by
  refine eq_of_bits hs (by decide) fun i hi => ?_
  rw [Nat.zero_testBit]
  cases hb : s.testBit i with
  | false => rfl
  | true => have := (mem_els (s := s) (i := i)).2 ⟨hi, hb⟩; rw [h] at this; cases this

/-- the bits that a mask leaves -/
theorem not_bit (m i : Nat) (hm : m < 2 ^ 64) (hi : i < 64) : (full - m).testBit i = !m.testBit i := by
  have e : full - m = 2 ^ 64 - (m + 1) := by unfold full; omega
  rw [e, Nat.testBit_two_pow_sub_succ hm]
  simp [hi]
theorem andNot_bit (s m i : Nat) (hm : m < 2 ^ 64) (hi : i < 64) : (s &&& (full - m)).testBit i = (s.testBit i && !m.testBit i) := by
  rw [Nat.testBit_and, not_bit m i hm hi]
theorem ones_bit (n i : Nat) : (ones n).testBit i = decide (i < n) := Nat.testBit_two_pow_sub_one n i
theorem ones_lt (n : Nat) (hn : n ≤ 64) : ones n < 2 ^ 64 := by
  have := Nat.pow_le_pow_right (n := 2) (by decide) hn
  unfold ones
  have : 0 < 2 ^ n := Nat.two_pow_pos n
  omega
theorem ones_full : ones 64 = full := by decide

/-- the least block -/
def low (s : Nat) : Nat := Lib.ctz 64 s
theorem low_form {s : Nat} (h0 : s ≠ 0) (hs : s < 2 ^ 64) : ∃ m, s = 2 ^ low s * (2 * m + 1) ∧ low s < 64 := by
  obtain ⟨m, hm, hk⟩ := Lib.ctzFrom_spec 64 s (by omega) hs
  have e : low s = Lib.ctzFrom 64 s := by simp [low, Lib.ctz, h0]
  rw [e]
  exact ⟨m, hm, hk⟩
theorem odd_bit (k m i : Nat) : (2 ^ k * (2 * m + 1)).testBit i = (decide (k ≤ i) && (decide (i = k) || m.testBit (i - k - 1))) := by
  rw [Nat.mul_comm, Nat.testBit_mul_two_pow]
  by_cases h : k ≤ i
  · by_cases he : i = k
    · subst he
      simp
    · obtain ⟨j, rfl⟩ : ∃ j, i = k + (j + 1) := ⟨i - k - 1, by omega⟩
      have e3 : k + (j + 1) - k = j + 1 := by omega
      have e4 : k + (j + 1) - k - 1 = j := by omega
      have e5 : (2 * m + 1) / 2 = m := by omega
      rw [e3, Nat.testBit_succ, e5]
      simp
  · simp [h]
theorem low_bit {s : Nat} (h0 : s ≠ 0) (hs : s < 2 ^ 64) : s.testBit (low s) = true := by
  obtain ⟨m, hm, _⟩ := low_form h0 hs
  generalize low s = k at hm ⊢
  rw [hm, odd_bit]
  simp
theorem low_least {s i : Nat} (h0 : s ≠ 0) (hs : s < 2 ^ 64) (hi : i < low s) : s.testBit i = false := by
  obtain ⟨m, hm, _⟩ := low_form h0 hs
  generalize low s = k at hm hi ⊢
  rw [hm, odd_bit]
  simp; omega
theorem low_lt {s : Nat} (h0 : s ≠ 0) (hs : s < 2 ^ 64) : low s < 64 := (low_form h0 hs).choose_spec.2
/-- the lowest bit is cleared -/
theorem clear_bit {s : Nat} (h0 : s ≠ 0) (hs : s < 2 ^ 64) (i : Nat) : (s &&& (s - 1)).testBit i = (s.testBit i && !decide (i = low s)) := by
  obtain ⟨m, hm, hk⟩ := low_form h0 hs
  generalize low s = k at hm hk ⊢
  have h1 : 0 < 2 ^ k := Nat.two_pow_pos k
  have e : s - 1 = 2 ^ k * (2 * m) + (2 ^ k - 1) := by
    rw [hm, Nat.mul_add, Nat.mul_one]
    omega
  have hk1 : 2 ^ k - 1 < 2 ^ k := by omega
  have e2 := Nat.testBit_two_pow_mul_add (2 * m) hk1 i
  have e3 : s.testBit i = (decide (k ≤ i) && (decide (i = k) || m.testBit (i - k - 1))) := by rw [hm, odd_bit]
  rw [Nat.testBit_and, e, e2, e3]
  clear e2 e3 e hm hs h0
  by_cases hi : i < k
  · have : ¬ k ≤ i := by omega
    simp [this]
  · by_cases he : i = k
    · subst he
      simp
    · obtain ⟨j, rfl⟩ : ∃ j, i = k + (j + 1) := ⟨i - k - 1, by omega⟩
      have e3 : k + (j + 1) - k = j + 1 := by omega
      have e4 : k + (j + 1) - k - 1 = j := by omega
      have e5 : (2 * m) / 2 = m := by omega
      rw [if_neg hi, e3, Nat.testBit_succ, e5]
      simp

theorem filter_least {p : Nat → Bool} : ∀ {l : List Nat} {t : Nat}, l.Pairwise (· < ·) → t ∈ l → p t = true → (∀ i, i < t → p i = false) → l.filter p = t :: l.filter fun i => p i && !decide (i = t)
  | [], _, _, h, _, _ => by cases h
  | x :: l, t, hl, h, hp, hn => by
    obtain ⟨h1, h2⟩ := List.pairwise_cons.1 hl
    rcases List.mem_cons.1 h with rfl | h
    · have : ∀ i ∈ l, (p i && !decide (i = t)) = p i := fun i hi => by
        have := h1 i hi
        have : ¬ i = t := by omega
        simp [this]
      rw [List.filter_cons, if_pos hp, List.filter_cons, if_neg (by simp), List.filter_congr this]
    · have hx : x < t := h1 t h
      rw [List.filter_cons, if_neg (by simp [hn x hx]), List.filter_cons, if_neg (by simp [hn x hx]), filter_least h2 h hp hn]
theorem els_low {s : Nat} (h0 : s ≠ 0) (hs : s < 2 ^ 64) : els s = low s :: els (s &&& (s - 1)) := by
  have := filter_least (p := fun i => s.testBit i) (l := List.range 64) (t := low s) List.pairwise_lt_range (by simpa using low_lt h0 hs) (low_bit h0 hs) (fun i hi => low_least h0 hs hi)
  unfold els
  rw [this]
  congr 1
  apply List.filter_congr
  intro i _
  exact (clear_bit h0 hs i).symm
theorem clear_lt {s : Nat} (hs : s < 2 ^ 64) : s &&& (s - 1) < 2 ^ 64 := Nat.and_lt_two_pow _ (by omega)

/-- how many bits of so many places -/
def pop : Nat → Nat → Nat
  | 0, _ => 0
  | n + 1, s => s % 2 + pop n (s / 2)
theorem pop_eq : ∀ (n s : Nat), pop n s = ((List.range n).filter fun i => s.testBit i).length
  | 0, _ => rfl
  | n + 1, s => by
    rw [List.range_succ_eq_map, List.filter_cons, List.filter_map, pop, pop_eq n (s / 2)]
    have e : ((fun i => s.testBit i) ∘ Nat.succ) = fun i => (s / 2).testBit i := by
      funext i; exact Nat.testBit_succ s i
    rw [e]
    by_cases h : s % 2 = 1
    · simp [Nat.testBit_zero, h]; omega
    · have h' : s % 2 = 0 := by omega
      simp [Nat.testBit_zero, h']
theorem cnt_pop (s : Nat) : cnt s = pop 64 s := (pop_eq 64 s).symm
def pop8 (b : Nat) : Nat := pop 8 b
theorem pop_eight (k s : Nat) : pop (k + 8) s = s % 2 + (s / 2 % 2 + (s / 4 % 2 + (s / 8 % 2 + (s / 16 % 2 + (s / 32 % 2 + (s / 64 % 2 + (s / 128 % 2 + pop k (s / 256)))))))) := by
  have e1 : pop (k + 8) s = s % 2 + (s / 2 % 2 + (s / 2 / 2 % 2 + (s / 2 / 2 / 2 % 2 + (s / 2 / 2 / 2 / 2 % 2 + (s / 2 / 2 / 2 / 2 / 2 % 2 + (s / 2 / 2 / 2 / 2 / 2 / 2 % 2 + (s / 2 / 2 / 2 / 2 / 2 / 2 / 2 % 2 + pop k (s / 2 / 2 / 2 / 2 / 2 / 2 / 2 / 2)))))))) := rfl
  rw [e1]; simp only [Nat.div_div_eq_div_mul]
theorem pop8_form (s : Nat) : pop8 s = s % 2 + (s / 2 % 2 + (s / 4 % 2 + (s / 8 % 2 + (s / 16 % 2 + (s / 32 % 2 + (s / 64 % 2 + (s / 128 % 2 + 0))))))) := pop_eight 0 s
theorem pop_byte (n s : Nat) : pop (n + 8) s = pop8 (s % 256) + pop n (s / 256) := by
  have r0 : s % 256 % 2 = s % 2 := by omega
  have r1 : s % 256 / 2 % 2 = s / 2 % 2 := by omega
  have r2 : s % 256 / 4 % 2 = s / 4 % 2 := by omega
  have r3 : s % 256 / 8 % 2 = s / 8 % 2 := by omega
  have r4 : s % 256 / 16 % 2 = s / 16 % 2 := by omega
  have r5 : s % 256 / 32 % 2 = s / 32 % 2 := by omega
  have r6 : s % 256 / 64 % 2 = s / 64 % 2 := by omega
  have r7 : s % 256 / 128 % 2 = s / 128 % 2 := by omega
  rw [pop_eight, pop8_form, r0, r1, r2, r3, r4, r5, r6, r7]
  omega

/-- what an and does, byte by byte -/
theorem and_split (a b c d : Nat) (hb : b < 256) (hd : d < 256) : (a * 256 + b) &&& (c * 256 + d) = (a &&& c) * 256 + (b &&& d) := by
  have hx : b &&& d < 2 ^ 8 := Nat.and_lt_two_pow _ (by omega)
  apply Nat.eq_of_testBit_eq
  intro i
  have t := fun (u v : Nat) (hv : v < 2 ^ 8) => Nat.testBit_two_pow_mul_add u hv i
  rw [Nat.testBit_and, show a * 256 + b = 2 ^ 8 * a + b by omega, show c * 256 + d = 2 ^ 8 * c + d by omega, show (a &&& c) * 256 + (b &&& d) = 2 ^ 8 * (a &&& c) + (b &&& d) by omega, t _ _ (by omega), t _ _ (by omega), t _ _ hx]
  split
  · rw [Nat.testBit_and]
  · rw [Nat.testBit_and]

def m0 : Nat → Nat
  | 0 => 0
  | n + 1 => m0 n * 256 + 85
def m1 : Nat → Nat
  | 0 => 0
  | n + 1 => m1 n * 256 + 51
def m2 : Nat → Nat
  | 0 => 0
  | n + 1 => m2 n * 256 + 15
def st1 (n x : Nat) : Nat := (x / 2 &&& m0 n) + (x &&& m0 n)
def st2 (n x : Nat) : Nat := (x / 4 &&& m1 n) + (x &&& m1 n)
def st3 (n x : Nat) : Nat := (x / 16 + x) &&& m2 n
def b1 (b : Nat) : Nat := (b / 2 &&& 85) + (b &&& 85)
def b2 (b : Nat) : Nat := (b / 4 &&& 51) + (b &&& 51)
def b3 (b : Nat) : Nat := (b / 16 + b) &&& 15
theorem byte1 : ∀ b, b < 256 → ∀ c, c < 2 → (c * 128 + b / 2) &&& 85 = b / 2 &&& 85 := by decide +kernel
theorem byte2 : ∀ b, b < 256 → ∀ c, c < 4 → (c * 64 + b / 4) &&& 51 = b / 4 &&& 51 := by decide +kernel
theorem byte3 : ∀ b, b < 256 → ∀ c, c < 5 → b2 (b1 b) / 16 + b2 (b1 b) + c * 16 < 256 ∧ (b2 (b1 b) / 16 + b2 (b1 b) + c * 16) &&& 15 = b3 (b2 (b1 b)) := by decide +kernel
theorem byte_lt : ∀ b, b < 256 → b1 b < 256 ∧ b2 (b1 b) < 256 ∧ b2 (b1 b) % 16 < 5 ∧ b3 (b2 (b1 b)) = pop8 b ∧ pop8 b ≤ 8 := by decide +kernel
theorem st1_byte (n h b : Nat) (hb : b < 256) : st1 (n + 1) (h * 256 + b) = st1 n h * 256 + b1 b := by
  have e : (h * 256 + b) / 2 = h / 2 * 256 + (h % 2 * 128 + b / 2) := by omega
  show ((h * 256 + b) / 2 &&& (m0 n * 256 + 85)) + ((h * 256 + b) &&& (m0 n * 256 + 85)) = ((h / 2 &&& m0 n) + (h &&& m0 n)) * 256 + b1 b
  rw [e, and_split _ _ _ _ (by omega) (by decide), and_split _ _ _ _ hb (by decide), byte1 b hb (h % 2) (by omega)]
  unfold b1
  omega
theorem st2_byte (n h b : Nat) (hb : b < 256) : st2 (n + 1) (h * 256 + b) = st2 n h * 256 + b2 b := by
  have e : (h * 256 + b) / 4 = h / 4 * 256 + (h % 4 * 64 + b / 4) := by omega
  show ((h * 256 + b) / 4 &&& (m1 n * 256 + 51)) + ((h * 256 + b) &&& (m1 n * 256 + 51)) = ((h / 4 &&& m1 n) + (h &&& m1 n)) * 256 + b2 b
  rw [e, and_split _ _ _ _ (by omega) (by decide), and_split _ _ _ _ hb (by decide), byte2 b hb (h % 4) (by omega)]
  unfold b2
  omega
theorem st3_byte (n h b : Nat) (hb : b < 256) (hh : h % 16 < 5) : st3 (n + 1) (h * 256 + b2 (b1 b)) = st3 n h * 256 + b3 (b2 (b1 b)) := by
  have hx := (byte_lt b hb).2.1
  obtain ⟨h1, h2⟩ := byte3 b hb (h % 16) hh
  have e : (h * 256 + b2 (b1 b)) / 16 + (h * 256 + b2 (b1 b)) = (h / 16 + h) * 256 + (b2 (b1 b) / 16 + b2 (b1 b) + h % 16 * 16) := by omega
  show ((h * 256 + b2 (b1 b)) / 16 + (h * 256 + b2 (b1 b))) &&& (m2 n * 256 + 15) = ((h / 16 + h) &&& m2 n) * 256 + b3 (b2 (b1 b))
  rw [e, and_split _ _ _ _ h1 (by decide), h2]
def F (n x : Nat) : Nat := st3 n (st2 n (st1 n x))
theorem F_low (n h : Nat) : st2 n (st1 n h) % 16 < 5 := by
  cases n with
  | zero => simp [st2, m1]
  | succ n =>
    have e : h = h / 256 * 256 + h % 256 := by omega
    have hb : h % 256 < 256 := by omega
    obtain ⟨k1, k2, k3, _⟩ := byte_lt _ hb
    rw [e, st1_byte _ _ _ hb, st2_byte _ _ _ k1]
    omega
theorem F_byte (n x : Nat) : F (n + 1) x = F n (x / 256) * 256 + pop8 (x % 256) := by
  have e : x = x / 256 * 256 + x % 256 := by omega
  have hb : x % 256 < 256 := by omega
  obtain ⟨k1, k2, k3, k4, _⟩ := byte_lt _ hb
  unfold F
  rw [← k4]
  conv => lhs; rw [e]
  rw [st1_byte _ _ _ hb, st2_byte _ _ _ k1, st3_byte _ _ _ hb (F_low n _)]
theorem pop8_le (b : Nat) (h : b < 256) : pop8 b ≤ 8 := (byte_lt b h).2.2.2.2

/-- the bytes' sums, and what is left of them in the lowest seven bits -/
theorem sum8 (a b c d e f g h : Nat) (ha : a ≤ 8) (hb : b ≤ 8) (hc : c ≤ 8) (hd : d ≤ 8) (he : e ≤ 8) (hf : f ≤ 8) (hg : g ≤ 8) (hh : h ≤ 8) (x y z t : Nat)
    (hx : x = (((((((0 * 256 + h) * 256 + g) * 256 + f) * 256 + e) * 256 + d) * 256 + c) * 256 + b) * 256 + a) (hy : y = x + x / 256) (hz : z = y + y / 65536) (ht : t = z + z / 4294967296) :
    t < 18446744073709551616 ∧ t % 128 = a + (b + (c + (d + (e + (f + (g + (h + 0))))))) := by
  have hx1 : x / 256 = ((((((0 * 256 + h) * 256 + g) * 256 + f) * 256 + e) * 256 + d) * 256 + c) * 256 + b := by omega
  have hy1 : y = (((((((h) * 256 + (g + h)) * 256 + (f + g)) * 256 + (e + f)) * 256 + (d + e)) * 256 + (c + d)) * 256 + (b + c)) * 256 + (a + b) := by omega
  clear hx hx1 hy
  have hy2 : y / 65536 = (((((h) * 256 + (g + h)) * 256 + (f + g)) * 256 + (e + f)) * 256 + (d + e)) * 256 + (c + d) := by omega
  have hz1 : z = (((((((h) * 256 + (g + h)) * 256 + (f + g + h)) * 256 + (e + f + g + h)) * 256 + (d + e + f + g)) * 256 + (c + d + e + f)) * 256 + (b + c + d + e)) * 256 + (a + b + c + d) := by omega
  clear hy1 hy2 hz
  have hz2 : z / 4294967296 = (((h) * 256 + (g + h)) * 256 + (f + g + h)) * 256 + (e + f + g + h) := by omega
  omega

theorem F8 (s x : Nat) (hx : x = F 8 s) : x < 2 ^ 60 ∧ x + x / 256 < 2 ^ 61 ∧ x + x / 256 + (x + x / 256) / 65536 < 2 ^ 62 ∧
    (x + x / 256 + (x + x / 256) / 65536) + (x + x / 256 + (x + x / 256) / 65536) / 4294967296 < 2 ^ 63 ∧
    ((x + x / 256 + (x + x / 256) / 65536) + (x + x / 256 + (x + x / 256) / 65536) / 4294967296) % 128 = cnt s := by
  have h0 : F 0 (s / 256 / 256 / 256 / 256 / 256 / 256 / 256 / 256) = 0 := by simp [F, st3, m2]
  have p0 : pop 0 (s / 256 / 256 / 256 / 256 / 256 / 256 / 256 / 256) = 0 := rfl
  rw [F_byte, F_byte, F_byte, F_byte, F_byte, F_byte, F_byte, F_byte, h0] at hx
  rw [cnt_pop, show (64 : Nat) = 0 + 8 + 8 + 8 + 8 + 8 + 8 + 8 + 8 from rfl, pop_byte, pop_byte, pop_byte, pop_byte, pop_byte, pop_byte, pop_byte, pop_byte, p0]
  have k := fun y => pop8_le (y % 256) (by omega)
  have q := sum8 _ _ _ _ _ _ _ _ (k s) (k (s / 256)) (k (s / 256 / 256)) (k (s / 256 / 256 / 256)) (k (s / 256 / 256 / 256 / 256)) (k (s / 256 / 256 / 256 / 256 / 256)) (k (s / 256 / 256 / 256 / 256 / 256 / 256)) (k (s / 256 / 256 / 256 / 256 / 256 / 256 / 256)) x _ _ _ hx rfl rfl rfl
  have hl : x < 2 ^ 60 := by
    have := k s; have := k (s / 256); have := k (s / 256 / 256); have := k (s / 256 / 256 / 256); have := k (s / 256 / 256 / 256 / 256); have := k (s / 256 / 256 / 256 / 256 / 256); have := k (s / 256 / 256 / 256 / 256 / 256 / 256); have := k (s / 256 / 256 / 256 / 256 / 256 / 256 / 256)
    clear k q p0 h0
    omega
  exact ⟨hl, by omega, by omega, by omega, q.2⟩
theorem m0_8 : m0 8 = 6148914691236517205 := by decide
theorem m1_8 : m1 8 = 3689348814741910323 := by decide
theorem m2_8 : m2 8 = 1085102592571150095 := by decide
end Go.Proofs.YtcahpodmcklnbaaGreatDoor.Bits
