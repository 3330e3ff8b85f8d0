/-
  Sets of blocks as words of 64 bits, part two: put, cut, first, within, lists, joins. Conditions: as each lemma names them.
-/
import Derived.Test.YtcahpodmcklnbaaGreatDoorBitsMath
namespace Go.Proofs.YtcahpodmcklnbaaGreatDoor.Bits

theorem two_pow_lt (b : Nat) (hb : b < 64) : 2 ^ b < 2 ^ 64 := Nat.pow_lt_pow_right (by decide) hb
theorem two_pow_le (b : Nat) (hb : b < 64) : 2 ^ b ≤ 9223372036854775808 := Nat.pow_le_pow_right (n := 2) (i := b) (j := 63) (by decide) (by omega)
theorem put_lt (s b : Nat) (hs : s < 2 ^ 64) (hb : b < 64) : s ||| 2 ^ b < 2 ^ 64 := Nat.or_lt_two_pow hs (two_pow_lt b hb)
theorem put_bit (s b i : Nat) : (s ||| 2 ^ b).testBit i = (s.testBit i || decide (b = i)) := by rw [Nat.testBit_or, Nat.testBit_two_pow]
theorem put_has (s b : Nat) (h : s.testBit b = true) : s ||| 2 ^ b = s := by
  apply Nat.eq_of_testBit_eq
  intro i
  rw [put_bit]
  by_cases hi : b = i
  · subst hi; simp [h]
  · simp [hi]
theorem cut_bit (s b i : Nat) (hb : b < 64) (hi : i < 64) : (s &&& (full - 2 ^ b)).testBit i = (s.testBit i && !decide (b = i)) := by
  rw [andNot_bit _ _ _ (two_pow_lt b hb) hi, Nat.testBit_two_pow]
theorem cut_lt (s b : Nat) (hs : s < 2 ^ 64) : s &&& (full - 2 ^ b) < 2 ^ 64 := by
  have : s &&& (full - 2 ^ b) ≤ s := Nat.and_le_left
  omega
theorem cut_not (s b : Nat) (hs : s < 2 ^ 64) (hb : b < 64) (h : s.testBit b = false) : s &&& (full - 2 ^ b) = s := by
  refine eq_of_bits (cut_lt s b hs) hs fun i hi => ?_
  rw [cut_bit s b i hb hi]
  by_cases e : b = i
  · subst e; simp [h]
  · simp [e]
/-- a bit that is not there is added -/
theorem split_at (s b : Nat) : s = 2 ^ b * (2 * (s / 2 ^ b / 2)) + 2 ^ b * (s / 2 ^ b % 2) + s % 2 ^ b := by
  have h1 := Nat.div_add_mod s (2 ^ b)
  have h2 : s / 2 ^ b = 2 * (s / 2 ^ b / 2) + s / 2 ^ b % 2 := by omega
  rw [← Nat.mul_add, ← h2]
  omega
theorem put_new (s b : Nat) (h : s.testBit b = false) : s ||| 2 ^ b = s + 2 ^ b := by
  have h0 : s / 2 ^ b % 2 = 0 := by
    rw [Nat.testBit_eq_decide_div_mod_eq] at h
    simp at h
    omega
  have hm := Nat.mod_lt s (Nat.two_pow_pos b)
  have hp := Nat.two_pow_pos b
  have e := split_at s b
  rw [h0] at e
  have e2 : s + 2 ^ b = 2 ^ b * (2 * (s / 2 ^ b / 2) + 1) + s % 2 ^ b := by
    rw [Nat.mul_add, Nat.mul_one]; omega
  apply Nat.eq_of_testBit_eq
  intro i
  rw [put_bit, e2, Nat.testBit_two_pow_mul_add _ hm]
  have e3 : s.testBit i = if i < b then (s % 2 ^ b).testBit i else (2 * (s / 2 ^ b / 2)).testBit (i - b) := by
    rw [← Nat.testBit_two_pow_mul_add _ hm]
    congr 1
  rw [e3]
  by_cases hi : i < b
  · rw [if_pos hi, if_pos hi]
    have : ¬ b = i := by omega
    simp [this]
  · rw [if_neg hi, if_neg hi]
    by_cases he : b = i
    · subst he
      simp only [Nat.sub_self, Nat.testBit_zero]
      simp
    · obtain ⟨j, rfl⟩ : ∃ j, i = b + (j + 1) := ⟨i - b - 1, by omega⟩
      have e4 : b + (j + 1) - b = j + 1 := by omega
      have e5 : (2 * (s / 2 ^ b / 2)) / 2 = s / 2 ^ b / 2 := by omega
      have e6 : (2 * (s / 2 ^ b / 2) + 1) / 2 = s / 2 ^ b / 2 := by omega
      rw [e4, Nat.testBit_succ, Nat.testBit_succ, e5, e6]
      simp
theorem cut_has (s b : Nat) (hs : s < 2 ^ 64) (hb : b < 64) (h : s.testBit b = true) : s &&& (full - 2 ^ b) = s - 2 ^ b := by
  have h1 : (s &&& (full - 2 ^ b)) ||| 2 ^ b = s := by
    refine eq_of_bits (put_lt _ _ (cut_lt s b hs) hb) hs fun i hi => ?_
    rw [put_bit, cut_bit s b i hb hi]
    by_cases e : b = i
    · subst e; simp [h]
    · simp [e]
  have h2 : (s &&& (full - 2 ^ b)).testBit b = false := by rw [cut_bit s b b hb hb]; simp
  rw [put_new _ _ h2] at h1
  omega
theorem has_le (s b : Nat) (h : s.testBit b = true) : 2 ^ b ≤ s := Nat.ge_two_pow_of_testBit h
theorem new_lt (s b : Nat) (hs : s < 2 ^ 64) (hb : b < 64) (h : s.testBit b = false) : s + 2 ^ b < 2 ^ 64 := by
  rw [← put_new s b h]; exact put_lt s b hs hb
theorem ones_put (i : Nat) : ones i ||| 2 ^ i = ones (i + 1) := by
  rw [put_new _ _ (by rw [ones_bit]; simp)]
  have := Nat.two_pow_pos i
  unfold ones
  rw [Nat.pow_succ]
  omega

/-- the blocks from one on -/
def rest (s n : Nat) : Nat := s &&& (full - ones n)
def lo (f : Int) : Nat := min f.toNat 64
theorem lo_le (f : Int) : lo f ≤ 64 := Nat.min_le_right _ _
theorem lo_iff (f : Int) (i : Nat) (hi : i < 64) : lo f ≤ i ↔ f ≤ (i : Int) := by unfold lo; omega
theorem rest_lt (s n : Nat) (hs : s < 2 ^ 64) : rest s n < 2 ^ 64 := by
  have : s &&& (full - ones n) ≤ s := Nat.and_le_left
  unfold rest
  omega
theorem rest_bit (s n i : Nat) (hn : n ≤ 64) (hi : i < 64) : (rest s n).testBit i = (s.testBit i && decide (n ≤ i)) := by
  unfold rest
  rw [andNot_bit _ _ _ (ones_lt n hn) hi, ones_bit]
  congr 1
  by_cases h : n ≤ i
  · have h' : ¬ i < n := by omega
    simp [h, h']
  · have h' : i < n := by omega
    simp [h, h']
theorem low_unique {t k : Nat} (ht : t < 2 ^ 64) (h1 : t.testBit k = true) (h2 : ∀ i, i < k → t.testBit i = false) : t ≠ 0 ∧ low t = k := by
  have h0 : t ≠ 0 := by rintro rfl; rw [Nat.zero_testBit] at h1; cases h1
  refine ⟨h0, ?_⟩
  have b := low_bit h0 ht
  rcases Nat.lt_trichotomy (low t) k with h | h | h
  · rw [h2 _ h] at b; cases b
  · exact h
  · rw [low_least h0 ht h] at h1; cases h1
theorem first_hit {s k x : Nat} {f : Int} (hs : s < 2 ^ 64) (hk : (els s)[k]? = some x) (hb : ∀ (j y : Nat), j < k → (els s)[j]? = some y → (y : Int) < f) (hx : f ≤ (x : Int)) :
    rest s (lo f) ≠ 0 ∧ low (rest s (lo f)) = x := by
  have hm : x ∈ els s := List.mem_of_getElem? hk
  have hx64 := els_lt hm
  refine low_unique (rest_lt _ _ hs) ?_ fun i hi => ?_
  · rw [rest_bit _ _ _ (lo_le f) hx64, (mem_els.1 hm).2]
    simpa using (lo_iff f x hx64).2 hx
  · rw [rest_bit _ _ _ (lo_le f) (by omega)]
    cases hbit : s.testBit i with
    | false => rfl
    | true =>
      have hi' : i ∈ els s := mem_els.2 ⟨by omega, hbit⟩
      obtain ⟨j, hj, e⟩ := List.mem_iff_getElem.1 hi'
      have hlt : j < k := by
        apply Nat.lt_of_not_le
        intro hle
        obtain ⟨hk1, hk2⟩ := List.getElem?_eq_some_iff.1 hk
        rcases Nat.lt_or_eq_of_le hle with h | h
        · have := (List.pairwise_iff_getElem.1 (els_sorted s)) k j hk1 hj h
          omega
        · subst h; omega
      have := hb j i hlt (by rw [List.getElem?_eq_getElem hj, e])
      have : ¬ lo f ≤ i := by rw [lo_iff f i (by omega)]; omega
      simp [this]
theorem first_miss {s : Nat} {f : Int} (hs : s < 2 ^ 64) (hb : ∀ (j y : Nat), (els s)[j]? = some y → (y : Int) < f) : rest s (lo f) = 0 := by
  refine eq_of_bits (rest_lt _ _ hs) (by decide) fun i hi => ?_
  rw [rest_bit _ _ _ (lo_le f) hi, Nat.zero_testBit]
  cases hbit : s.testBit i with
  | false => rfl
  | true =>
    obtain ⟨j, hj, e⟩ := List.mem_iff_getElem.1 (mem_els.2 ⟨hi, hbit⟩)
    have := hb j i (by rw [List.getElem?_eq_getElem hj, e])
    have : ¬ lo f ≤ i := by rw [lo_iff f i hi]; omega
    simp [this]
/-- all blocks are below a number just if the last is -/
theorem within_last {s x : Nat} {f : Int} (hs : s < 2 ^ 64) (hx : (els s)[(els s).length - 1]? = some x) : (rest s (lo f) = 0) ↔ (x : Int) < f := by
  constructor
  · intro h
    have hm := List.mem_of_getElem? hx
    have h1 := rest_bit s (lo f) x (lo_le f) (els_lt hm)
    rw [h, Nat.zero_testBit, (mem_els.1 hm).2] at h1
    simp at h1
    have := lo_iff f x (els_lt hm)
    omega
  · intro h
    refine first_miss hs fun j y hj => ?_
    obtain ⟨h1, h2⟩ := List.getElem?_eq_some_iff.1 hj
    obtain ⟨h3, h4⟩ := List.getElem?_eq_some_iff.1 hx
    rcases Nat.lt_or_eq_of_le (show j ≤ (els s).length - 1 by omega) with hlt | he
    · have := (List.pairwise_iff_getElem.1 (els_sorted s)) j _ h1 h3 hlt
      omega
    · subst he; omega
theorem within_none {s : Nat} {f : Int} (hs : s < 2 ^ 64) (h0 : els s = []) : rest s (lo f) = 0 := first_miss hs fun j y h => by rw [h0] at h; cases h

/-- from one block to the next -/
theorem rest_zero (s : Nat) (hs : s < 2 ^ 64) : rest s 0 = s := eq_of_bits (rest_lt _ _ hs) hs fun i hi => by rw [rest_bit s 0 i (by decide) hi]; simp
theorem rest_next (s n : Nat) (hs : s < 2 ^ 64) (hn : n ≤ 64) (h0 : rest s n ≠ 0) : rest s (low (rest s n) + 1) = rest s n &&& (rest s n - 1) := by
  have hl := low_lt h0 (rest_lt s n hs)
  refine eq_of_bits (rest_lt _ _ hs) (clear_lt (rest_lt s n hs)) fun i hi => ?_
  rw [rest_bit s _ i (by omega) hi, clear_bit h0 (rest_lt s n hs)]
  by_cases h : i < low (rest s n)
  · have h1 := low_least h0 (rest_lt s n hs) h
    have : ¬ low (rest s n) + 1 ≤ i := by omega
    simp [h1, this]
  · rw [rest_bit s n i hn hi]
    have hb := low_bit h0 (rest_lt s n hs)
    rw [rest_bit s n _ hn hl] at hb
    simp at hb
    have : n ≤ i := by omega
    by_cases e : i = low (rest s n)
    · simp [e]
    · have : low (rest s n) + 1 ≤ i := by omega
      simp [*]
theorem low_rest_ge (s n : Nat) (hs : s < 2 ^ 64) (hn : n ≤ 64) (h0 : rest s n ≠ 0) : n ≤ low (rest s n) ∧ s.testBit (low (rest s n)) = true := by
  have hb := low_bit h0 (rest_lt s n hs)
  rw [rest_bit s n _ hn (low_lt h0 (rest_lt s n hs))] at hb
  simp at hb
  exact ⟨hb.2, hb.1⟩

/-- the set of a list -/
def ofl (l : List Int) : Nat := l.foldl (fun s b => s ||| 2 ^ b.toNat) 0
def okb (b : Int) : Bool := decide (0 ≤ b ∧ b < 64)
theorem okb_iff {b : Int} : okb b = true ↔ 0 ≤ b ∧ b < 64 := by simp [okb]
theorem ofl_snoc (l : List Int) (b : Int) : ofl (l ++ [b]) = ofl l ||| 2 ^ b.toNat := by simp [ofl]
theorem ofl_fold_lt : ∀ (l : List Int) (s : Nat), s < 2 ^ 64 → (∀ b ∈ l, okb b = true) → l.foldl (fun s b => s ||| 2 ^ b.toNat) s < 2 ^ 64
  | [], _, hs, _ => hs
  | b :: l, s, hs, h => ofl_fold_lt l _ (put_lt s _ hs (by have := okb_iff.1 (h b (List.mem_cons.2 (.inl rfl))); omega)) fun c hc => h c (List.mem_cons.2 (.inr hc))
theorem ofl_lt (l : List Int) (h : ∀ b ∈ l, okb b = true) : ofl l < 2 ^ 64 := ofl_fold_lt l 0 (by decide) h
theorem ofl_fold_bit (i : Nat) : ∀ (l : List Nat) (s : Nat), ((l.map fun n : Nat => (n : Int)).foldl (fun s b => s ||| 2 ^ b.toNat) s).testBit i = (s.testBit i || decide (i ∈ l))
  | [], s => by simp
  | b :: l, s => by
    rw [List.map_cons, List.foldl_cons, ofl_fold_bit i l, put_bit]
    by_cases h : i = b
    · subst h; simp
    · have h' : ¬ b = i := fun e => h e.symm
      simp [h, h']
/-- the blocks of a set, as numbers -/
def ints (s : Nat) : List Int := (els s).map fun n : Nat => (n : Int)
theorem ints_ok (s : Nat) : ∀ b ∈ ints s, okb b = true := by
  intro b hb
  obtain ⟨n, hn, rfl⟩ := List.mem_map.1 hb
  have := els_lt hn
  exact okb_iff.2 ⟨by omega, by omega⟩
theorem ints_length (s : Nat) : (ints s).length = cnt s := by simp [ints, cnt]
theorem ofl_ints (s : Nat) (hs : s < 2 ^ 64) : ofl (ints s) = s := by
  refine eq_of_bits (ofl_lt _ (ints_ok s)) hs fun i hi => ?_
  unfold ofl ints
  rw [ofl_fold_bit, Nat.zero_testBit, Bool.false_or]
  cases h : s.testBit i with
  | true => simpa using mem_els.2 ⟨hi, h⟩
  | false => simp [mem_els, h]
theorem ofl_join (a b : Nat) (ha : a < 2 ^ 64) (hb : b < 2 ^ 64) : ofl (ints a ++ ints b) = a ||| b := by
  have hok : ∀ x ∈ ints a ++ ints b, okb x = true := fun x hx => by
    rcases List.mem_append.1 hx with h | h
    · exact ints_ok a x h
    · exact ints_ok b x h
  refine eq_of_bits (ofl_lt _ hok) (Nat.or_lt_two_pow ha hb) fun i hi => ?_
  unfold ofl ints
  rw [← List.map_append, ofl_fold_bit, Nat.zero_testBit, Bool.false_or, Nat.testBit_or]
  have m : ∀ s : Nat, decide (i ∈ els s) = s.testBit i := fun s => by
    cases h : s.testBit i with
    | true => simpa using mem_els.2 ⟨hi, h⟩
    | false => simp [mem_els, h]
  rw [← m a, ← m b]
  simp
theorem pop_join : ∀ (n a b : Nat), pop n (a ||| b) + pop n (a &&& b) = pop n a + pop n b
  | 0, _, _ => rfl
  | n + 1, a, b => by
    have h1 : (a ||| b) / 2 = a / 2 ||| b / 2 := by
      apply Nat.eq_of_testBit_eq; intro i
      rw [← Nat.testBit_succ, Nat.testBit_or, Nat.testBit_or, Nat.testBit_succ, Nat.testBit_succ]
    have h2 : (a &&& b) / 2 = a / 2 &&& b / 2 := by
      apply Nat.eq_of_testBit_eq; intro i
      rw [← Nat.testBit_succ, Nat.testBit_and, Nat.testBit_and, Nat.testBit_succ, Nat.testBit_succ]
    have h3 : (a ||| b) % 2 + (a &&& b) % 2 = a % 2 + b % 2 := by
      have t := fun x : Nat => Nat.testBit_zero x
      have o := Nat.testBit_or a b 0
      have n := Nat.testBit_and a b 0
      rw [t, t, t, ← Bool.decide_or, decide_eq_decide] at o
      rw [t, t, t, ← Bool.decide_and, decide_eq_decide] at n
      omega
    have ih := pop_join n (a / 2) (b / 2)
    simp only [pop]
    rw [h1, h2]
    omega
theorem cnt_join (a b : Nat) : cnt (a ||| b) + cnt (a &&& b) = cnt a + cnt b := by
  simp only [cnt_pop]; exact pop_join 64 a b
theorem cnt_ones (n : Nat) (hn : n ≤ 64) : cnt (ones n) = n := by
  have h : ∀ n, n < 65 → cnt (ones n) = n := by decide +kernel
  exact h n (by omega)
theorem rest_ones (n : Nat) (hn : n ≤ 64) : rest (ones n) n = 0 := by
  refine eq_of_bits (rest_lt _ _ (ones_lt n hn)) (by decide) fun i hi => ?_
  rw [rest_bit _ _ _ hn hi, ones_bit, Nat.zero_testBit]
  by_cases h : i < n
  · have : ¬ n ≤ i := by omega
    simp [this]
  · simp [h]
end Go.Proofs.YtcahpodmcklnbaaGreatDoor.Bits
