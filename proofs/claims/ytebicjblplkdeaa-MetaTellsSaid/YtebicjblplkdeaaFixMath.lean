/-
  Numbers as bytes, the lowest one first: plain mathematics. Conditions: none.
-/
namespace Go.Proofs.Ytebicjblplkdeaa.Fix

/-- the number that bytes are -/
def le : List UInt8 → Nat
  | [] => 0
  | c :: r => c.toNat + 256 * le r
/-- the lowest bytes of a number -/
def dig (n k : Nat) : List UInt8 := (List.range k).map fun i => UInt8.ofNat (n / 256 ^ i)

theorem le_append (a b : List UInt8) : le (a ++ b) = le a + 256 ^ a.length * le b := by
  induction a with
  | nil => simp [le]
  | cons c r ih =>
    simp only [List.cons_append, le, List.length_cons, ih, Nat.pow_succ]
    rw [Nat.mul_add, ← Nat.mul_assoc, Nat.mul_comm 256 (256 ^ r.length)]
    omega
theorem le_lt (l : List UInt8) : le l < 256 ^ l.length := by
  induction l with
  | nil => simp [le]
  | cons c r ih =>
    have := c.toNat_lt
    simp only [le, List.length_cons, Nat.pow_succ]
    omega
theorem le_take (l : List UInt8) (k : Nat) (hk : k < l.length) : le (l.take (k + 1)) = le (l.take k) + 256 ^ k * (l.getD k 0).toNat := by
  rw [List.take_succ_eq_append_getElem hk, le_append]
  simp [le, hk, Nat.min_eq_left (Nat.le_of_lt hk)]
theorem le_drop (l : List UInt8) (k : Nat) (hk : k < l.length) : le (l.drop k) = (l.getD k 0).toNat + 256 * le (l.drop (k + 1)) := by
  rw [List.drop_eq_getElem_cons hk]
  simp [le, hk]
theorem le_take_lt (l : List UInt8) (k : Nat) (hk : k ≤ l.length) : le (l.take k) < 256 ^ k := by
  have := le_lt (l.take k)
  rwa [List.length_take, Nat.min_eq_left hk] at this
theorem pow256 (k : Nat) : 256 ^ k = 2 ^ (8 * k) := by rw [show 256 = 2 ^ 8 from rfl, ← Nat.pow_mul]
theorem or_step (n c k : Nat) (h : n < 256 ^ k) : n ||| (c * 2 ^ (8 * k)) = n + 256 ^ k * c := by
  rw [pow256] at h ⊢
  rw [Nat.or_comm, Nat.mul_comm c, ← Nat.two_pow_add_eq_or_of_lt h]
  omega

theorem dig_length (n k : Nat) : (dig n k).length = k := by simp [dig]
theorem dig_zero (n : Nat) : dig n 0 = [] := rfl
theorem dig_succ (n k : Nat) : dig n (k + 1) = dig n k ++ [UInt8.ofNat (n / 256 ^ k)] := by simp [dig, List.range_succ]
theorem dig_cons (n k : Nat) : dig n (k + 1) = UInt8.ofNat n :: dig (n / 256) k := by
  unfold dig
  rw [List.range_succ_eq_map, List.map_cons, List.map_map]
  simp only [Nat.pow_zero, Nat.div_one, List.cons.injEq, true_and]
  refine List.map_congr_left fun i _ => ?_
  simp only [Function.comp, Nat.pow_succ, Nat.succ_eq_add_one]
  rw [Nat.div_div_eq_div_mul, Nat.mul_comm (256 ^ i) 256]
theorem dig_take (n j k : Nat) (h : j ≤ k) : (dig n k).take j = dig n j := by
  unfold dig
  rw [← List.map_take, List.take_range, Nat.min_eq_left h]
theorem dig_getD (n k i : Nat) (h : i < k) : (dig n k).getD i 0 = UInt8.ofNat (n / 256 ^ i) := by
  simp [dig, h]
theorem le_dig (n k : Nat) : le (dig n k) = n % 256 ^ k := by
  induction k generalizing n with
  | zero => simp [dig, le, Nat.mod_one]
  | succ k ih =>
    rw [dig_cons, le, ih, Nat.pow_succ, Nat.mul_comm (256 ^ k) 256, Nat.mod_mul]
    simp
theorem le_dig_self (n k : Nat) (h : n < 256 ^ k) : le (dig n k) = n := by rw [le_dig, Nat.mod_eq_of_lt h]
theorem dig_le (l : List UInt8) : dig (le l) l.length = l := by
  induction l with
  | nil => rfl
  | cons c r ih =>
    have h := c.toNat_lt
    rw [List.length_cons, dig_cons, le]
    have e1 : (c.toNat + 256 * le r) / 256 = le r := by omega
    rw [e1, ih]
    congr 1
    apply UInt8.toNat_inj.1
    simp
/-- the number of the lower half, of the upper one -/
theorem dig_halves (n : Nat) : dig n 8 = dig (n % 4294967296) 4 ++ dig (n / 4294967296) 4 := by
  have e : ∀ m k, dig m k = (List.range k).map fun i => UInt8.ofNat (m / 256 ^ i) := fun _ _ => rfl
  simp only [dig_cons, dig_zero, List.cons_append, List.nil_append, List.cons.injEq, and_true]
  refine ⟨?_, ?_, ?_, ?_, ?_, ?_, ?_, ?_⟩ <;> (apply UInt8.toNat_inj.1; simp only [UInt8.toNat_ofNat']; omega)
/-- more bytes of a number that fewer have: noughts behind -/
theorem dig_zeros (n k j : Nat) (h : n < 256 ^ k) : dig n (k + j) = dig n k ++ List.replicate j 0 := by
  induction j with
  | zero => simp
  | succ j ih =>
    have h2 : n / 256 ^ (k + j) = 0 := Nat.div_eq_of_lt (Nat.lt_of_lt_of_le h (Nat.pow_le_pow_right (by decide) (by omega)))
    rw [← Nat.add_assoc, dig_succ, ih, h2, List.replicate_succ', List.append_assoc]
    rfl
end Go.Proofs.Ytebicjblplkdeaa.Fix
