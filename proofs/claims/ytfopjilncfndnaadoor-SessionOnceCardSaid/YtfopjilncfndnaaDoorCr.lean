/-
  Several texts in one (CrcMath, CrcWalk, CrcLaid). Conditions: as each says.
-/
import Derived.KernelRfl
import Derived.Test.YtfopjilncfndnaaDoorBa
import Derived.Outline
import Derived.Lib.SlBytesConst
import Derived.Laws.BitsAllLaws
import Derived.Test.YtfopjilncfndnaaDoorShell
import Derived.Deep.DeepHandedRow
import Derived.Lib.LaidTab
/-
  The checksum as plain arithmetic on natural numbers: bit by bit, nibble by nibble, and of all bits at once; no program is spoken of. Conditions: none.
-/
namespace Go.Proofs.YtfopjilncfndnaaDoor.Crc

/-- one bit's move -/
def mv (c : Nat) : Nat := if c % 2 = 1 then (c / 2) ^^^ 3988292384 else c / 2
/-- so many moves -/
def mvs : Nat → Nat → Nat
  | 0, c => c
  | k + 1, c => mvs k (mv c)
/-- bytes as one number, the first byte lowest -/
def num : List UInt8 → Nat
  | [] => 0
  | x :: r => x.toNat + 256 * num r
/-- the walk over bytes -/
def byteStep (c : Nat) (x : UInt8) : Nat := mvs 8 (c ^^^ x.toNat)
def run (c : Nat) (l : List UInt8) : Nat := l.foldl byteStep c
theorem run_nil (c : Nat) : run c [] = c := rfl
theorem run_cons (c : Nat) (x : UInt8) (r : List UInt8) : run c (x :: r) = run (byteStep c x) r := rfl
theorem run_snoc (c : Nat) (l : List UInt8) (x : UInt8) : run c (l ++ [x]) = byteStep (run c l) x := by simp [run, List.foldl_append]
def ones : Nat := 4294967295
def more (s : Nat) (l : List UInt8) : Nat := run (s ^^^ ones) l ^^^ ones
def sum (l : List UInt8) : Nat := more 0 l

theorem xor_half (a b : Nat) : (a ^^^ b) / 2 = (a / 2) ^^^ (b / 2) := by
  have := Nat.xor_div_two_pow (a := a) (b := b) (n := 1)
  simpa using this
theorem xor_low (a b : Nat) : (a ^^^ b) % 2 = (a % 2 + b % 2) % 2 := by
  have h := Nat.xor_mod_two_pow (a := a) (b := b) (n := 1)
  simp only [Nat.pow_one] at h
  rw [h]
  rcases Nat.mod_two_eq_zero_or_one a with ha | ha <;> rcases Nat.mod_two_eq_zero_or_one b with hb | hb <;> rw [ha, hb]
  · rfl
  · rfl
  · rfl
  · rfl
theorem x32 {a b : Nat} (ha : a < 4294967296) (hb : b < 4294967296) : a ^^^ b < 4294967296 := by
  have := Nat.xor_lt_two_pow (n := 32) (x := a) (y := b) (by omega) (by omega)
  omega
theorem mv_xor (a b : Nat) : mv (a ^^^ b) = mv a ^^^ mv b := by
  unfold mv
  rw [xor_half, xor_low]
  rcases Nat.mod_two_eq_zero_or_one a with ha | ha <;> rcases Nat.mod_two_eq_zero_or_one b with hb | hb <;> rw [ha, hb]
  · simp
  · simp only [Nat.zero_add, Nat.one_mod, if_true, if_neg (by decide : ¬ (0 = 1)), Nat.xor_assoc]
  · simp only [Nat.add_zero, Nat.one_mod, if_true, if_neg (by decide : ¬ (0 = 1)), Nat.xor_assoc]
    rw [Nat.xor_comm 3988292384]
  · have e : ((1 + 1) % 2 = 1) = False := by simp
    simp only [e, if_false, if_true]
    rw [Nat.xor_assoc, Nat.xor_comm 3988292384, Nat.xor_assoc, Nat.xor_self, Nat.xor_zero]
theorem mvs_xor (k a b : Nat) : mvs k (a ^^^ b) = mvs k a ^^^ mvs k b := by
  induction k generalizing a b with
  | zero => rfl
  | succ k ih => simp only [mvs, mv_xor, ih]
theorem mv_zero : mv 0 = 0 := by decide
theorem mvs_zero (k : Nat) : mvs k 0 = 0 := by
  induction k with
  | zero => rfl
  | succ k ih => simp only [mvs, mv_zero, ih]
theorem mv_lt {c : Nat} (h : c < 4294967296) : mv c < 4294967296 := by
  unfold mv
  split
  · exact x32 (by omega) (by omega)
  · omega
theorem mvs_lt (k : Nat) {c : Nat} (h : c < 4294967296) : mvs k c < 4294967296 := by
  induction k generalizing c with
  | zero => exact h
  | succ k ih => exact ih (mv_lt h)
theorem mv_double (b : Nat) : mv (2 * b) = b := by unfold mv; rw [if_neg (by omega)]; omega
theorem mvs_high (k b : Nat) : mvs k (2 ^ k * b) = b := by
  induction k generalizing b with
  | zero => simp [mvs]
  | succ k ih =>
    have e : 2 ^ (k + 1) * b = 2 * (2 ^ k * b) := by rw [Nat.pow_succ]; rw [Nat.mul_assoc, Nat.mul_left_comm]
    rw [mvs, e, mv_double, ih]
theorem mvs_add (j k c : Nat) : mvs (j + k) c = mvs k (mvs j c) := by
  induction j generalizing c with
  | zero => simp [mvs]
  | succ j ih => rw [Nat.succ_add]; simp only [mvs, ih]

/-- a low part and a high part, put together by xor -/
theorem low_xor (k a b : Nat) (h : a < 2 ^ k) : a + 2 ^ k * b = a ^^^ (2 ^ k * b) := by
  apply Nat.eq_of_testBit_eq
  intro i
  rw [Nat.testBit_xor, Nat.add_comm, Nat.testBit_two_pow_mul_add b h, Nat.testBit_two_pow_mul]
  by_cases hi : i < k
  · simp [hi, show ¬ k ≤ i by omega]
  · simp only [hi, if_false, show k ≤ i by omega, decide_true, Bool.true_and]
    rw [Nat.testBit_lt_two_pow (Nat.lt_of_lt_of_le h (Nat.pow_le_pow_right (by decide) (by omega)))]
    simp
theorem split_xor (k c : Nat) : c = (c % 2 ^ k) ^^^ (2 ^ k * (c / 2 ^ k)) := by
  rw [← low_xor k _ _ (Nat.mod_lt _ (Nat.two_pow_pos k))]
  exact (Nat.mod_add_div c (2 ^ k)).symm

/-- what four moves make of half a byte -/
def tab (i : Nat) : Nat := mvs 4 i
theorem mvs4 (c : Nat) : mvs 4 c = (c / 16) ^^^ tab (c % 16) := by
  have h : mvs 4 c = mvs 4 ((c % 16) ^^^ (16 * (c / 16))) := congrArg _ (split_xor 4 c)
  rw [h, mvs_xor, show mvs 4 (16 * (c / 16)) = c / 16 from mvs_high 4 _, Nat.xor_comm]
  rfl
theorem mvs8 (c : Nat) : mvs 8 c = mvs 4 (mvs 4 c) := mvs_add 4 4 c

theorem run_append (c : Nat) (a b : List UInt8) : run c (a ++ b) = run (run c a) b := List.foldl_append
theorem run_lt {c : Nat} (h : c < 4294967296) (l : List UInt8) : run c l < 4294967296 := by
  induction l generalizing c with
  | nil => exact h
  | cons x r ih => rw [run_cons]; exact ih (mvs_lt 8 (x32 h (by have := x.toNat_lt; omega)))
theorem more_lt {s : Nat} (h : s < 4294967296) (l : List UInt8) : more s l < 4294967296 :=
  x32 (run_lt (x32 h (by decide)) l) (by decide)
theorem sum_lt (l : List UInt8) : sum l < 4294967296 := more_lt (by decide) l
theorem more_append (s : Nat) (a b : List UInt8) : more s (a ++ b) = more (more s a) b := by
  simp only [more, run_append, Nat.xor_assoc, Nat.xor_self, Nat.xor_zero]
theorem sum_append (a b : List UInt8) : sum (a ++ b) = more (sum a) b := more_append 0 a b

/-- all at once -/
theorem run_eq (l : List UInt8) (c : Nat) : run c l = mvs (8 * l.length) (c ^^^ num l) := by
  induction l generalizing c with
  | nil => simp [run_nil, num, mvs]
  | cons x r ih =>
    have hx : x.toNat < 2 ^ 8 := x.toNat_lt
    have e1 : num (x :: r) = x.toNat ^^^ (2 ^ 8 * num r) := low_xor 8 _ _ hx
    have e2 : 8 * (x :: r).length = 8 + 8 * r.length := by simp only [List.length_cons]; omega
    rw [run_cons, byteStep, ih, e2, mvs_add, e1, ← Nat.xor_assoc, mvs_xor 8 (c ^^^ x.toNat) (2 ^ 8 * num r), mvs_high]

theorem mv_inj {a b : Nat} (ha : a < 4294967296) (hb : b < 4294967296) (h : mv a = mv b) : a = b := by
  unfold mv at h
  have key : ∀ x y : Nat, x < 4294967296 → y < 4294967296 → (x / 2) ^^^ 3988292384 = y / 2 → False := by
    intro x y hx hy e
    have e3 : (y / 2) ^^^ (x / 2) = 3988292384 := by rw [← e, Nat.xor_comm, ← Nat.xor_assoc, Nat.xor_self, Nat.zero_xor]
    have : (y / 2) ^^^ (x / 2) < 2147483648 := Nat.xor_lt_two_pow (n := 31) (by omega) (by omega)
    omega
  rcases Nat.mod_two_eq_zero_or_one a with pa | pa <;> rcases Nat.mod_two_eq_zero_or_one b with pb | pb
  · rw [if_neg (by omega), if_neg (by omega)] at h; omega
  · rw [if_neg (by omega), if_pos pb] at h; exact (key b a hb ha h.symm).elim
  · rw [if_pos pa, if_neg (by omega)] at h; exact (key a b ha hb h).elim
  · rw [if_pos pa, if_pos pb] at h
    have := congrArg (· ^^^ 3988292384) h
    simp only [Nat.xor_assoc, Nat.xor_self, Nat.xor_zero] at this
    omega
theorem mvs_inj (k : Nat) {a b : Nat} (ha : a < 4294967296) (hb : b < 4294967296) (h : mvs k a = mvs k b) : a = b := by
  induction k generalizing a b with
  | zero => exact h
  | succ k ih => exact mv_inj ha hb (ih (mv_lt ha) (mv_lt hb) h)

theorem xor_cancel_left (a : Nat) {b c : Nat} (h : a ^^^ b = a ^^^ c) : b = c := by
  have := congrArg (a ^^^ ·) h
  simpa only [← Nat.xor_assoc, Nat.xor_self, Nat.zero_xor] using this
theorem xor_cancel_right (a : Nat) {b c : Nat} (h : b ^^^ a = c ^^^ a) : b = c := by
  rw [Nat.xor_comm b, Nat.xor_comm c] at h; exact xor_cancel_left a h

/-- bits turned within 32 in a row: another checksum -/
theorem sum_burst (a b : List UInt8) (hl : a.length = b.length) (f m : Nat) (hm : m ≠ 0) (hm32 : m < 4294967296) (hf : f ≤ 8 * a.length)
    (h : num b = num a ^^^ (2 ^ f * m)) : sum b ≠ sum a := by
  intro e
  have e1 := xor_cancel_right ones e
  rw [run_eq, run_eq, ← hl, h, ← Nat.xor_assoc, mvs_xor] at e1
  have e2 : mvs (8 * a.length) (2 ^ f * m) = 0 := by
    have := congrArg (mvs (8 * a.length) (0 ^^^ ones ^^^ num a) ^^^ ·) e1
    simpa only [← Nat.xor_assoc, Nat.xor_self, Nat.zero_xor] using this
  obtain ⟨k, hk⟩ : ∃ k, 8 * a.length = f + k := ⟨_, (Nat.add_sub_cancel' hf).symm⟩
  rw [hk, mvs_add, mvs_high] at e2
  exact hm (mvs_inj k hm32 (by decide) (e2.trans (mvs_zero k).symm))

theorem xor3 (a b c x y z : Nat) : (a ^^^ x) ^^^ (b ^^^ y) ^^^ (c ^^^ z) = (a ^^^ b ^^^ c) ^^^ (x ^^^ y ^^^ z) := by
  apply Nat.eq_of_testBit_eq
  intro i
  simp only [Nat.testBit_xor]
  cases a.testBit i <;> cases b.testBit i <;> cases c.testBit i <;> cases x.testBit i <;> cases y.testBit i <;> cases z.testBit i <;> rfl

theorem num_cons (u : UInt8) (l : List UInt8) : num (u :: l) = u.toNat ^^^ (2 ^ 8 * num l) := low_xor 8 _ _ u.toNat_lt
theorem mul_xor (k p q : Nat) : 2 ^ k * (p ^^^ q) = (2 ^ k * p) ^^^ (2 ^ k * q) := by
  apply Nat.eq_of_testBit_eq
  intro i
  simp only [Nat.testBit_two_pow_mul, Nat.testBit_xor]
  by_cases hi : i ≥ k <;> simp [hi]
/-- some bits of one byte turned -/
theorem num_set (l : List UInt8) (i : Nat) (b : UInt8) (hi : i < l.length) : num (l.set i (l.getD i 0 ^^^ b)) = num l ^^^ (2 ^ (8 * i) * b.toNat) := by
  induction l generalizing i with
  | nil => simp at hi
  | cons x r ih =>
    cases i with
    | zero =>
      rw [List.set_cons_zero, List.getD_cons_zero, num_cons, num_cons, UInt8.toNat_xor, Nat.mul_zero, Nat.pow_zero, Nat.one_mul, Nat.xor_assoc, Nat.xor_comm b.toNat, Nat.xor_assoc]
    | succ i =>
      rw [List.set_cons_succ, List.getD_cons_succ, num_cons, num_cons, ih i (by simpa using hi), mul_xor, ← Nat.mul_assoc, ← Nat.pow_add, Nat.xor_assoc]
      congr 3
      congr 1
      omega
def oneBit (p : Nat) : UInt8 := UInt8.ofNat (2 ^ (p % 8))
theorem oneBit_toNat (p : Nat) : (oneBit p).toNat = 2 ^ (p % 8) := by
  have : 2 ^ (p % 8) < 2 ^ 8 := Nat.pow_lt_pow_right (by decide) (by omega)
  simp only [oneBit, UInt8.toNat_ofNat']
  exact Nat.mod_eq_of_lt this
theorem num_turn (l : List UInt8) (p : Nat) (hp : p / 8 < l.length) : num (l.set (p / 8) (l.getD (p / 8) 0 ^^^ oneBit p)) = num l ^^^ 2 ^ p := by
  rw [num_set l _ _ hp, oneBit_toNat, ← Nat.pow_add]
  congr 2
  omega
theorem mask_one (m j : Nat) (h : m / 2 ^ j % 2 = 1) : m % 2 ^ (j + 1) = (m % 2 ^ j) ^^^ 2 ^ j := by
  have e : m % 2 ^ (j + 1) = m % 2 ^ j + 2 ^ j * 1 := by
    rw [Nat.pow_succ, Nat.mod_mul, h]
  rw [e, low_xor j _ _ (Nat.mod_lt _ (Nat.two_pow_pos j)), Nat.mul_one]
theorem mask_zero (m j : Nat) (h : ¬ m / 2 ^ j % 2 = 1) : m % 2 ^ (j + 1) = m % 2 ^ j := by
  have h0 : m / 2 ^ j % 2 = 0 := by omega
  rw [Nat.pow_succ, Nat.mod_mul, h0]
  omega
/-- one bit more of the mask -/
theorem mask_step (n f m j : Nat) (h : m / 2 ^ j % 2 = 1) : (n ^^^ (2 ^ f * (m % 2 ^ j))) ^^^ 2 ^ (f + j) = n ^^^ (2 ^ f * (m % 2 ^ (j + 1))) := by
  rw [mask_one m j h, mul_xor, ← Nat.pow_add, Nat.xor_assoc]

/-- three texts xored -/
def xor3l : List UInt8 → List UInt8 → List UInt8 → List UInt8
  | x :: a, y :: b, z :: c => (x ^^^ y ^^^ z) :: xor3l a b c
  | _, _, _ => []
theorem num_xor3 (a b c : List UInt8) (h1 : a.length = b.length) (h2 : a.length = c.length) : num (xor3l a b c) = num a ^^^ num b ^^^ num c := by
  induction a generalizing b c with
  | nil =>
    obtain rfl := List.eq_nil_of_length_eq_zero (h1.symm)
    obtain rfl := List.eq_nil_of_length_eq_zero (h2.symm)
    rfl
  | cons x a ih =>
    match b, c, h1, h2 with
    | y :: b, z :: c, h1, h2 =>
      have h1' : a.length = b.length := by simpa using h1
      have h2' : a.length = c.length := by simpa using h2
      have e : ∀ (u : UInt8) (l : List UInt8), num (u :: l) = u.toNat ^^^ (2 ^ 8 * num l) := fun u l => low_xor 8 _ _ u.toNat_lt
      have hmul : ∀ p q : Nat, 2 ^ 8 * (p ^^^ q) = (2 ^ 8 * p) ^^^ (2 ^ 8 * q) := fun p q => by
        apply Nat.eq_of_testBit_eq
        intro i
        simp only [Nat.testBit_two_pow_mul, Nat.testBit_xor]
        by_cases hi : i ≥ 8 <;> simp [hi]
      simp only [xor3l, e, ih b c h1' h2', hmul, UInt8.toNat_xor]
      rw [xor3]
theorem length_xor3 (a b c : List UInt8) (h1 : a.length = b.length) (h2 : a.length = c.length) : (xor3l a b c).length = a.length := by
  induction a generalizing b c with
  | nil => simp [xor3l]
  | cons x a ih =>
    match b, c, h1, h2 with
    | y :: b, z :: c, h1, h2 => simp only [xor3l, List.length_cons, ih b c (by simpa using h1) (by simpa using h2)]
theorem sum_xor3 (a b c : List UInt8) (h1 : a.length = b.length) (h2 : a.length = c.length) : sum (xor3l a b c) = sum a ^^^ sum b ^^^ sum c := by
  unfold sum more
  rw [xor3, run_eq, run_eq, run_eq, run_eq, length_xor3 a b c h1 h2, num_xor3 a b c h1 h2, ← h1, ← h2, ← mvs_xor, ← mvs_xor, xor3]
  simp only [Nat.xor_self, Nat.zero_xor]

theorem xor3l_snoc (a b c : List UInt8) (k : Nat) (ha : k < a.length) (hb : k < b.length) (hc : k < c.length) :
    xor3l (a.take (k + 1)) (b.take (k + 1)) (c.take (k + 1)) = xor3l (a.take k) (b.take k) (c.take k) ++ [a.getD k 0 ^^^ b.getD k 0 ^^^ c.getD k 0] := by
  induction k generalizing a b c with
  | zero =>
    match a, b, c, ha, hb, hc with
    | x :: a, y :: b, z :: c, _, _, _ => simp [xor3l]
  | succ k ih =>
    match a, b, c, ha, hb, hc with
    | x :: a, y :: b, z :: c, ha, hb, hc =>
      have := ih a b c (by simpa using ha) (by simpa using hb) (by simpa using hc)
      simp only [List.take_succ_cons, xor3l, this, List.cons_append, List.getD_cons_succ]

/-- a checksum as four bytes, the lowest one first -/
def word (n : Nat) : List UInt8 := [UInt8.ofNat n, UInt8.ofNat (n / 256), UInt8.ofNat (n / 65536), UInt8.ofNat (n / 16777216)]
theorem num_word (n : Nat) (h : n < 4294967296) : num (word n) = n := by
  simp only [word, num, UInt8.toNat_ofNat']
  omega
theorem sum_tail (b : List UInt8) (o : Nat) (ho : o < 4294967296) : (sum (b ++ word o) = 558161692 ↔ o = sum b) := by
  rw [sum_append]
  have hs := sum_lt b
  have e0 : ∀ s : Nat, more s (word o) = mvs 32 (s ^^^ ones ^^^ o) ^^^ ones := fun s => by
    unfold more; rw [run_eq, num_word o ho]; rfl
  rw [e0]
  have hk : mvs 32 ones ^^^ ones = 558161692 := by decide +kernel
  constructor
  · intro h
    rw [← hk] at h
    have h1 := mvs_inj 32 (x32 (x32 hs (by decide)) ho) (by decide) (xor_cancel_right _ h)
    have h2 : ones ^^^ (sum b ^^^ o) = ones ^^^ 0 := by
      rw [Nat.xor_zero, ← Nat.xor_assoc, Nat.xor_comm ones]; exact h1
    have h3 := xor_cancel_left _ h2
    have h4 : sum b ^^^ o = sum b ^^^ sum b := by rw [h3, Nat.xor_self]
    exact xor_cancel_left _ h4
  · rintro rfl
    rw [Nat.xor_comm (sum b), Nat.xor_assoc, Nat.xor_self, Nat.xor_zero]
    exact hk

theorem sum_digits : sum [49, 50, 51, 52, 53, 54, 55, 56, 57] = 3421780262 := by decide +kernel
theorem sum_nil : sum [] = 0 := by decide +kernel
end Go.Proofs.YtfopjilncfndnaaDoor.Crc
/-
  crc.More, crc.Sum, crc.Right: what they return. Conditions: the table lies as the program's text lays it; the bytes can be read.
-/
namespace Go.Proofs.YtfopjilncfndnaaDoor
open Go.RowKit

/-- the table lies as it must -/
def TabAt (w : World) : Prop := ∀ i, i < 16 → w.cell? ⟨0, i, none⟩ = some (.int .u32 (Crc.tab i : Int))

theorem not_u32 (s : Nat) (hs : s < 4294967296) : bits .xor .u32 IntKind.u32.max (s : Int) = ((s ^^^ Crc.ones : Nat) : Int) := by
  have h : IntKind.u32.max = ((Crc.ones : Nat) : Int) := by decide
  rw [h, u32_xor_nat _ _ (by decide) hs, Nat.xor_comm]

theorem more_any (s : Nat) (hs : s < 4294967296) (A : Option Addr) (l : List UInt8) (c : Nat) (B : Nat) (w : World) (ht : TabAt w) (hl : l.length ≤ 1000000) (hr : BytesAt w B A l) :
    Calls Tryd.prog 85 #[.int .u32 (s : Int), .slice A l.length c] w fun e w' => e = .returned (.int .u32 (Crc.more s l : Int)) ∧ w = w' := by
  have hn := not_u32 s hs
  have hs1 : s ^^^ Crc.ones < 4294967296 := Crc.x32 hs (by decide)
  go_enter Tryd.func85, Tryd.ntmps85
  go_wp2
  clear hn
  go_loop [5, 12] (fun r i => ∃ k : Nat, k ≤ l.length ∧ i = .int .i64 k ∧ r = .int .u32 (Crc.run (s ^^^ Crc.ones) (l.take k) : Nat)) (fun _ i => l.length - (intOf i).toNat)
  case atStart => exact ⟨0, Nat.zero_le _, rfl, rfl⟩
  case round =>
    obtain ⟨k, hk, rfl, rfl⟩ := hrel
    by_cases hlt : k < l.length
    · obtain ⟨d, hd⟩ : ∃ d, d = Crc.run (s ^^^ Crc.ones) (l.take k) := ⟨_, rfl⟩
      obtain ⟨x, hx⟩ : ∃ x, x = l.getD k 0 := ⟨_, rfl⟩
      obtain ⟨e, he⟩ : ∃ e, e = d ^^^ x.toNat := ⟨_, rfl⟩
      obtain ⟨f, hf⟩ : ∃ f, f = Crc.mvs 4 e := ⟨_, rfl⟩
      obtain ⟨g, hg⟩ : ∃ g, g = Crc.mvs 4 f := ⟨_, rfl⟩
      have hd1 : d < 4294967296 := by rw [hd]; exact Crc.run_lt hs1 (l.take k)
      have hx1 := x.toNat_lt
      have he1 : e < 4294967296 := by rw [he]; exact Crc.x32 hd1 (by omega)
      have hf1 : f < 4294967296 := by rw [hf]; exact Crc.mvs_lt 4 he1
      have hg1 : g < 4294967296 := by rw [hg]; exact Crc.mvs_lt 4 hf1
      have q1 : bits .xor .u32 (d : Int) (x.toNat : Int) = (e : Int) := by rw [he]; exact u32_xor_nat _ _ hd1 (by omega)
      have q2 : bits .and .u32 (e : Int) 15 = ((e % 16 : Nat) : Int) := by rw [← nat_mask4]; exact u32_and_nat _ 15 he1 (by decide)
      have q3 : bits .and .u32 (f : Int) 15 = ((f % 16 : Nat) : Int) := by rw [← nat_mask4]; exact u32_and_nat _ 15 hf1 (by decide)
      have tl : ∀ i, i < 16 → Crc.tab i < 4294967296 := fun i hi => Crc.mvs_lt 4 (by omega)
      have q4 : bits .xor .u32 ((e : Int) / 16) (Crc.tab (e % 16) : Int) = (f : Int) := by
        rw [hf, Crc.mvs4]; exact u32_xor_nat (e / 16) _ (by omega) (tl _ (by omega))
      have q5 : bits .xor .u32 ((f : Int) / 16) (Crc.tab (f % 16) : Int) = (g : Int) := by
        rw [hg, Crc.mvs4]; exact u32_xor_nat (f / 16) _ (by omega) (tl _ (by omega))
      have t1 := ht (e % 16) (by omega)
      have t2 := ht (f % 16) (by omega)
      obtain ⟨ad, rfl, hb, hc⟩ := hr (by rintro rfl; simp at hlt)
      have hcell := hc k hlt
      rw [← hx] at hcell
      rw [← hd]
      have H := And.intro hd (And.intro hx (And.intro he (And.intro hf hg)))
      clear hc hr ht tl hd hx he hf hg
      replace H := Lib.hid H
      go_wp2
      clear q1 q2 q3 q4 q5
      go_round
      case rel =>
        obtain ⟨hd, hx, he, hf, hg⟩ := H.out
        refine ⟨k + 1, by omega, by go_num, ?_⟩
        have e1 : l.take (k + 1) = l.take k ++ [x] := by
          rw [List.take_succ_eq_append_getElem hlt, hx]; simp [hlt]
        rw [e1, Crc.run_snoc, ← hd, Crc.byteStep, ← he, Crc.mvs8, ← hf, ← hg]
      case measure => simp [intOf]; omega
    · obtain rfl : k = l.length := by omega
      have hn := not_u32 _ (Crc.run_lt hs1 l)
      rw [List.take_length]
      go_wp2
      go_ret
      exact ⟨rfl, rfl⟩

theorem sum_any (A : Option Addr) (l : List UInt8) (c : Nat) (B : Nat) (w : World) (ht : TabAt w) (hl : l.length ≤ 1000000) (hr : BytesAt w B A l) :
    Calls Tryd.prog 81 #[.slice A l.length c] w fun e w' => e = .returned (.int .u32 (Crc.sum l : Int)) ∧ w = w' := by
  go_enter Tryd.func81, Tryd.ntmps81
  go_wp2_with (go_at_call 85; refine (more_any 0 (by decide) A l c B _ ht hl hr).mono ?_; rintro e w' ⟨rfl, rfl⟩)
  go_ret
  exact ⟨rfl, rfl⟩

theorem right_any (A : Option Addr) (l : List UInt8) (c : Nat) (B : Nat) (s : Nat) (w : World) (ht : TabAt w) (hl : l.length ≤ 1000000) (hr : BytesAt w B A l) :
    Calls Tryd.prog 87 #[.slice A l.length c, .int .u32 (s : Int)] w fun e w' => e = .returned (.bool ((Crc.sum l : Int) == (s : Int))) ∧ w = w' := by
  go_enter Tryd.func87, Tryd.ntmps87
  go_wp2_with (go_at_call 81; refine (sum_any A l c B _ ht hl hr).mono ?_; rintro e w' ⟨rfl, rfl⟩)
  go_ret
  exact ⟨rfl, rfl⟩

theorem more_n (s : Nat) (hs : s < 4294967296) (A : Option Addr) (l : List UInt8) (n c : Nat) (hn : l.length = n) (B : Nat) (w : World) (ht : TabAt w) (hl : l.length ≤ 1000000) (hr : BytesAt w B A l) :
    Calls Tryd.prog 85 #[.int .u32 (s : Int), .slice A n c] w fun e w' => e = .returned (.int .u32 (Crc.more s l : Int)) ∧ w = w' := by
  subst hn; exact more_any s hs A l c B w ht hl hr
theorem sum_n (A : Option Addr) (l : List UInt8) (n c : Nat) (hn : l.length = n) (B : Nat) (w : World) (ht : TabAt w) (hl : l.length ≤ 1000000) (hr : BytesAt w B A l) :
    Calls Tryd.prog 81 #[.slice A n c] w fun e w' => e = .returned (.int .u32 (Crc.sum l : Int)) ∧ w = w' := by
  subst hn; exact sum_any A l c B w ht hl hr
theorem right_n (A : Option Addr) (l : List UInt8) (n c : Nat) (hn : l.length = n) (B : Nat) (s : Nat) (w : World) (ht : TabAt w) (hl : l.length ≤ 1000000) (hr : BytesAt w B A l) :
    Calls Tryd.prog 87 #[.slice A n c, .int .u32 (s : Int)] w fun e w' => e = .returned (.bool ((Crc.sum l : Int) == (s : Int))) ∧ w = w' := by
  subst hn; exact right_any A l c B s w ht hl hr
theorem TabAt.lt {w : World} (h : TabAt w) : 0 < w.heap.size := by
  have h0 := h 0 (by decide)
  rcases Nat.lt_or_ge 0 w.heap.size with hlt | hge
  · exact hlt
  · simp [World.cell?, Array.getElem?_eq_none hge] at h0
theorem TabAt.below {w w' : World} {B : Nat} (h : TabAt w) (hb : Below B w w') (hB : w.heap.size ≤ B) : TabAt w' := fun i hi => (hb.cell (p := ⟨0, i, none⟩) (Nat.lt_of_lt_of_le h.lt hB)).trans (h i hi)
theorem TabAt.drewN {w : World} (h : TabAt w) (n : Nat) : TabAt (w.drewN n) := h
theorem TabAt.alloc {w : World} (h : TabAt w) (o : Obj) : TabAt (w.alloc o) := h.below ((Below.refl _ _).alloc (Nat.le_refl _) o) (Nat.le_refl _)

def digits : List UInt8 := [49, 50, 51, 52, 53, 54, 55, 56, 57]
end Go.Proofs.YtfopjilncfndnaaDoor
/-
  The table of crc, as the rows list it: what the condition gives the walks, and a world that meets it. Conditions: none.
-/
namespace Go.Proofs.YtfopjilncfndnaaDoor
open Go.ChangeShapes Go.WideShapes Go.ChangeAt Go.RowKit

theorem gHalves : Tryd.prog.globalNamed "tandem/crc.halves" = some 0 := by kernel_rfl
theorem gHalvesType : (Tryd.prog.globals[0]?).map (·.type) = some 138 := by kernel_rfl
theorem cellsHalves : Tryd.prog.cellsOf 138 = 16 := by kernel_rfl
theorem cellsU32 : Tryd.prog.cellsOf 127 = 1 := by kernel_rfl
def halvesInts : List Int := [0, 498536548, 997073096, 651767980, 1994146192, 1802195444, 1303535960, 1342533948, 3988292384, 4027552580, 3604390888, 3412177804, 2607071920, 2262029012, 2685067896, 3183342108]
theorem halves_tab : ∀ i : Nat, i < 16 → halvesInts.getD i 0 = (Crc.tab i : Int) := by decide +kernel
theorem tabAt_of_laid {W : World} (h : laidMetH Tryd.prog [("tandem/crc.halves", Rows.laid_tandem_crc_halves)] W) : TabAt W := fun i hi => by
  have h1 : Lib.TabIs Tryd.prog W "tandem/crc.halves" .u32 halvesInts := Lib.tabIs_of_head (rest := []) gHalves gHalvesType Tryd.underlying138 Tryd.underlying127 cellsU32 cellsHalves h
  rw [h1.cell gHalves i (by simpa [halvesInts] using hi), halves_tab i hi]

/-- a world for the witness -/
noncomputable def laidWorld (os : Os) : World :=
  { World.holding Tryd.prog os ⟨#[], #[], []⟩ with heap := (World.holding Tryd.prog os ⟨#[], #[], []⟩).heap.modify 0 fun
      | .cells _ t frozen => .cells (halvesInts.map fun z => Value.int .u32 z).toArray t frozen
      | o => o }
end Go.Proofs.YtfopjilncfndnaaDoor
