/-
  A meta as six numbers: which may be, their bytes. Plain mathematics. Conditions: none.
-/
import Derived.Test.YtebicjblplkdeaaFixMath
namespace Go.Proofs.Ytebicjblplkdeaa
open Fix

/-- the greatest term -/
abbrev top : Int := 1099511627776
/-- a number, or the bound that it is beyond -/
def near (n lo hi : Int) : Int := max lo (min n hi)
theorem near_in {n lo hi : Int} (h1 : lo ≤ n) (h2 : n ≤ hi) : near n lo hi = n := by unfold near; omega
theorem near_out {n lo hi : Int} (h : lo ≤ hi) (h2 : ¬ (lo ≤ n ∧ n ≤ hi)) : near n lo hi ≠ n := by unfold near; omega
structure Mt where
  t : Int
  v : Int
  rt : Int
  rn : Int
  rs : Int
  b : Int
namespace Mt
def num (n : Int) : Bool := decide (0 ≤ n) && decide (n ≤ 1099511627776)
theorem num_iff (n : Int) : num n = true ↔ 0 ≤ n ∧ n ≤ 1099511627776 := by unfold num; simp
/-- may the record be -/
def recB (rt rn rs : Int) : Bool := num rt && num rn && (decide (0 ≤ rs) && decide (rs ≤ 3))
theorem recB_iff (rt rn rs : Int) : recB rt rn rs = true ↔ (0 ≤ rt ∧ rt ≤ 1099511627776) ∧ (0 ≤ rn ∧ rn ≤ 1099511627776) ∧ (0 ≤ rs ∧ rs ≤ 3) := by
  unfold recB; simp only [Bool.and_eq_true, num_iff, decide_eq_true_eq]; exact and_assoc
/-- may it be -/
def ok (m : Mt) : Bool := num m.t && num m.b && recB m.rt m.rn m.rs && (decide (-1 ≤ m.v) && decide (m.v ≤ 2))
theorem ok_iff (m : Mt) : m.ok = true ↔ (0 ≤ m.t ∧ m.t ≤ 1099511627776) ∧ (-1 ≤ m.v ∧ m.v ≤ 2) ∧ (0 ≤ m.rt ∧ m.rt ≤ 1099511627776) ∧ (0 ≤ m.rn ∧ m.rn ≤ 1099511627776) ∧ (0 ≤ m.rs ∧ m.rs ≤ 3) ∧ (0 ≤ m.b ∧ m.b ≤ 1099511627776) := by
  unfold ok; simp only [Bool.and_eq_true, num_iff, recB_iff, decide_eq_true_eq]
  constructor
  · rintro ⟨⟨⟨h1, h2⟩, h3, h4, h5⟩, h6⟩; exact ⟨h1, h6, h3, h4, h5, h2⟩
  · rintro ⟨h1, h6, h3, h4, h5, h2⟩; exact ⟨⟨⟨h1, h2⟩, h3, h4, h5⟩, h6⟩
/-- all are ints -/
structure In (m : Mt) : Prop where
  t : -9223372036854775808 ≤ m.t ∧ m.t ≤ 9223372036854775807
  v : -9223372036854775808 ≤ m.v ∧ m.v ≤ 9223372036854775807
  rt : -9223372036854775808 ≤ m.rt ∧ m.rt ≤ 9223372036854775807
  rn : -9223372036854775808 ≤ m.rn ∧ m.rn ≤ 9223372036854775807
  rs : -9223372036854775808 ≤ m.rs ∧ m.rs ≤ 9223372036854775807
  b : -9223372036854775808 ≤ m.b ∧ m.b ≤ 9223372036854775807
theorem In.of_ok {m : Mt} (h : m.ok = true) : m.In := by
  rw [ok_iff] at h
  obtain ⟨h1, h2, h3, h4, h5, h6⟩ := h
  constructor <;> omega
/-- why it may not be -/
def err (m : Mt) : Int := if m.ok = true then 0 else 2
theorem err_ok {m : Mt} (h : m.ok = true) : m.err = 0 := if_pos h
theorem err_no {m : Mt} (h : m.ok = false) : m.err = 2 := if_neg (by rw [h]; decide)
theorem err_zero {m : Mt} : m.err = 0 ↔ m.ok = true := by
  unfold err; split
  · simp [*]
  · rename_i h; simp [h]
def first : Mt := ⟨0, -1, 0, 0, 0, 0⟩
def zero : Mt := ⟨0, 0, 0, 0, 0, 0⟩
/-- its bytes, if it may be -/
def enc (m : Mt) : List UInt8 := dig m.t.toNat 6 ++ dig (m.v + 1).toNat 1 ++ dig m.rt.toNat 6 ++ dig m.rn.toNat 6 ++ dig m.rs.toNat 1 ++ dig m.b.toNat 6
theorem enc_length (m : Mt) : m.enc.length = 26 := by simp [enc, dig_length]
def bytes (m : Mt) : List UInt8 := if m.ok = true then m.enc else []
/-- the number of n bytes from o on -/
def at_ (l : List UInt8) (o n : Nat) : Nat := le ((l.drop o).take n)
/-- what any 26 bytes say -/
def dec (l : List UInt8) : Mt := ⟨at_ l 0 6, (at_ l 6 1 : Int) - 1, at_ l 7 6, at_ l 13 6, at_ l 19 1, at_ l 20 6⟩
/-- are they the bytes of a meta -/
def good (l : List UInt8) : Bool := decide (l.length = 26) && (dec l).ok
def readE (l : List UInt8) : Int := if good l = true then 0 else 4
def readM (l : List UInt8) : Mt := if good l = true then dec l else zero
end Mt
end Go.Proofs.Ytebicjblplkdeaa
