/-
  A record's sector, a slot, by the document: plain mathematics; what the package's functions do. Conditions: none.
-/
import Derived.Test.YtgnfajmjhlnobaaDoorDisk
import Derived.Test.YtgnfajmjhlnobaaDoorFixMath
import Derived.Test.YtgnfajmjhlnobaaDoorCrcMath
namespace Go.Proofs.YtgnfajmjhlnobaaDoor
open Go.RowKit

namespace Slot
/-- the first 60 bytes of a record's sector, and the sector -/
def body (n : Nat) (rec : List UInt8) : List UInt8 := Fix.dig n 8 ++ (Fix.dig rec.length 2 ++ (rec ++ (List.replicate (44 - rec.length) 0 ++ Fix.dig n 6)))
def seal_ (b : List UInt8) : List UInt8 := b ++ Fix.dig (Crc.sum b) 4
def sect (n : Nat) (rec : List UInt8) : List UInt8 := seal_ (body n rec)
def bytesE (n : Int) (rec : List UInt8) : Int := if 40 < rec.length then 3 else if n < 1 ∨ 1099511627776 < n then 5 else 0
def bytesB (n : Int) (rec : List UInt8) : List UInt8 := if bytesE n rec = 0 then sect n.toNat rec else []
/-- what stands in a sector: its number, how many bytes, the record -/
def num (b : List UInt8) : Nat := Fix.le (b.take 8)
def len (b : List UInt8) : Nat := Fix.le ((b.drop 8).take 2)
def rec (b : List UInt8) : List UInt8 := (b.drop 10).take (len b)
def right (b : List UInt8) : Bool := decide (b.length = 64 ∧ 1 ≤ num b ∧ num b ≤ 1099511627776 ∧ len b ≤ 40 ∧ sect (num b) (rec b) = b)
def nots : List UInt8 := List.replicate 64 0
def readE (b : List UInt8) : Int := if b.length ≠ 64 then 4 else if b = nots then 6 else if right b = true then 0 else 11
def readN (b : List UInt8) : Nat := if right b = true then num b else 0
def readB (b : List UInt8) : List UInt8 := if right b = true then rec b else []
/-- is the second of two sectors the newest; the newest one's number (none: 0), its record -/
def second (a b : List UInt8) : Bool := right b && (!right a || decide (num a < num b))
def topN (a b : List UInt8) : Nat := if second a b = true then num b else readN a
def topB (a b : List UInt8) : List UInt8 := if second a b = true then rec b else readB a
def newestI (a b : List UInt8) : Int := if second a b = true then 1 else if right a = true then 0 else -1
def noneB (a b : List UInt8) : Bool := decide (a = nots) && decide (b = nots)
/-- a slot of a disk: the error of reading it; what Load tells; what Save makes of the disk -/
def lookE (S : DS) (at_ : Int) : Int := if S.readE at_ = 0 then S.readE (at_ + 1) else S.readE at_
def loadE (S : DS) (at_ : Int) : Int := if lookE S at_ = 0 then (if noneB (S.readB at_) (S.readB (at_ + 1)) = true then 6 else if newestI (S.readB at_) (S.readB (at_ + 1)) < 0 then 11 else 0) else lookE S at_
def loadB (S : DS) (at_ : Int) : List UInt8 := if loadE S at_ = 0 then topB (S.readB at_) (S.readB (at_ + 1)) else []
def put1 (S : DS) (i : Int) (b : List UInt8) : DS × Int := if (S.write i b).2 = 0 then (S.write i b).1.flush else S.write i b
def first (a b : List UInt8) : Nat := if newestI a b = 0 then 1 else 0
def save2 (S : DS) (at_ : Int) (f : Nat) (b : List UInt8) : DS × Int := if (put1 S (at_ + (f : Int)) b).2 = 0 then put1 (put1 S (at_ + (f : Int)) b).1 (at_ + ((1 - f : Nat) : Int)) b else put1 S (at_ + (f : Int)) b
def save (S : DS) (at_ : Int) (r : List UInt8) : DS × Int :=
  if 40 < r.length then (S, 3) else if lookE S at_ ≠ 0 then (S, lookE S at_) else if 1099511627776 ≤ topN (S.readB at_) (S.readB (at_ + 1)) then (S, 8) else
  save2 S at_ (first (S.readB at_) (S.readB (at_ + 1))) (sect (topN (S.readB at_) (S.readB (at_ + 1)) + 1) r)

theorem body_length (n : Nat) (r : List UInt8) (h : r.length ≤ 40) : (body n r).length = 60 := by
  simp [body, Fix.dig_length]; omega
theorem sect_length (n : Nat) (r : List UInt8) (h : r.length ≤ 40) : (sect n r).length = 64 := by
  rw [sect, seal_, List.length_append, body_length n r h, Fix.dig_length]
theorem sect_take8 (n : Nat) (r : List UInt8) : (sect n r).take 8 = Fix.dig n 8 := by
  unfold sect seal_ body
  rw [List.append_assoc, List.take_append_of_le_length (by rw [Fix.dig_length]; exact Nat.le_refl _), List.take_of_length_le (by rw [Fix.dig_length]; exact Nat.le_refl _)]
theorem sect_drop8 (n : Nat) (r : List UInt8) : (sect n r).drop 8 = Fix.dig r.length 2 ++ (r ++ (List.replicate (44 - r.length) 0 ++ (Fix.dig n 6 ++ Fix.dig (Crc.sum (body n r)) 4))) := by
  show ((body n r) ++ _).drop 8 = _
  rw [show body n r = Fix.dig n 8 ++ (Fix.dig r.length 2 ++ (r ++ (List.replicate (44 - r.length) 0 ++ Fix.dig n 6))) from rfl, List.append_assoc, List.drop_left' (Fix.dig_length n 8)]
  simp only [List.append_assoc]
theorem sect_drop10 (n : Nat) (r : List UInt8) : (sect n r).drop 10 = r ++ (List.replicate (44 - r.length) 0 ++ (Fix.dig n 6 ++ Fix.dig (Crc.sum (body n r)) 4)) := by
  rw [show 10 = 8 + 2 from rfl, ← List.drop_drop, sect_drop8, List.drop_left' (Fix.dig_length _ 2)]
theorem sect_num (n : Nat) (r : List UInt8) (h : n ≤ 1099511627776) : num (sect n r) = n := by
  unfold num
  rw [sect_take8, Fix.le_dig_self n 8 (by omega)]
theorem sect_len (n : Nat) (r : List UInt8) (h : r.length ≤ 40) : len (sect n r) = r.length := by
  unfold len
  rw [sect_drop8, List.take_left' (Fix.dig_length _ 2), Fix.le_dig_self _ 2 (by omega)]
theorem sect_rec (n : Nat) (r : List UInt8) (h : r.length ≤ 40) : rec (sect n r) = r := by
  unfold rec
  rw [sect_len n r h, sect_drop10, List.take_left' rfl]
theorem sect_right (n : Nat) (r : List UInt8) (h1 : 1 ≤ n) (h2 : n ≤ 1099511627776) (h : r.length ≤ 40) : right (sect n r) = true := by
  unfold right
  rw [decide_eq_true_iff, sect_num n r h2, sect_len n r h, sect_rec n r h]
  exact ⟨sect_length n r h, h1, h2, h, rfl⟩
theorem right_iff (b : List UInt8) : right b = true ↔ b.length = 64 ∧ 1 ≤ num b ∧ num b ≤ 1099511627776 ∧ len b ≤ 40 ∧ sect (num b) (rec b) = b := by unfold right; rw [decide_eq_true_iff]
theorem right_nots : right nots = false := by
  rw [← Bool.not_eq_true, right_iff]
  rintro ⟨_, h, _⟩
  have : num nots = 0 := by decide
  omega
theorem rec_length (b : List UInt8) (h : right b = true) : (rec b).length ≤ 40 := by
  have := (right_iff b).1 h
  unfold rec
  rw [List.length_take]
  omega
theorem readE_zero (b : List UInt8) : readE b = 0 ↔ right b = true := by
  unfold readE
  constructor
  · intro h
    split at h
    · cases h
    · split at h
      · cases h
      · split at h
        · assumption
        · cases h
  · intro h
    rw [if_neg (by rw [Decidable.not_not]; exact ((right_iff b).1 h).1), if_neg (by rintro rfl; rw [right_nots] at h; cases h), if_pos h]
theorem tri (b : List UInt8) (h : b.length = 64) : (readE b = 6 ∧ right b = false ∧ b = nots) ∨ (readE b = 0 ∧ right b = true ∧ b ≠ nots) ∨ (readE b = 11 ∧ right b = false ∧ b ≠ nots) := by
  by_cases hz : b = nots
  · subst hz
    exact .inl ⟨by decide, right_nots, rfl⟩
  · cases hr : right b with
    | true => exact .inr (.inl ⟨(readE_zero b).2 hr, rfl, hz⟩)
    | false =>
      refine .inr (.inr ⟨?_, rfl, hz⟩)
      unfold readE
      rw [if_neg (by rw [Decidable.not_not]; exact h), if_neg hz, if_neg (by rw [hr]; decide)]
end Slot
end Go.Proofs.YtgnfajmjhlnobaaDoor
