/-
  A block's sector, what it says, by the document: plain mathematics. Conditions: none.
-/
import Derived.Test.YtmbloclkinghnaaDoorSa
namespace Go.Proofs.YtmbloclkinghnaaDoor
open Go.RowKit

namespace Blk
/-- the first 60 bytes of a block's sector, and the sector -/
def body (a n : Nat) (d : List UInt8) : List UInt8 := Fix.dig n 8 ++ (Fix.dig a 2 ++ (d ++ (List.replicate 12 0 ++ Fix.dig n 6)))
def sect (a n : Nat) (d : List UInt8) : List UInt8 := Slot.seal_ (body a n d)
def bytesE (a n : Int) (d : List UInt8) : Int := if a < 0 ∨ 64 ≤ a ∨ n < 1 ∨ 1099511627776 < n then 5 else if d.length ≠ 32 then 2 else 0
def bytesB (a n : Int) (d : List UInt8) : List UInt8 := if bytesE a n d = 0 then sect a.toNat n.toNat d else []
/-- what stands in a sector: its number, the block, the bytes, the number once more -/
def num (b : List UInt8) : Nat := Fix.le (b.take 8)
def place (b : List UInt8) : Nat := Fix.le ((b.drop 8).take 2)
def dat (b : List UInt8) : List UInt8 := (b.drop 10).take 32
def again (b : List UInt8) : Nat := Fix.le ((b.drop 54).take 6)
def right (a : Int) (b : List UInt8) : Bool := decide (b.length = 64 ∧ bytesE a (num b) (dat b) = 0 ∧ sect a.toNat (num b) (dat b) = b)
def readE (a : Int) (b : List UInt8) : Int := if b.length ≠ 64 then 4 else if right a b = true then 0 else 11
def readN (a : Int) (b : List UInt8) : Nat := if right a b = true then num b else 0
def readB (a : Int) (b : List UInt8) : List UInt8 := if right a b = true then dat b else []

theorem bytesE_zero (a n : Int) (d : List UInt8) : bytesE a n d = 0 ↔ 0 ≤ a ∧ a < 64 ∧ 1 ≤ n ∧ n ≤ 1099511627776 ∧ d.length = 32 := by
  unfold bytesE
  constructor
  · intro h
    split at h
    · cases h
    · split at h
      · cases h
      · omega
  · rintro ⟨h1, h2, h3, h4, h5⟩
    rw [if_neg (by omega), if_neg (by omega)]
theorem bytesB_good (a n : Nat) (d : List UInt8) (h : bytesE a n d = 0) : bytesB a n d = sect a n d := by
  unfold bytesB
  rw [if_pos h, Int.toNat_natCast, Int.toNat_natCast]
theorem bytesB_bad (a n : Int) (d : List UInt8) (h : bytesE a n d ≠ 0) : bytesB a n d = [] := by
  unfold bytesB
  rw [if_neg h]
theorem bytesE_range (a n : Int) (d : List UInt8) (h : a < 0 ∨ 64 ≤ a ∨ n < 1 ∨ 1099511627776 < n) : bytesE a n d = 5 := by
  unfold bytesE
  rw [if_pos h]
theorem bytesE_len (a n : Int) (d : List UInt8) (h : ¬ (a < 0 ∨ 64 ≤ a ∨ n < 1 ∨ 1099511627776 < n)) (hd : d.length ≠ 32) : bytesE a n d = 2 := by
  unfold bytesE
  rw [if_neg h, if_pos hd]
section
variable (a n : Nat) (d : List UInt8) (h : d.length = 32)
include h
theorem body_length : (body a n d).length = 60 := by simp [body, Fix.dig_length]; omega
theorem sect_length : (sect a n d).length = 64 := by
  rw [sect, Slot.seal_, List.length_append, body_length a n d h, Fix.dig_length]
omit h in
theorem sect_open : sect a n d = Fix.dig n 8 ++ (Fix.dig a 2 ++ (d ++ (List.replicate 12 0 ++ (Fix.dig n 6 ++ Fix.dig (Crc.sum (body a n d)) 4)))) := by
  unfold sect Slot.seal_
  conv => lhs; lhs; unfold body
  simp only [List.append_assoc]
omit h in
theorem sect_num (hn : n ≤ 1099511627776) : num (sect a n d) = n := by
  unfold num
  rw [sect_open, List.take_left' (Fix.dig_length n 8), Fix.le_dig_self n 8 (by omega)]
omit h in
theorem sect_drop8 : (sect a n d).drop 8 = Fix.dig a 2 ++ (d ++ (List.replicate 12 0 ++ (Fix.dig n 6 ++ Fix.dig (Crc.sum (body a n d)) 4))) := by
  rw [sect_open, List.drop_left' (Fix.dig_length n 8)]
omit h in
theorem sect_place (ha : a < 65536) : place (sect a n d) = a := by
  unfold place
  rw [sect_drop8, List.take_left' (Fix.dig_length a 2), Fix.le_dig_self a 2 (by omega)]
omit h in
theorem sect_drop10 : (sect a n d).drop 10 = d ++ (List.replicate 12 0 ++ (Fix.dig n 6 ++ Fix.dig (Crc.sum (body a n d)) 4)) := by
  rw [show 10 = 8 + 2 from rfl, ← List.drop_drop, sect_drop8, List.drop_left' (Fix.dig_length a 2)]
theorem sect_dat : dat (sect a n d) = d := by
  unfold dat
  rw [sect_drop10, List.take_left' h]
theorem sect_again (hn : n ≤ 1099511627776) : again (sect a n d) = n := by
  unfold again
  have l44 : (d ++ List.replicate 12 (0 : UInt8)).length = 44 := by rw [List.length_append, h, List.length_replicate]
  rw [show 54 = 10 + 44 from rfl, ← List.drop_drop, sect_drop10, ← List.append_assoc, List.drop_left' l44, List.take_left' (Fix.dig_length n 6), Fix.le_dig_self n 6 (by omega)]
end
theorem right_iff (a : Int) (b : List UInt8) : right a b = true ↔ b.length = 64 ∧ bytesE a (num b) (dat b) = 0 ∧ sect a.toNat (num b) (dat b) = b := by unfold right; rw [decide_eq_true_iff]
theorem sect_right (a n : Nat) (d : List UInt8) (h : bytesE a n d = 0) : right a (sect a n d) = true := by
  obtain ⟨_, _, _, h4, h5⟩ := (bytesE_zero a n d).1 h
  rw [right_iff, sect_num a n d (by omega), sect_dat a n d h5, Int.toNat_natCast]
  exact ⟨sect_length a n d h5, h, rfl⟩
theorem right_other (b : Int) (a n : Nat) (d : List UInt8) (h : bytesE a n d = 0) : right b (sect a n d) = true ↔ b = a := by
  obtain ⟨_, h2, _, h4, h5⟩ := (bytesE_zero a n d).1 h
  constructor
  · intro hr
    rw [right_iff, sect_num a n d (by omega), sect_dat a n d h5] at hr
    obtain ⟨_, e1, e2⟩ := hr
    obtain ⟨g1, g2, _⟩ := (bytesE_zero b n d).1 e1
    have e3 := congrArg place e2
    rw [sect_place _ n d (by omega), sect_place a n d (by omega)] at e3
    omega
  · rintro rfl
    exact sect_right a n d h
theorem again_right {a : Int} {b : List UInt8} (h : right a b = true) : again b = num b := by
  obtain ⟨_, h2, h3⟩ := (right_iff a b).1 h
  obtain ⟨_, _, _, h4, h5⟩ := (bytesE_zero _ _ _).1 h2
  have e := sect_again a.toNat (num b) (dat b) h5 (by omega)
  rwa [h3] at e
theorem readE_zero (a : Int) (b : List UInt8) : readE a b = 0 ↔ right a b = true := by
  unfold readE
  constructor
  · intro h
    split at h
    · cases h
    · split at h
      · assumption
      · cases h
  · intro h
    rw [if_neg (by rw [Decidable.not_not]; exact ((right_iff a b).1 h).1), if_pos h]
theorem readE_bad {a : Int} {b : List UInt8} (hb : b.length = 64) (h : right a b = false) : readE a b = 11 := by
  unfold readE
  rw [if_neg (by rw [Decidable.not_not]; exact hb), if_neg (by rw [h]; decide)]
theorem readE_len {a : Int} {b : List UInt8} (hb : b.length ≠ 64) : readE a b = 4 := by
  unfold readE
  rw [if_pos hb]
theorem right_len {a : Int} {b : List UInt8} (hb : b.length ≠ 64) : right a b = false := by
  rw [← Bool.not_eq_true, right_iff]
  exact fun x => hb x.1
theorem dat_length {b : List UInt8} (h : b.length = 64) : (dat b).length = 32 := by
  unfold dat
  rw [List.length_take, List.length_drop, h]
  decide
theorem num_lt {b : List UInt8} (h : b.length = 64) : num b < 18446744073709551616 := Fix.le_take_lt b 8 (by omega)
/-- a number that is none, or a block that is none -/
theorem not_right (a : Int) (b : List UInt8) (nn : Int) (hnn : IntKind.i64.wrap (num b : Int) = nn) (h : bytesE a nn (dat b) ≠ 0) : right a b = false := by
  rw [← Bool.not_eq_true, right_iff]
  rintro ⟨h1, h2, _⟩
  obtain ⟨_, _, _, h4, _⟩ := (bytesE_zero _ _ _).1 h2
  rw [IntKind.wrap_i64] at hnn
  apply h
  rwa [← hnn, show ((num b : Int) + 9223372036854775808) % 18446744073709551616 - 9223372036854775808 = (num b : Int) by omega]
/-- a number that may be is the sector's own -/
theorem num_wrap (a : Int) (b : List UInt8) (nn : Int) (hb : b.length = 64) (hnn : IntKind.i64.wrap (num b : Int) = nn) (h : bytesE a nn (dat b) = 0) : nn = (num b : Int) := by
  obtain ⟨_, _, h3, h4, _⟩ := (bytesE_zero _ _ _).1 h
  have := num_lt hb
  rw [IntKind.wrap_i64] at hnn
  omega
theorem read_sect (a n : Nat) (d : List UInt8) (h : bytesE a n d = 0) : readN a (sect a n d) = n ∧ readB a (sect a n d) = d ∧ readE a (sect a n d) = 0 := by
  have hr := sect_right a n d h
  obtain ⟨_, _, _, h4, h5⟩ := (bytesE_zero a n d).1 h
  refine ⟨?_, ?_, (readE_zero _ _).2 hr⟩
  · unfold readN; rw [if_pos hr, sect_num a n d (by omega)]
  · unfold readB; rw [if_pos hr, sect_dat a n d h5]
theorem sect_read (a : Int) (l : List UInt8) (h : readE a l = 0) : bytesE a (readN a l) (readB a l) = 0 ∧ sect a.toNat (readN a l) (readB a l) = l ∧ (readB a l).length = 32 ∧ l.length = 64 := by
  have hr := (readE_zero a l).1 h
  obtain ⟨h1, h2, h3⟩ := (right_iff a l).1 hr
  unfold readN readB
  rw [if_pos hr, if_pos hr]
  exact ⟨h2, h3, ((bytesE_zero _ _ _).1 h2).2.2.2.2, h1⟩
/-- two sectors are the same just if what they are made of is -/
theorem sect_inj (a n : Nat) (d : List UInt8) (b m : Nat) (e : List UInt8) (h : bytesE a n d = 0) (h' : bytesE b m e = 0) : (sect a n d = sect b m e) ↔ a = b ∧ n = m ∧ d = e := by
  obtain ⟨_, h2, _, h4, h5⟩ := (bytesE_zero a n d).1 h
  obtain ⟨_, g2, _, g4, g5⟩ := (bytesE_zero b m e).1 h'
  constructor
  · intro x
    refine ⟨?_, ?_, ?_⟩
    · have := congrArg place x
      rwa [sect_place a n d (by omega), sect_place b m e (by omega)] at this
    · have := congrArg num x
      rwa [sect_num a n d (by omega), sect_num b m e (by omega)] at this
    · have := congrArg dat x
      rwa [sect_dat a n d h5, sect_dat b m e g5] at this
  · rintro ⟨rfl, rfl, rfl⟩; rfl
/-- half of one, and half of another one -/
def torn (a b : List UInt8) : List UInt8 := a.take 32 ++ b.drop 32
theorem torn_length (a b : List UInt8) (ha : a.length = 64) (hb : b.length = 64) : (torn a b).length = 64 := by
  unfold torn; rw [List.length_append, List.length_take, List.length_drop]; omega
theorem torn_num (a b : List UInt8) (ha : a.length = 64) : num (torn a b) = num a := by
  unfold num torn
  rw [List.take_append_of_le_length (by rw [List.length_take]; omega), List.take_take]
  rfl
theorem torn_again (a b : List UInt8) (ha : a.length = 64) : again (torn a b) = again b := by
  unfold again torn
  have l : (a.take 32).length = 32 := by rw [List.length_take]; omega
  rw [List.drop_append, List.drop_of_length_le (by omega), List.nil_append, l, List.drop_drop]
theorem again_nots : again Slot.nots = 0 := by decide
theorem torn_bad (p : Int) (a b : List UInt8) (ha : a.length = 64) (hb : b.length = 64) (h : num a ≠ again b) : readE p (torn a b) = 11 ∧ right p (torn a b) = false := by
  have hr : right p (torn a b) = false := by
    rw [← Bool.not_eq_true]
    intro x
    have := again_right x
    rw [torn_num a b ha, torn_again a b ha] at this
    exact h this.symm
  exact ⟨readE_bad (torn_length a b ha hb) hr, hr⟩
theorem right_nots (a : Int) : right a Slot.nots = false := by
  rw [← Bool.not_eq_true, right_iff]
  rintro ⟨_, h, _⟩
  have := (bytesE_zero _ _ _).1 h
  have e : num Slot.nots = 0 := by decide
  omega
end Blk
end Go.Proofs.YtmbloclkinghnaaDoor
