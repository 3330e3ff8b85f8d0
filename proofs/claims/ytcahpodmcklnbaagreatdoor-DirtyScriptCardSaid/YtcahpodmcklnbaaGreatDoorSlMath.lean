/-
  What is read of a record's sector; torn sectors: plain mathematics. Conditions: none.
-/
import Derived.Test.YtcahpodmcklnbaaGreatDoorSb
namespace Go.Proofs.YtcahpodmcklnbaaGreatDoor
open Go.RowKit Fix

namespace Slot
theorem sect_read (n : Nat) (r : List UInt8) (h1 : 1 ≤ n) (h2 : n ≤ 1099511627776) (h : r.length ≤ 40) : readN (sect n r) = n ∧ readB (sect n r) = r ∧ readE (sect n r) = 0 := by
  have hr := sect_right n r h1 h2 h
  refine ⟨?_, ?_, (readE_zero _).2 hr⟩
  · unfold readN; rw [if_pos hr, sect_num n r h2]
  · unfold readB; rw [if_pos hr, sect_rec n r h]
theorem read_sect (l : List UInt8) (h : readE l = 0) : 1 ≤ readN l ∧ readN l ≤ 1099511627776 ∧ (readB l).length ≤ 40 ∧ sect (readN l) (readB l) = l := by
  have hr := (readE_zero l).1 h
  obtain ⟨a, b, c, d, e⟩ := (right_iff l).1 hr
  unfold readN readB
  rw [if_pos hr, if_pos hr]
  exact ⟨b, c, rec_length l hr, e⟩
theorem bytesE_zero (n : Int) (r : List UInt8) (h : bytesE n r = 0) : r.length ≤ 40 ∧ 1 ≤ n ∧ n ≤ 1099511627776 := by
  unfold bytesE at h
  split at h
  · cases h
  · split at h
    · cases h
    · omega
end Slot
namespace Slot
/-- the number once more -/
def again (b : List UInt8) : Nat := Fix.le ((b.drop 54).take 6)
theorem sect_again (n : Nat) (r : List UInt8) (h : r.length ≤ 40) (hn : n ≤ 1099511627776) : again (sect n r) = n := by
  have l54 : (Fix.dig n 8 ++ (Fix.dig r.length 2 ++ (r ++ List.replicate (44 - r.length) 0))).length = 54 := by
    simp only [List.length_append, Fix.dig_length, List.length_replicate]; omega
  have e : sect n r = (Fix.dig n 8 ++ (Fix.dig r.length 2 ++ (r ++ List.replicate (44 - r.length) 0))) ++ (Fix.dig n 6 ++ Fix.dig (Crc.sum (body n r)) 4) := by
    unfold sect seal_
    conv => lhs; lhs; unfold body
    simp only [List.append_assoc]
  unfold again
  rw [e, List.drop_left' l54, List.take_left' (Fix.dig_length n 6), Fix.le_dig_self n 6 (by omega)]
theorem again_right {b : List UInt8} (h : right b = true) : again b = num b := by
  obtain ⟨_, _, h2, h3, h4⟩ := (right_iff b).1 h
  have e := sect_again (num b) (rec b) (rec_length b h) h2
  rwa [h4] at e
theorem unlike {b : List UInt8} (h : again b ≠ num b) : right b = false := by
  rw [← Bool.not_eq_true]
  exact fun x => h (again_right x)
/-- half of one, and half of another one -/
def torn (a b : List UInt8) : List UInt8 := a.take 32 ++ b.drop 32
theorem torn_length (a b : List UInt8) (ha : a.length = 64) (hb : b.length = 64) : (torn a b).length = 64 := by
  unfold torn; rw [List.length_append, List.length_take, List.length_drop]; omega
theorem torn_num (a b : List UInt8) (ha : a.length = 64) : num (torn a b) = num a := by
  unfold num torn
  rw [List.take_append_of_le_length (by rw [List.length_take]; omega), List.take_take]
  rfl
theorem torn_again (a b : List UInt8) (ha : a.length = 64) : again (torn a b) = again b := by
  unfold again torn
  have l : (a.take 32).length = 32 := by rw [List.length_take]; omega
  rw [List.drop_append, List.drop_of_length_le (by omega), List.nil_append, l, List.drop_drop]
theorem num_nots : num nots = 0 := by decide
theorem again_nots : again nots = 0 := by decide
theorem torn_bad (a b : List UInt8) (ha : a.length = 64) (hb : b.length = 64) (h : num a ≠ again b) (h0 : num a ≠ 0) : readE (torn a b) = 11 ∧ right (torn a b) = false := by
  have hr : right (torn a b) = false := unlike (by rw [torn_num a b ha, torn_again a b ha]; exact h.symm)
  refine ⟨bad_e (torn_length a b ha hb) (fun e => ?_) hr, hr⟩
  have := torn_num a b ha
  rw [e, num_nots] at this
  exact h0 this.symm
end Slot
end Go.Proofs.YtcahpodmcklnbaaGreatDoor
