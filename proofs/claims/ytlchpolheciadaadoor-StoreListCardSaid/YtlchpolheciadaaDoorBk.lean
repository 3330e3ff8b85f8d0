/-
  Several texts in one (Block, BkSec, BkBytes, BkRead). Conditions: as each says.
-/
import Derived.Test.YtlchpolheciadaaDoorSa
/-
  A block's sector, what it says, by the document: plain mathematics. Conditions: none.
-/
namespace Go.Proofs.YtlchpolheciadaaDoor
open Go.RowKit

namespace Blk
/-- the first 60 bytes of a block's sector, and the sector -/
def body (a n : Nat) (d : List UInt8) : List UInt8 := Fix.dig n 8 ++ (Fix.dig a 2 ++ (d ++ (List.replicate 12 0 ++ Fix.dig n 6)))
def sect (a n : Nat) (d : List UInt8) : List UInt8 := Slot.seal_ (body a n d)
def bytesE (a n : Int) (d : List UInt8) : Int := if a < 0 ∨ 64 ≤ a ∨ n < 1 ∨ 1099511627776 < n then 5 else if d.length ≠ 32 then 2 else 0
def bytesB (a n : Int) (d : List UInt8) : List UInt8 := if bytesE a n d = 0 then sect a.toNat n.toNat d else []
/-- what stands in a sector: its number, the block, the bytes, the number once more -/
def num (b : List UInt8) : Nat := Fix.le (b.take 8)
def place (b : List UInt8) : Nat := Fix.le ((b.drop 8).take 2)
def dat (b : List UInt8) : List UInt8 := (b.drop 10).take 32
def again (b : List UInt8) : Nat := Fix.le ((b.drop 54).take 6)
def right (a : Int) (b : List UInt8) : Bool := decide (b.length = 64 ∧ bytesE a (num b) (dat b) = 0 ∧ sect a.toNat (num b) (dat b) = b)
def readE (a : Int) (b : List UInt8) : Int := if b.length ≠ 64 then 4 else if right a b = true then 0 else 11
def readN (a : Int) (b : List UInt8) : Nat := if right a b = true then num b else 0
def readB (a : Int) (b : List UInt8) : List UInt8 := if right a b = true then dat b else []

theorem bytesE_zero (a n : Int) (d : List UInt8) : bytesE a n d = 0 ↔ 0 ≤ a ∧ a < 64 ∧ 1 ≤ n ∧ n ≤ 1099511627776 ∧ d.length = 32 := by
  unfold bytesE
  constructor
  · intro h
    split at h
    · cases h
    · split at h
      · cases h
      · omega
  · rintro ⟨h1, h2, h3, h4, h5⟩
    rw [if_neg (by omega), if_neg (by omega)]
theorem bytesB_good (a n : Nat) (d : List UInt8) (h : bytesE a n d = 0) : bytesB a n d = sect a n d := by
  unfold bytesB
  rw [if_pos h, Int.toNat_natCast, Int.toNat_natCast]
theorem bytesB_bad (a n : Int) (d : List UInt8) (h : bytesE a n d ≠ 0) : bytesB a n d = [] := by
  unfold bytesB
  rw [if_neg h]
theorem bytesE_range (a n : Int) (d : List UInt8) (h : a < 0 ∨ 64 ≤ a ∨ n < 1 ∨ 1099511627776 < n) : bytesE a n d = 5 := by
  unfold bytesE
  rw [if_pos h]
theorem bytesE_len (a n : Int) (d : List UInt8) (h : ¬ (a < 0 ∨ 64 ≤ a ∨ n < 1 ∨ 1099511627776 < n)) (hd : d.length ≠ 32) : bytesE a n d = 2 := by
  unfold bytesE
  rw [if_neg h, if_pos hd]
section
variable (a n : Nat) (d : List UInt8) (h : d.length = 32)
include h
theorem body_length : (body a n d).length = 60 := by simp [body, Fix.dig_length]; omega
theorem sect_length : (sect a n d).length = 64 := by
  rw [sect, Slot.seal_, List.length_append, body_length a n d h, Fix.dig_length]
omit h in
theorem sect_open : sect a n d = Fix.dig n 8 ++ (Fix.dig a 2 ++ (d ++ (List.replicate 12 0 ++ (Fix.dig n 6 ++ Fix.dig (Crc.sum (body a n d)) 4)))) := by
  unfold sect Slot.seal_
  conv => lhs; lhs; unfold body
  simp only [List.append_assoc]
omit h in
theorem sect_num (hn : n ≤ 1099511627776) : num (sect a n d) = n := by
  unfold num
  rw [sect_open, List.take_left' (Fix.dig_length n 8), Fix.le_dig_self n 8 (by omega)]
omit h in
theorem sect_drop8 : (sect a n d).drop 8 = Fix.dig a 2 ++ (d ++ (List.replicate 12 0 ++ (Fix.dig n 6 ++ Fix.dig (Crc.sum (body a n d)) 4))) := by
  rw [sect_open, List.drop_left' (Fix.dig_length n 8)]
omit h in
theorem sect_place (ha : a < 65536) : place (sect a n d) = a := by
  unfold place
  rw [sect_drop8, List.take_left' (Fix.dig_length a 2), Fix.le_dig_self a 2 (by omega)]
omit h in
theorem sect_drop10 : (sect a n d).drop 10 = d ++ (List.replicate 12 0 ++ (Fix.dig n 6 ++ Fix.dig (Crc.sum (body a n d)) 4)) := by
  rw [show 10 = 8 + 2 from rfl, ← List.drop_drop, sect_drop8, List.drop_left' (Fix.dig_length a 2)]
theorem sect_dat : dat (sect a n d) = d := by
  unfold dat
  rw [sect_drop10, List.take_left' h]
theorem sect_again (hn : n ≤ 1099511627776) : again (sect a n d) = n := by
  unfold again
  have l44 : (d ++ List.replicate 12 (0 : UInt8)).length = 44 := by rw [List.length_append, h, List.length_replicate]
  rw [show 54 = 10 + 44 from rfl, ← List.drop_drop, sect_drop10, ← List.append_assoc, List.drop_left' l44, List.take_left' (Fix.dig_length n 6), Fix.le_dig_self n 6 (by omega)]
end
theorem right_iff (a : Int) (b : List UInt8) : right a b = true ↔ b.length = 64 ∧ bytesE a (num b) (dat b) = 0 ∧ sect a.toNat (num b) (dat b) = b := by unfold right; rw [decide_eq_true_iff]
theorem sect_right (a n : Nat) (d : List UInt8) (h : bytesE a n d = 0) : right a (sect a n d) = true := by
  obtain ⟨_, _, _, h4, h5⟩ := (bytesE_zero a n d).1 h
  rw [right_iff, sect_num a n d (by omega), sect_dat a n d h5, Int.toNat_natCast]
  exact ⟨sect_length a n d h5, h, rfl⟩
theorem right_other (b : Int) (a n : Nat) (d : List UInt8) (h : bytesE a n d = 0) : right b (sect a n d) = true ↔ b = a := by
  obtain ⟨_, h2, _, h4, h5⟩ := (bytesE_zero a n d).1 h
  constructor
  · intro hr
    rw [right_iff, sect_num a n d (by omega), sect_dat a n d h5] at hr
    obtain ⟨_, e1, e2⟩ := hr
    obtain ⟨g1, g2, _⟩ := (bytesE_zero b n d).1 e1
    have e3 := congrArg place e2
    rw [sect_place _ n d (by omega), sect_place a n d (by omega)] at e3
    omega
  · rintro rfl
    exact sect_right a n d h
theorem again_right {a : Int} {b : List UInt8} (h : right a b = true) : again b = num b := by
  obtain ⟨_, h2, h3⟩ := (right_iff a b).1 h
  obtain ⟨_, _, _, h4, h5⟩ := (bytesE_zero _ _ _).1 h2
  have e := sect_again a.toNat (num b) (dat b) h5 (by omega)
  rwa [h3] at e
theorem readE_zero (a : Int) (b : List UInt8) : readE a b = 0 ↔ right a b = true := by
  unfold readE
  constructor
  · intro h
    split at h
    · cases h
    · split at h
      · assumption
      · cases h
  · intro h
    rw [if_neg (by rw [Decidable.not_not]; exact ((right_iff a b).1 h).1), if_pos h]
theorem readE_bad {a : Int} {b : List UInt8} (hb : b.length = 64) (h : right a b = false) : readE a b = 11 := by
  unfold readE
  rw [if_neg (by rw [Decidable.not_not]; exact hb), if_neg (by rw [h]; decide)]
theorem readE_len {a : Int} {b : List UInt8} (hb : b.length ≠ 64) : readE a b = 4 := by
  unfold readE
  rw [if_pos hb]
theorem right_len {a : Int} {b : List UInt8} (hb : b.length ≠ 64) : right a b = false := by
  rw [← Bool.not_eq_true, right_iff]
  exact fun x => hb x.1
theorem dat_length {b : List UInt8} (h : b.length = 64) : (dat b).length = 32 := by
  unfold dat
  rw [List.length_take, List.length_drop, h]
  decide
theorem num_lt {b : List UInt8} (h : b.length = 64) : num b < 18446744073709551616 := Fix.le_take_lt b 8 (by omega)
/-- a number that is none, or a block that is none -/
theorem not_right (a : Int) (b : List UInt8) (nn : Int) (hnn : IntKind.i64.wrap (num b : Int) = nn) (h : bytesE a nn (dat b) ≠ 0) : right a b = false := by
  rw [← Bool.not_eq_true, right_iff]
  rintro ⟨h1, h2, _⟩
  obtain ⟨_, _, _, h4, _⟩ := (bytesE_zero _ _ _).1 h2
  rw [IntKind.wrap_i64] at hnn
  apply h
  rwa [← hnn, show ((num b : Int) + 9223372036854775808) % 18446744073709551616 - 9223372036854775808 = (num b : Int) by omega]
/-- a number that may be is the sector's own -/
theorem num_wrap (a : Int) (b : List UInt8) (nn : Int) (hb : b.length = 64) (hnn : IntKind.i64.wrap (num b : Int) = nn) (h : bytesE a nn (dat b) = 0) : nn = (num b : Int) := by
  obtain ⟨_, _, h3, h4, _⟩ := (bytesE_zero _ _ _).1 h
  have := num_lt hb
  rw [IntKind.wrap_i64] at hnn
  omega
theorem read_sect (a n : Nat) (d : List UInt8) (h : bytesE a n d = 0) : readN a (sect a n d) = n ∧ readB a (sect a n d) = d ∧ readE a (sect a n d) = 0 := by
  have hr := sect_right a n d h
  obtain ⟨_, _, _, h4, h5⟩ := (bytesE_zero a n d).1 h
  refine ⟨?_, ?_, (readE_zero _ _).2 hr⟩
  · unfold readN; rw [if_pos hr, sect_num a n d (by omega)]
  · unfold readB; rw [if_pos hr, sect_dat a n d h5]
theorem sect_read (a : Int) (l : List UInt8) (h : readE a l = 0) : bytesE a (readN a l) (readB a l) = 0 ∧ sect a.toNat (readN a l) (readB a l) = l ∧ (readB a l).length = 32 ∧ l.length = 64 := by
  have hr := (readE_zero a l).1 h
  obtain ⟨h1, h2, h3⟩ := (right_iff a l).1 hr
  unfold readN readB
  rw [if_pos hr, if_pos hr]
  exact ⟨h2, h3, ((bytesE_zero _ _ _).1 h2).2.2.2.2, h1⟩
/-- two sectors are the same just if what they are made of is -/
theorem sect_inj (a n : Nat) (d : List UInt8) (b m : Nat) (e : List UInt8) (h : bytesE a n d = 0) (h' : bytesE b m e = 0) : (sect a n d = sect b m e) ↔ a = b ∧ n = m ∧ d = e := by
  obtain ⟨_, h2, _, h4, h5⟩ := (bytesE_zero a n d).1 h
  obtain ⟨_, g2, _, g4, g5⟩ := (bytesE_zero b m e).1 h'
  constructor
  · intro x
    refine ⟨?_, ?_, ?_⟩
    · have := congrArg place x
      rwa [sect_place a n d (by omega), sect_place b m e (by omega)] at this
    · have := congrArg num x
      rwa [sect_num a n d (by omega), sect_num b m e (by omega)] at this
    · have := congrArg dat x
      rwa [sect_dat a n d h5, sect_dat b m e g5] at this
  · rintro ⟨rfl, rfl, rfl⟩; rfl
/-- half of one, and half of another one -/
def torn (a b : List UInt8) : List UInt8 := a.take 32 ++ b.drop 32
theorem torn_length (a b : List UInt8) (ha : a.length = 64) (hb : b.length = 64) : (torn a b).length = 64 := by
  unfold torn; rw [List.length_append, List.length_take, List.length_drop]; omega
theorem torn_num (a b : List UInt8) (ha : a.length = 64) : num (torn a b) = num a := by
  unfold num torn
  rw [List.take_append_of_le_length (by rw [List.length_take]; omega), List.take_take]
  rfl
theorem torn_again (a b : List UInt8) (ha : a.length = 64) : again (torn a b) = again b := by
  unfold again torn
  have l : (a.take 32).length = 32 := by rw [List.length_take]; omega
  rw [List.drop_append, List.drop_of_length_le (by omega), List.nil_append, l, List.drop_drop]
theorem again_nots : again Slot.nots = 0 := by decide
theorem torn_bad (p : Int) (a b : List UInt8) (ha : a.length = 64) (hb : b.length = 64) (h : num a ≠ again b) : readE p (torn a b) = 11 ∧ right p (torn a b) = false := by
  have hr : right p (torn a b) = false := by
    rw [← Bool.not_eq_true]
    intro x
    have := again_right x
    rw [torn_num a b ha, torn_again a b ha] at this
    exact h this.symm
  exact ⟨readE_bad (torn_length a b ha hb) hr, hr⟩
theorem right_nots (a : Int) : right a Slot.nots = false := by
  rw [← Bool.not_eq_true, right_iff]
  rintro ⟨_, h, _⟩
  have := (bytesE_zero _ _ _).1 h
  have e : num Slot.nots = 0 := by decide
  omega
end Blk
end Go.Proofs.YtlchpolheciadaaDoor
/-
  block.sector: the array of a block's sector. Conditions: the table of crc lies as the program's text lays it.
-/
namespace Go.Proofs.YtlchpolheciadaaDoor
open Go.RowKit Fix

/-- the five parts of a sector, laid one behind the other over 64 noughts -/
theorem splice_blk (a n : Nat) (r : List UInt8) (h : r.length = 32) :
    splice (splice (splice (splice (splice zs 0 ((dig n 8).take 8)) 8 ((dig a 2).take 2)) 10 (r.take 32)) 54 ((dig n 6).take 6)) 60 ((dig (Crc.sum (Blk.body a n r)) 4).take 4) = Blk.sect a n r ∧
    (splice (splice (splice (splice zs 0 ((dig n 8).take 8)) 8 ((dig a 2).take 2)) 10 (r.take 32)) 54 ((dig n 6).take 6)).take 60 = Blk.body a n r := by
  have h8 := dig_length n 8
  have h2 := dig_length a 2
  have h6 := dig_length n 6
  have h4 := dig_length (Crc.sum (Blk.body a n r)) 4
  rw [List.take_of_length_le (by omega : (dig n 8).length ≤ 8), List.take_of_length_le (by omega : (dig a 2).length ≤ 2), List.take_of_length_le (by omega : r.length ≤ 32), List.take_of_length_le (by omega : (dig n 6).length ≤ 6), List.take_of_length_le (by omega : (dig (Crc.sum (Blk.body a n r)) 4).length ≤ 4)]
  have e1 : splice zs 0 (dig n 8) = dig n 8 ++ List.replicate 56 0 := by
    unfold splice
    rw [List.take_zero, List.nil_append, h8, List.drop_replicate]
  have e2 : splice (dig n 8 ++ List.replicate 56 (0 : UInt8)) 8 (dig a 2) = (dig n 8 ++ dig a 2) ++ List.replicate 54 0 := by
    unfold splice
    rw [List.take_left' h8, h2, List.drop_append, List.drop_of_length_le (by omega), List.nil_append, h8, List.drop_replicate]
    simp only [List.append_assoc]
  have l10 : (dig n 8 ++ dig a 2).length = 10 := by rw [List.length_append, h8, h2]
  have e3 : splice ((dig n 8 ++ dig a 2) ++ List.replicate 54 (0 : UInt8)) 10 r = (dig n 8 ++ dig a 2 ++ (r ++ List.replicate 12 0)) ++ List.replicate 10 0 := by
    unfold splice
    rw [List.take_left' l10, List.drop_append, List.drop_of_length_le (by omega), List.nil_append, l10, List.drop_replicate]
    rw [show 54 - (10 + r.length - 10) = 12 + 10 by omega, ← List.replicate_append_replicate]
    simp only [List.append_assoc]
  have l54 : (dig n 8 ++ dig a 2 ++ (r ++ List.replicate 12 0)).length = 54 := by rw [List.length_append, l10, List.length_append, List.length_replicate]; omega
  have e4 : splice ((dig n 8 ++ dig a 2 ++ (r ++ List.replicate 12 0)) ++ List.replicate 10 (0 : UInt8)) 54 (dig n 6) = Blk.body a n r ++ List.replicate 4 0 := by
    unfold splice Blk.body
    rw [List.take_left' l54, List.drop_append, List.drop_of_length_le (by omega), List.nil_append, l54, List.drop_replicate, h6]
    simp only [List.append_assoc]
  rw [e1, e2, e3, e4]
  have lb := Blk.body_length a n r h
  refine ⟨?_, List.take_left' lb⟩
  unfold splice Blk.sect Slot.seal_
  rw [List.take_left' lb, h4, List.drop_of_length_le (by rw [List.length_append, lb, List.length_replicate]; exact Nat.le_refl _), List.append_nil]
theorem cutA_0h (g h : Nat) (hh : h ≤ 64) (W : World) : (Instr.sliceAt 89 (.pointer (some ⟨g, 0, none⟩)) (some (.int .i64 0)) (some (.int .i64 (h : Int))) none).run Tryd.prog W = .ok (.slice (some ⟨g, 0, none⟩) h 64) W := by
  rw [run_sliceAt_array_lh W 89 ⟨g, 0, none⟩ elemA .i64 .i64 0 (h : Int) (by omega) (by omega) (by rw [lenA]; omega), oneA, lenA]
  simp [Result.andThen, slicedAt, Addr.add]
def BkSecPost (a n : Nat) (r : List UInt8) (w : World) (e : Ending) (w' : World) : Prop := e = .returned (arr (Blk.sect a n r)) ∧ Below w.heap.size w w'
set_option maxRecDepth 100000 in
set_option maxHeartbeats 2000000 in
theorem bkSector_any (a n : Nat) (A : Option Addr) (r : List UInt8) (c : Nat) (hm : r.length = 32) (ha : a < 64) (hn : n ≤ 1099511627776) (w : World) (ht : TabAt w) (hr : BytesAt w w.heap.size A r) :
    Calls Tryd.prog 56 #[.int .i64 (a : Int), .int .i64 (n : Int), .slice A 32 c] w (BkSecPost a n r w) := by
  have ew : IntKind.u64.wrap (n : Int) = (n : Int) := by rw [IntKind.wrap_u64]; omega
  have q8 : ∀ g W, (Instr.sliceAt 89 (.pointer (some ⟨g, 0, none⟩)) (some (.int .i64 0)) (some (.int .i64 8)) none).run Tryd.prog W = .ok (.slice (some ⟨g, 0, none⟩) 8 64) W := fun g W => cutA_0h g 8 (by decide) W
  have q10 : ∀ g W, (Instr.sliceAt 89 (.pointer (some ⟨g, 0, none⟩)) (some (.int .i64 8)) (some (.int .i64 10)) none).run Tryd.prog W = .ok (.slice (some ⟨g, 8, none⟩) 2 56) W := fun g W => cutA_lh g 8 10 (by decide) (by decide) (by decide) (by decide) W
  have q54 : ∀ g W, (Instr.sliceAt 89 (.pointer (some ⟨g, 0, none⟩)) (some (.int .i64 10)) (some (.int .i64 42)) none).run Tryd.prog W = .ok (.slice (some ⟨g, 10, none⟩) 32 54) W := fun g W => cutA_lh g 10 42 (by decide) (by decide) (by decide) (by decide) W
  have q60 : ∀ g W, (Instr.sliceAt 89 (.pointer (some ⟨g, 0, none⟩)) (some (.int .i64 54)) (some (.int .i64 60)) none).run Tryd.prog W = .ok (.slice (some ⟨g, 54, none⟩) 6 10) W := fun g W => cutA_lh g 54 60 (by decide) (by decide) (by decide) (by decide) W
  have q64 : ∀ g W, (Instr.sliceAt 89 (.pointer (some ⟨g, 0, none⟩)) (some (.int .i64 60)) none none).run Tryd.prog W = .ok (.slice (some ⟨g, 60, none⟩) 4 4) W := fun g W => cutA_l g 60 (by decide) (by decide) W
  have p60 : ∀ g W, (Instr.sliceAt 89 (.pointer (some ⟨g, 0, none⟩)) none (some (.int .i64 60)) none).run Tryd.prog W = .ok (.slice (some ⟨g, 0, none⟩) 60 64) W := fun g W => cutA_h g 60 (by decide) W
  have zp2 : ∀ w : World, Calls Tryd.prog 66 #[.int .i64 (a : Int), .int .i64 2] w fun e w' => ∃ A c, e = .returned (.tuple #[.slice A 2 c, .int .i64 0]) ∧ 2 ≤ c ∧ BytesAt w' w'.heap.size A (dig a 2) ∧ Below w.heap.size w w' := put_good a 2 (by omega) (by omega) (by omega)
  have zp6 : ∀ w : World, Calls Tryd.prog 66 #[.int .i64 (n : Int), .int .i64 6] w fun e w' => ∃ A c, e = .returned (.tuple #[.slice A 6 c, .int .i64 0]) ∧ 6 ≤ c ∧ BytesAt w' w'.heap.size A (dig n 6) ∧ Below w.heap.size w w' := put_good n 6 (by omega) (by omega) (by omega)
  have zl : ∀ w : World, _ := fun w => long_any n w
  have hz64 : zs.length = 64 := by simp
  obtain ⟨hs1, hs2⟩ := splice_blk a n r hm
  obtain ⟨l1, hl1⟩ : ∃ l, l = splice zs 0 ((dig n 8).take 8) := ⟨_, rfl⟩
  rw [← hl1] at hs1 hs2
  obtain ⟨l2, hl2⟩ : ∃ l, l = splice l1 8 ((dig a 2).take 2) := ⟨_, rfl⟩
  rw [← hl2] at hs1 hs2
  obtain ⟨l3, hl3⟩ : ∃ l, l = splice l2 10 (r.take 32) := ⟨_, rfl⟩
  rw [← hl3] at hs1 hs2
  obtain ⟨l4, hl4⟩ : ∃ l, l = splice l3 54 ((dig n 6).take 6) := ⟨_, rfl⟩
  rw [← hl4] at hs1 hs2
  have n1 : l1.length = 64 := by rw [hl1, length_splice _ _ _ (by simp [dig_length])]; simp
  have n2 : l2.length = 64 := by rw [hl2, length_splice _ _ _ (by simp [dig_length]; omega)]; exact n1
  have n3 : l3.length = 64 := by rw [hl3, length_splice _ _ _ (by simp; omega)]; exact n2
  have n4 : l4.length = 64 := by rw [hl4, length_splice _ _ _ (by simp [dig_length]; omega)]; exact n3
  have hbl := Blk.body_length a n r hm
  have hsl := Blk.sect_length a n r hm
  have hcs := Crc.sum_lt (Blk.body a n r)
  have HL := Lib.hid (And.intro hl1 (And.intro hl2 (And.intro hl3 (And.intro hl4 (And.intro hs1 hs2)))))
  have HN := Lib.hid (And.intro n1 (And.intro n2 (And.intro n3 (And.intro n4 (And.intro hbl (And.intro hsl hcs))))))
  have HM := Lib.hid hm
  have d8 := Lib.hid (dig_length n 8)
  have d2 := Lib.hid (dig_length a 2)
  have d6 := Lib.hid (dig_length n 6)
  have d4 := Lib.hid (dig_length (Crc.sum (Blk.body a n r)) 4)
  unfold BkSecPost
  obtain ⟨sc, hsc⟩ : ∃ x, x = Blk.sect a n r := ⟨_, rfl⟩
  rw [← hsc] at hs1 ⊢
  obtain ⟨s0, hs0⟩ : ∃ x, x = Crc.sum (Blk.body a n r) := ⟨_, rfl⟩
  have HS := Lib.hid (And.intro hsc hs0)
  clear hl1 hl2 hl3 hl4 n1 n2 n3 n4 hs1 hs2 hbl hsl hcs hm hsc hs0
  go_enter Tryd.func56, Tryd.ntmps56
  go_wp2_with (first
    | (refine wpList_allocA (w := w) rfl rfl ?_; (intro w1 e1; have b1 : BlkR 89 w1 w.heap.size (cellsOfBytes zs) := (by rw [e1]; exact BlkR.new w _ _); have B1 : Below w.heap.size w w1 := (by rw [e1]; exact (Below.refl _ _).alloc (Nat.le_refl _) _); have s1 : w.heap.size < w1.heap.size := (by rw [e1]; simp); have t1 := ht.below B1 (Nat.le_refl _); have r1 := hr.step B1; clear e1))
    | (go_at_call 66; first
      | ((with_reducible refine (zp2 w1).mono ?_); (rintro e w2 ⟨A2, c2, rfl, hc2, k2, B2⟩; have t2 := t1.below B2 (Nat.le_refl _); have r2 := r1.step B2; have b2 := b1.step B2))
      | ((with_reducible refine (zp6 w2).mono ?_); (rintro e w3 ⟨A3, c3, rfl, hc3, k3, B3⟩; have t3 := t2.below B3 (Nat.le_refl _); have r3 := r2.step B3; have k23 := k2.step B3; have b3 := b2.step B3; have B13 := step_trans B1 (step_trans B2 B3); have s13 := Nat.lt_of_lt_of_le s1 (Nat.le_trans B2.size B3.size))))
    | (refine wpList_allocA (w := w3) rfl rfl ?_; (intro w4 e4; have b4 : BlkR 89 w4 w3.heap.size (cellsOfBytes zs) := (by rw [e4]; exact BlkR.new w3 _ _); have B4 : Below w3.heap.size w3 w4 := (by rw [e4]; exact (Below.refl _ _).alloc (Nat.le_refl _) _); have b14 := b3.step B4; clear e4)))
  have B14 := step_trans B13 B4
  have HH := Lib.hid (And.intro b3 (And.intro B13 s13))
  have HR := Lib.hid (And.intro r3 (And.intro k23 (And.intro k3 t3)))
  clear b1 B1 s1 t1 r1 B2 t2 r2 b2 B3 r3 k23 b3 B13 B14 b14 k2 k3 ht hr t3
  go_region_held3 (fun w' => Below w3.heap.size w3 w') (first | assumption | exact B4.drew) (first
    | (go_at_call 67; refine (zl w4.drew).mono ?_; (rintro e w5 ⟨g5, rfl, hg5, h5, B5⟩; have B5 : Below w4.heap.size w4 w5 := undrew B5; obtain ⟨w6, run6, b6, B6, s6⟩ := run_copyB w5 3 89 w3.heap.size 0 8 64 (some ⟨g5, 0, none⟩) zs (dig n 8) 8 8 d8.out (by decide) (by decide) (b4.step B5) h5.at_ (by simp); rw [← HL.out.1] at b6; have B45 := B4.trans (B5.mono B4.size); have B46 := B45.trans B6; have b6 := Lib.hid b6; have k26 := HR.out.2.1.step B46)))
  clear zl B4 b4 run6 B5 B6 B45 h5 zp2 zp6 q8 q10 d8
  go_wp2_with (first
    | ((with_reducible refine atW w6 ?_); refine wpList_copyB (w := w6) rfl (.tmp 27) (.tmp 28) rfl 89 w3.heap.size 8 2 56 (some ⟨w3.heap.size, 8, none⟩) A2 2 c2 rfl rfl (fun _ => rfl) l1 (dig a 2) d2.out b6.out k26 (by rw [HN.out.1]; decide) w3.heap.size w3 B46 (Nat.le_refl _) ?_; (intro w7 b7 B7; rw [← HL.out.2.1] at b7; have r7 := HR.out.1.step B7))
    | ((with_reducible refine atW w7 ?_); refine wpList_copyB (w := w7) rfl (.tmp 30) (.tmp 31) rfl 89 w3.heap.size 10 32 54 (some ⟨w3.heap.size, 10, none⟩) A 32 c rfl rfl (fun _ => rfl) l2 r HM.out b7.out r7 (by rw [HN.out.2.1]; decide) w3.heap.size w3 B7 (Nat.le_refl _) ?_; (intro w8 b8 B8; rw [← HL.out.2.2.1] at b8; have k38 := HR.out.2.2.1.step B8))
    | ((with_reducible refine atW w8 ?_); refine wpList_copyB (w := w8) rfl (.tmp 33) (.tmp 34) rfl 89 w3.heap.size 54 6 10 (some ⟨w3.heap.size, 54, none⟩) A3 6 c3 rfl rfl (fun _ => rfl) l3 (dig n 6) d6.out b8.out k38 (by rw [HN.out.2.2.1]; decide) w3.heap.size w3 B8 (Nat.le_refl _) ?_; (intro w9 b9 B9; rw [← HL.out.2.2.2.1] at b9)))
  have k9 : BytesAt w9 w9.heap.size (some ⟨w3.heap.size, 0, none⟩) (Blk.body a n r) := by
    have := b9.out.cut 60
    rwa [HL.out.2.2.2.2.2] at this
  have t9 := HR.out.2.2.2.below B9 (Nat.le_refl _)
  have zs0 := sum_n (some ⟨w3.heap.size, 0, none⟩) (Blk.body a n r) 60 64 HN.out.2.2.2.2.1 _ w9.drew t9 (by rw [HN.out.2.2.2.2.1]; decide) k9
  have zw : ∀ w, _ := fun w => word_any (Crc.sum (Blk.body a n r)) HN.out.2.2.2.2.2.2 w
  have b9 := b9.out
  clear b6 k26 b7 b8 r7 k38 B46 B7 B8 zs0
  go_region_held3 (fun w' => Below w3.heap.size w3 w') (first | assumption | exact B9.drew) (first
    | (go_at_call 69; refine (sum_n (some ⟨w3.heap.size, 0, none⟩) (Blk.body a n r) 60 64 HN.out.2.2.2.2.1 _ w9.drew t9 (by rw [HN.out.2.2.2.2.1]; decide) k9).mono ?_; (rintro e w10 ⟨rfl, rfl⟩))
    | (go_at_call 68; refine (zw w9.drew).mono ?_; (rintro e w5 ⟨g5, rfl, hg5, h5, B5⟩; have B5 : Below w9.heap.size w9 w5 := undrew B5; obtain ⟨w6, run6, b6, B6, s6⟩ := run_copyB w5 3 89 w3.heap.size 60 4 4 (some ⟨g5, 0, none⟩) l4 (dig (Crc.sum (Blk.body a n r)) 4) 4 4 d4.out (by decide) (by decide) (b9.step B5) h5.at_ (by rw [HN.out.2.2.2.1]; decide); rw [HL.out.2.2.2.2.1] at b6; have B95 := B9.trans (B5.mono B9.size); have B96 := B95.trans B6; have b6 := Lib.hid b6)))
  clear b9 k9 t9 B5 B6 B95 zw run6 s6 h5 hg5
  go_wp2_with (first
    | ((with_reducible refine atW w6 ?_); refine wpList_loadA (w := w6) rfl (.tmp 11) rfl w3.heap.size (Blk.sect a n r) rfl HN.out.2.2.2.2.2.1 b6.out ?_)
    | ((with_reducible refine atW w6 ?_); refine wpList_storeA (w := w6) rfl (.tmp 6) (.tmp 41) rfl w.heap.size (Blk.sect a n r) zs rfl rfl HN.out.2.2.2.2.2.1 (by simp) (HH.out.1.below B96 HH.out.2.2) ?_; (intro w7 b7 B7 s7 _)))
  exact bodyPost_ret (v := arr (Blk.sect a n r)) (w := w7) (results_cell_one Tryd.results56 _ _ _ _ _ rfl (loadA HN.out.2.2.2.2.2.1 b7)) rfl ⟨by rw [HS.out.1], HH.out.2.1.trans ((B96.mono HH.out.2.1.size).trans B7)⟩
end Go.Proofs.YtlchpolheciadaaDoor
/-
  block.Bytes: what it tells. Conditions: the table of crc lies as the program's text lays it; the bytes can be read.
-/
namespace Go.Proofs.YtlchpolheciadaaDoor
open Go.RowKit Fix

def BbPost (a n : Int) (r : List UInt8) (w : World) (e : Ending) (w' : World) : Prop :=
  ∃ A c, e = .returned (.tuple #[.slice A (Blk.bytesB a n r).length c, .int .i64 (Blk.bytesE a n r)]) ∧ c ≤ 9223372036854775807 ∧ Whole w' w.heap.size A c (Blk.bytesB a n r) ∧ Below w.heap.size w w'
theorem BbPost.none_ {a n : Int} {r : List UInt8} {x : Int} (h : Blk.bytesE a n r = x) (h0 : x ≠ 0) (w : World) : BbPost a n r w (.returned (.tuple #[.slice none 0 0, .int .i64 x])) w := by
  have e := Blk.bytesB_bad a n r (by rw [h]; exact h0)
  exact ⟨none, 0, by rw [h, e]; rfl, by decide, by rw [e]; exact Whole.none_, Below.refl _ _⟩
set_option maxRecDepth 100000 in
theorem blockBytes_any (a n : Int) (A : Option Addr) (r : List UInt8) (m c : Nat) (hm : r.length = m) (w : World) (ht : TabAt w) (hr : BytesAt w w.heap.size A r) : Calls Tryd.prog 37 #[.int .i64 a, .int .i64 n, .slice A m c] w (BbPost a n r w) := by
  by_cases hx : a < 0 ∨ 64 ≤ a ∨ n < 1 ∨ 1099511627776 < n
  · have hp := Lib.hid (BbPost.none_ (Blk.bytesE_range a n r hx) (by decide) w)
    by_cases h1 : a < 0
    · clear hm hr hx
      go_enter Tryd.func37, Tryd.ntmps37
      go_wp2
      go_ret2
      exact hp.out
    · by_cases h2 : 64 ≤ a
      · clear hm hr hx
        go_enter Tryd.func37, Tryd.ntmps37
        go_wp2
        go_ret2
        exact hp.out
      · by_cases h3 : n < 1
        · clear hm hr hx
          go_enter Tryd.func37, Tryd.ntmps37
          go_wp2
          go_ret2
          exact hp.out
        · have h4 : 1099511627776 < n := by omega
          clear hm hr hx
          go_enter Tryd.func37, Tryd.ntmps37
          go_wp2
          go_ret2
          exact hp.out
  · have h1 : ¬ a < 0 := by omega
    have h2 : ¬ 64 ≤ a := by omega
    have h3 : ¬ n < 1 := by omega
    have h4 : decide (1099511627776 < n) = false := by simp; omega
    by_cases hl : r.length = 32
    · obtain ⟨k, rfl⟩ : ∃ k : Nat, n = (k : Int) := ⟨n.toNat, by omega⟩
      obtain ⟨b, rfl⟩ : ∃ b : Nat, a = (b : Int) := ⟨a.toNat, by omega⟩
      have hz : Blk.bytesE (b : Int) (k : Int) r = 0 := (Blk.bytesE_zero _ _ _).2 (by omega)
      have e2 := Blk.bytesB_good b k r hz
      have hse := Blk.sect_length b k r hl
      unfold BbPost
      rw [hz, e2, hse]
      obtain rfl : m = 32 := by omega
      have z0 := bkSector_any b k A r c hl (by omega) (by omega) w ht hr
      unfold BkSecPost at z0
      have hz64 := Lib.hid hse
      have qa := fun g W => cutA_all g W
      clear e2 hx hl hm hr hse hz
      go_enter Tryd.func37, Tryd.ntmps37
      go_wp2_with (first
        | (go_at_call 56; refine z0.mono ?_; (rintro e w1 ⟨rfl, B1⟩))
        | ((with_reducible refine atW w1 ?_); refine wpList_allocA (w := w1) rfl rfl ?_; (intro w2 e2; have b2 : BlkR 89 w2 w1.heap.size (cellsOfBytes zs) := (by rw [e2]; exact BlkR.new w1 _ _); have B2 : Below w1.heap.size w1 w2 := (by rw [e2]; exact (Below.refl _ _).alloc (Nat.le_refl _) _); clear e2))
        | ((with_reducible refine atW w2 ?_); refine wpList_storeA (w := w2) rfl (.tmp 8) (.tmp 29) rfl w1.heap.size (Blk.sect b k r) zs rfl rfl hz64.out (by simp) b2 ?_; (intro w3 b3 B3 s3 _)))
      go_ret2
      exact ⟨some ⟨w1.heap.size, 0, none⟩, 64, rfl, by decide, .inr ⟨w1.heap.size, 0, _, rfl, B1.size, by rw [List.replicate_zero, List.append_nil]; exact b3, by rw [hz64.out]⟩, B1.trans ((B2.trans B3).mono B1.size)⟩
    · have hne : ((m : Int) != 32) = true := by simp; omega
      have hp := Lib.hid (BbPost.none_ (Blk.bytesE_len a n r hx hl) (by decide) w)
      clear hm hr hx hl
      go_enter Tryd.func37, Tryd.ntmps37
      go_wp2
      go_ret2
      exact hp.out
end Go.Proofs.YtlchpolheciadaaDoor
/-
  block.Read: what it tells. Conditions: the table of crc lies as the program's text lays it; the bytes can be read.
-/
namespace Go.Proofs.YtlchpolheciadaaDoor
open Go.RowKit Fix

theorem bkNum (l : List UInt8) (h : l.length = 64) : getN l 0 8 = Blk.num l := by
  unfold getN inN inR Blk.num
  rw [h]
  rfl
def BrPost (a : Int) (l : List UInt8) (w : World) (e : Ending) (w' : World) : Prop :=
  ∃ A c, e = .returned (.tuple #[.int .i64 (Blk.readN a l : Int), .slice A (Blk.readB a l).length c, .int .i64 (Blk.readE a l)]) ∧ c ≤ 9223372036854775807 ∧ Whole w' w.heap.size A c (Blk.readB a l) ∧ Below w.heap.size w w'
theorem BrPost.none_ {a : Int} {l : List UInt8} {x : Int} {w w' : World} (h : Blk.right a l = false) (hx : Blk.readE a l = x) (hB : Below w.heap.size w w') : BrPost a l w (.returned (.tuple #[.int .i64 0, .slice none 0 0, .int .i64 x])) w' :=
  ⟨none, 0, by rw [hx]; simp [Blk.readN, Blk.readB, h], by decide, by simp only [Blk.readB, h]; exact Whole.none_, hB⟩
theorem cut32 (ad : Addr) (c : Nat) (hc : 42 ≤ c) (W : World) : (Instr.slice 22 (.slice (some ad) 64 c) (some (.int .i64 10)) (some (.int .i64 42)) none).run Tryd.prog W = .ok (.slice (some (ad.add 10)) 32 (c - 10)) W := by
  have := cut_both (some ad) 64 c 10 32 (by omega) W
  rwa [show cutA (some ad) 10 c = some (ad.add 10) by unfold cutA; rw [if_neg (by omega)]; rfl, show ((10 : Nat) : Int) = 10 from rfl, show (10 : Int) + ((32 : Nat) : Int) = 42 from rfl] at this
theorem bk_cut {w : World} {ad : Addr} {c : Nat} {l : List UInt8} (hl : l.length ≤ c) (hc : 42 ≤ c) (h : BytesAt w w.heap.size (some ad) l) : BytesAt w w.heap.size (some (ad.add 10)) (Blk.dat l) := by
  have := (h.drop 10 c (by omega)).take 32
  rwa [show cutA (some ad) 10 c = some (ad.add 10) by unfold cutA; rw [if_neg (by omega)]; rfl] at this
set_option maxRecDepth 100000 in
set_option maxHeartbeats 2000000 in
theorem blockRead_any (a : Int) (A : Option Addr) (l : List UInt8) (m c : Nat) (hm : l.length = m) (hmc : m ≤ c) (w : World) (ht : TabAt w) (hr : BytesAt w w.heap.size A l) : Calls Tryd.prog 45 #[.slice A m c, .int .i64 a] w (BrPost a l w) := by
  by_cases h64 : m = 64
  · subst h64
    have hA : ∃ ad, A = some ad := by
      obtain ⟨ad, e, _⟩ := hr (by rintro rfl; simp at hm)
      exact ⟨ad, e⟩
    obtain ⟨ad, rfl⟩ := hA
    have e64 := Lib.hid hm
    have q10 := fun W => cut32 ad c (by omega) W
    have zg : ∀ w1, BytesAt w1 w1.heap.size (some ad) l → _ := fun w1 h => getLong_any (some ad) l c 0 w1 (by rw [e64.out]; exact hmc) (by rw [e64.out]; decide) h
    simp only [bkNum l hm] at zg
    rw [hm] at zg
    simp only [flt, show getE 64 0 8 = 0 from rfl, show getA 64 0 8 = 0 from rfl] at zg
    have hdl := Blk.dat_length hm
    have hcut : ∀ w1, BytesAt w1 w1.heap.size (some ad) l → BytesAt w1 w1.heap.size (some (ad.add 10)) (Blk.dat l) := fun w1 h => bk_cut (c := c) (by omega) (by omega) h
    have zc : ∀ w1, BytesAt w1 w1.heap.size (some (ad.add 10)) (Blk.dat l) → _ := fun w1 h => clone_any (Blk.dat l) (ad.add 10) 32 (c - 10) hdl (by decide) w1 h
    obtain ⟨nn, hnn⟩ : ∃ x, IntKind.i64.wrap (Blk.num l : Int) = x := ⟨_, rfl⟩
    have zb := fun w1 A1 c1 t h => blockBytes_any a nn A1 (Blk.dat l) 32 c1 hdl w1 t h
    unfold BbPost at zb
    have N1 := fun h => Blk.not_right a l nn hnn h
    have N2 := fun h => Blk.num_wrap a l nn hm hnn h
    replace hcut := Lib.hid hcut
    by_cases hz : Blk.bytesE a nn (Blk.dat l) = 0
    · have en := N2 hz
      have ez : Blk.bytesE a (Blk.num l) (Blk.dat l) = 0 := by rw [← en]; exact hz
      obtain ⟨ha0, _⟩ := (Blk.bytesE_zero _ _ _).1 hz
      obtain ⟨b, rfl⟩ : ∃ b : Nat, a = (b : Int) := ⟨a.toNat, by omega⟩
      have e2 : Blk.bytesB (b : Int) nn (Blk.dat l) = Blk.sect b (Blk.num l) (Blk.dat l) := by rw [en]; exact Blk.bytesB_good b (Blk.num l) (Blk.dat l) ez
      have hsl := Blk.sect_length b (Blk.num l) (Blk.dat l) hdl
      rw [hz, e2, hsl] at zb
      have HS := Lib.hid hsl
      rw [en] at zb hnn
      by_cases hs : Blk.sect b (Blk.num l) (Blk.dat l) = l
      · have hright : Blk.right (b : Int) l = true := by
          rw [Blk.right_iff, Int.toNat_natCast]
          exact ⟨hm, ez, hs⟩
        have hp : ∀ A' c' w', c' ≤ 9223372036854775807 → Whole w' w.heap.size A' c' (Blk.dat l) → Below w.heap.size w w' → BrPost (b : Int) l w (.returned (.tuple #[.int .i64 (Blk.num l : Int), .slice A' 32 c', .int .i64 0])) w' := fun A' c' w' h1 h2 h3 =>
          ⟨A', c', by rw [(Blk.readE_zero _ _).2 hright]; simp only [Blk.readN, Blk.readB, hright, if_true]; rw [hdl], h1, by simp only [Blk.readB, hright, if_true]; exact h2, h3⟩
        have zq2 : ∀ w1 A1 c1, BytesAt w1 w1.heap.size (some ad) l → BytesAt w1 w1.heap.size A1 (Blk.sect b (Blk.num l) (Blk.dat l)) → _ := fun w1 A1 c1 h1 h2 => equal_any (some ad) l 64 c e64.out A1 (Blk.sect b (Blk.num l) (Blk.dat l)) 64 c1 HS.out w1 h1 h2 true (by simpa using hs.symm)
        replace hp := Lib.hid hp
        obtain ⟨n, hn⟩ : ∃ n, n = Blk.num l := ⟨_, rfl⟩
        obtain ⟨d, hd⟩ : ∃ x, x = Blk.dat l := ⟨_, rfl⟩
        rw [← hn, ← hd] at zb zq2 hp
        rw [← hn] at hnn zg
        rw [← hd] at zc hcut
        obtain ⟨s, hsx⟩ : ∃ x, x = Blk.sect b n d := ⟨_, rfl⟩
        rw [← hsx] at zb zq2
        clear hm hmc hn hd hs hright hsl hdl hz ez en e2 ha0 N1 N2 hsx
        go_enter Tryd.func45, Tryd.ntmps45
        go_wp2_with (first
          | (go_at_call 61; ((with_reducible refine (zq2 w6 A6 c6 r6 s6).mono ?_); (rintro e w7 ⟨rfl, rfl⟩)))
          | (go_at_call 59; refine (zg _ hr).mono ?_; (rintro e w3 ⟨rfl, B3⟩; have B4' := step_trans B3 (fltBelow w3 0 0); have rr4 := (hr.step B3).step (fltBelow w3 0 0); have r4 := hcut.out _ rr4))
          | (go_at_call 60; refine (zc _ r4).mono ?_; (rintro e w5 ⟨A5, c5, rfl, hc5, o5, B5⟩; have B5' := step_trans B4' B5; have t5 := ht.below B5' (Nat.le_refl _); have r5 := rr4.step B5; have o5 := o5.less B4'.size))
          | (go_at_call 37; (with_reducible refine (zb w5 A5 c5 t5 o5.bytes).mono ?_); (rintro e w6 ⟨A6, c6, rfl, hc6, o6, B6⟩; have r6 := r5.step B6; have s6 := o6.bytes; have HC := Lib.hid (And.intro hc5 (And.intro (o5.step B6) (step_trans B5' B6))); clear o5 o6)))
        go_ret3
        exact hp.out A5 c5 w6 HC.out.1 HC.out.2.1 HC.out.2.2
      · have hright : Blk.right (b : Int) l = false := by
          rw [← Bool.not_eq_true, Blk.right_iff, Int.toNat_natCast]
          exact fun x => hs x.2.2
        have hp : ∀ w', Below w.heap.size w w' → BrPost (b : Int) l w (.returned (.tuple #[.int .i64 0, .slice none 0 0, .int .i64 11])) w' := fun w' hB => BrPost.none_ hright (Blk.readE_bad hm hright) hB
        have zq2 : ∀ w1 A1 c1, BytesAt w1 w1.heap.size (some ad) l → BytesAt w1 w1.heap.size A1 (Blk.sect b (Blk.num l) (Blk.dat l)) → _ := fun w1 A1 c1 h1 h2 => equal_any (some ad) l 64 c e64.out A1 (Blk.sect b (Blk.num l) (Blk.dat l)) 64 c1 HS.out w1 h1 h2 false (by simpa using fun e => hs e.symm)
        replace hp := Lib.hid hp
        obtain ⟨n, hn⟩ : ∃ n, n = Blk.num l := ⟨_, rfl⟩
        obtain ⟨d, hd⟩ : ∃ x, x = Blk.dat l := ⟨_, rfl⟩
        rw [← hn, ← hd] at zb zq2
        rw [← hn] at hnn zg
        rw [← hd] at zc hcut
        obtain ⟨s, hsx⟩ : ∃ x, x = Blk.sect b n d := ⟨_, rfl⟩
        rw [← hsx] at zb zq2
        clear hm hmc hn hd hs hright hsl hdl hz ez en e2 ha0 N1 N2 hsx
        go_enter Tryd.func45, Tryd.ntmps45
        go_wp2_with (first
          | (go_at_call 61; ((with_reducible refine (zq2 w6 A6 c6 r6 s6).mono ?_); (rintro e w7 ⟨rfl, rfl⟩)))
          | (go_at_call 59; refine (zg _ hr).mono ?_; (rintro e w3 ⟨rfl, B3⟩; have B4' := step_trans B3 (fltBelow w3 0 0); have rr4 := (hr.step B3).step (fltBelow w3 0 0); have r4 := hcut.out _ rr4))
          | (go_at_call 60; refine (zc _ r4).mono ?_; (rintro e w5 ⟨A5, c5, rfl, hc5, o5, B5⟩; have B5' := step_trans B4' B5; have t5 := ht.below B5' (Nat.le_refl _); have r5 := rr4.step B5; have o5 := o5.less B4'.size))
          | (go_at_call 37; (with_reducible refine (zb w5 A5 c5 t5 o5.bytes).mono ?_); (rintro e w6 ⟨A6, c6, rfl, hc6, o6, B6⟩; have r6 := r5.step B6; have s6 := o6.bytes; have HC := Lib.hid (step_trans B5' B6); clear o5 o6)))
        go_ret3
        exact hp.out _ HC.out
    · have hright := N1 hz
      have hp : ∀ w', Below w.heap.size w w' → BrPost a l w (.returned (.tuple #[.int .i64 0, .slice none 0 0, .int .i64 11])) w' := fun w' hB => BrPost.none_ hright (Blk.readE_bad hm hright) hB
      replace hp := Lib.hid hp
      obtain ⟨be, hbe⟩ : ∃ n, n = Blk.bytesE a nn (Blk.dat l) := ⟨_, rfl⟩
      obtain ⟨bb, hbb⟩ : ∃ n, n = Blk.bytesB a nn (Blk.dat l) := ⟨_, rfl⟩
      rw [← hbe, ← hbb] at zb
      rw [← hbe] at hz
      have hne : (be != 0) = true := by simpa using hz
      obtain ⟨n, hn⟩ : ∃ n, n = Blk.num l := ⟨_, rfl⟩
      obtain ⟨d, hd⟩ : ∃ x, x = Blk.dat l := ⟨_, rfl⟩
      rw [← hn] at hnn zg
      rw [← hd] at zc hcut zb
      clear hm hmc hn hd hright hdl hz N1 N2 hbe hbb
      go_enter Tryd.func45, Tryd.ntmps45
      go_wp2_with (first
        | (go_at_call 59; refine (zg _ hr).mono ?_; (rintro e w3 ⟨rfl, B3⟩; have B4' := step_trans B3 (fltBelow w3 0 0); have rr4 := (hr.step B3).step (fltBelow w3 0 0); have r4 := hcut.out _ rr4))
        | (go_at_call 60; refine (zc _ r4).mono ?_; (rintro e w5 ⟨A5, c5, rfl, hc5, o5, B5⟩; have B5' := step_trans B4' B5; have t5 := ht.below B5' (Nat.le_refl _)))
        | (go_at_call 37; (with_reducible refine (zb w5 A5 c5 t5 o5.bytes).mono ?_); (rintro e w6 ⟨A6, c6, rfl, hc6, o6, B6⟩)))
      go_ret3
      exact hp.out _ (step_trans B5' B6)
  · have hne : ((m : Int) != 64) = true := by simp; omega
    have hp := Lib.hid (BrPost.none_ (a := a) (w := w) (w' := w) (Blk.right_len (b := l) (by rw [hm]; exact h64)) (Blk.readE_len (by rw [hm]; exact h64)) (Below.refl _ _))
    clear hr hm h64
    go_enter Tryd.func45, Tryd.ntmps45
    go_wp2
    go_ret3
    exact hp.out
end Go.Proofs.YtlchpolheciadaaDoor
