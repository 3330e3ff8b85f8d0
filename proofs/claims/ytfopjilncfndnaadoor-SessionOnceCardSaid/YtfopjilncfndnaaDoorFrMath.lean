/-
  A datagram, by the document: plain mathematics. Conditions: none.
-/
import Derived.Test.YtfopjilncfndnaaDoorFx
import Derived.Test.YtfopjilncfndnaaDoorCr
namespace Go.Proofs.YtfopjilncfndnaaDoor
open Fix

namespace Frm
/-- what stands ahead of the payload -/
def head (n : Nat) : List UInt8 := [84, 68, 1] ++ dig n 2
def body (p : List UInt8) : List UInt8 := head p.length ++ p
def enc (p : List UInt8) : List UInt8 := body p ++ dig (Crc.sum (body p)) 4
def putE (p : List UInt8) : Int := if p.length ≤ 200 then 0 else 3
def putB (p : List UInt8) : List UInt8 := if p.length ≤ 200 then enc p else []
/-- how long the payload is, and its checksum, as bytes say -/
def size (l : List UInt8) : Nat := le ((l.drop 3).take 2)
def told (l : List UInt8) : Nat := le (l.drop (l.length - 4))
def bare (l : List UInt8) : List UInt8 := l.take (l.length - 4)
def wrongE (l : List UInt8) : Int :=
  if l.length < 9 then 4 else if l.take 2 ≠ [84, 68] then 220 else if l.getD 2 0 ≠ 1 then 221 else if 200 < size l then 3 else if l.length ≠ size l + 9 then 4 else if Crc.sum (bare l) ≠ told l then 11 else 0
def wrongA (l : List UInt8) : Int :=
  if l.length < 9 then l.length else if l.take 2 ≠ [84, 68] then 0 else if l.getD 2 0 ≠ 1 then 2 else if 200 < size l then 3 else if l.length ≠ size l + 9 then 3 else if Crc.sum (bare l) ≠ told l then (size l + 5 : Nat) else 0
def pay (l : List UInt8) : List UInt8 := (l.drop 5).take (l.length - 9)
def getB (l : List UInt8) : List UInt8 := if wrongE l = 0 then pay l else []

theorem head_length (n : Nat) : (head n).length = 5 := by simp [head, dig_length]
theorem body_length (p : List UInt8) : (body p).length = p.length + 5 := by rw [body, List.length_append, head_length]; omega
theorem enc_length (p : List UInt8) : (enc p).length = p.length + 9 := by rw [enc, List.length_append, body_length, dig_length]
theorem wrongE_1 {l : List UInt8} (h : l.length < 9) : wrongE l = 4 ∧ wrongA l = l.length := by simp [wrongE, wrongA, h]
theorem wrongE_2 {l : List UInt8} (h : ¬ l.length < 9) (h2 : l.take 2 ≠ [84, 68]) : wrongE l = 220 ∧ wrongA l = 0 := by unfold wrongE wrongA; rw [if_neg h, if_neg h, if_pos h2, if_pos h2]; exact ⟨rfl, rfl⟩
theorem wrongE_3 {l : List UInt8} (h : ¬ l.length < 9) (h2 : l.take 2 = [84, 68]) (h3 : l.getD 2 0 ≠ 1) : wrongE l = 221 ∧ wrongA l = 2 := by
  unfold wrongE wrongA; rw [if_neg h, if_neg h, if_neg (not_not_intro h2), if_neg (not_not_intro h2), if_pos h3, if_pos h3]; exact ⟨rfl, rfl⟩
theorem wrongE_4 {l : List UInt8} (h : ¬ l.length < 9) (h2 : l.take 2 = [84, 68]) (h3 : l.getD 2 0 = 1) (h4 : 200 < size l) : wrongE l = 3 ∧ wrongA l = 3 := by
  unfold wrongE wrongA; rw [if_neg h, if_neg h, if_neg (not_not_intro h2), if_neg (not_not_intro h2), if_neg (not_not_intro h3), if_neg (not_not_intro h3), if_pos h4, if_pos h4]; exact ⟨rfl, rfl⟩
theorem wrongE_5 {l : List UInt8} (h : ¬ l.length < 9) (h2 : l.take 2 = [84, 68]) (h3 : l.getD 2 0 = 1) (h4 : ¬ 200 < size l) (h5 : l.length ≠ size l + 9) : wrongE l = 4 ∧ wrongA l = 3 := by
  unfold wrongE wrongA; rw [if_neg h, if_neg h, if_neg (not_not_intro h2), if_neg (not_not_intro h2), if_neg (not_not_intro h3), if_neg (not_not_intro h3), if_neg h4, if_neg h4, if_pos h5, if_pos h5]; exact ⟨rfl, rfl⟩
theorem wrongE_6 {l : List UInt8} (h : ¬ l.length < 9) (h2 : l.take 2 = [84, 68]) (h3 : l.getD 2 0 = 1) (h4 : ¬ 200 < size l) (h5 : l.length = size l + 9) (h6 : Crc.sum (bare l) ≠ told l) : wrongE l = 11 ∧ wrongA l = (size l + 5 : Nat) := by
  unfold wrongE wrongA; rw [if_neg h, if_neg h, if_neg (not_not_intro h2), if_neg (not_not_intro h2), if_neg (not_not_intro h3), if_neg (not_not_intro h3), if_neg h4, if_neg h4, if_neg (not_not_intro h5), if_neg (not_not_intro h5), if_pos h6, if_pos h6]; exact ⟨rfl, rfl⟩
theorem wrongE_7 {l : List UInt8} (h : ¬ l.length < 9) (h2 : l.take 2 = [84, 68]) (h3 : l.getD 2 0 = 1) (h4 : ¬ 200 < size l) (h5 : l.length = size l + 9) (h6 : Crc.sum (bare l) = told l) : wrongE l = 0 ∧ wrongA l = 0 := by
  unfold wrongE wrongA; rw [if_neg h, if_neg h, if_neg (not_not_intro h2), if_neg (not_not_intro h2), if_neg (not_not_intro h3), if_neg (not_not_intro h3), if_neg h4, if_neg h4, if_neg (not_not_intro h5), if_neg (not_not_intro h5), if_neg (not_not_intro h6), if_neg (not_not_intro h6)]; exact ⟨rfl, rfl⟩
/-- bytes that nothing is wrong with -/
theorem right_inv {l : List UInt8} (h : wrongE l = 0) : ¬ l.length < 9 ∧ l.take 2 = [84, 68] ∧ l.getD 2 0 = 1 ∧ ¬ 200 < size l ∧ l.length = size l + 9 ∧ Crc.sum (bare l) = told l := by
  by_cases h1 : l.length < 9
  · rw [(wrongE_1 h1).1] at h; cases h
  by_cases h2 : l.take 2 = [84, 68]
  case neg => rw [(wrongE_2 h1 h2).1] at h; cases h
  by_cases h3 : l.getD 2 0 = 1
  case neg => rw [(wrongE_3 h1 h2 h3).1] at h; cases h
  by_cases h4 : 200 < size l
  · rw [(wrongE_4 h1 h2 h3 h4).1] at h; cases h
  by_cases h5 : l.length = size l + 9
  case neg => rw [(wrongE_5 h1 h2 h3 h4 h5).1] at h; cases h
  by_cases h6 : Crc.sum (bare l) = told l
  case neg => rw [(wrongE_6 h1 h2 h3 h4 h5 h6).1] at h; cases h
  exact ⟨h1, h2, h3, h4, h5, h6⟩
theorem right_A {l : List UInt8} (h : wrongE l = 0) : wrongA l = 0 := by
  obtain ⟨h1, h2, h3, h4, h5, h6⟩ := right_inv h
  exact (wrongE_7 h1 h2 h3 h4 h5 h6).2
theorem wrongA_in (l : List UInt8) : 0 ≤ wrongA l ∧ wrongA l ≤ l.length := by
  unfold wrongA
  split
  · omega
  split
  · omega
  split
  · omega
  split
  · omega
  split
  · omega
  split
  · omega
  · omega
/-- the first five bytes, put together out of what is known of them -/
theorem take5 {l : List UInt8} (h1 : 5 ≤ l.length) (h2 : l.take 2 = [84, 68]) (h3 : l.getD 2 0 = 1) : l.take 5 = head (size l) := by
  have e1 : l.take 5 = l.take 2 ++ ((l.drop 2).take 1 ++ (l.drop 3).take 2) := by
    rw [show (5 : Nat) = 2 + 3 from rfl, List.take_add, show (3 : Nat) = 1 + 2 from rfl, List.take_add, List.drop_drop]
  have e2 : (l.drop 2).take 1 = [1] := by
    rw [List.drop_eq_getElem_cons (by omega : 2 < l.length)]
    simp only [List.take_succ_cons, List.take_zero]
    rw [← h3]
    simp [List.getD_eq_getElem?_getD, List.getElem?_eq_getElem (by omega : 2 < l.length)]
  have e3 : (l.drop 3).take 2 = dig (size l) 2 := by
    have := dig_le ((l.drop 3).take 2)
    rw [List.length_take, List.length_drop, Nat.min_eq_left (by omega)] at this
    exact this.symm
  rw [e1, h2, e2, e3]
  rfl
theorem take_enc (p : List UInt8) (k : Nat) (hk : k ≤ 5) : (enc p).take k = (head p.length).take k := by
  unfold enc body
  rw [List.append_assoc, List.take_append_of_le_length (by rw [head_length]; exact hk)]
theorem drop_enc (p m : List UInt8) : ((enc p ++ m).drop 3).take 2 = dig p.length 2 := by
  have e : enc p ++ m = [84, 68, 1] ++ (dig p.length 2 ++ (p ++ (dig (Crc.sum (body p)) 4 ++ m))) := by
    simp only [enc, body, head, List.append_assoc]
  rw [e, List.drop_left' (by rfl), List.take_left' (dig_length _ _)]
theorem size_enc (p m : List UInt8) (h : p.length ≤ 200) : size (enc p ++ m) = p.length := by
  unfold size
  rw [drop_enc, le_dig_self _ _ (by omega)]
theorem take2_enc (p m : List UInt8) : (enc p ++ m).take 2 = [84, 68] := by
  rw [List.take_append_of_le_length (by rw [enc_length]; omega), take_enc p 2 (by decide)]
  rfl
theorem two_enc (p m : List UInt8) : (enc p ++ m).getD 2 0 = 1 := by
  have e : (enc p ++ m).take 3 = [84, 68, 1] := by
    rw [List.take_append_of_le_length (by rw [enc_length]; omega), take_enc p 3 (by decide)]
    rfl
  have h : (enc p ++ m).getD 2 0 = ((enc p ++ m).take 3).getD 2 0 := by
    rw [List.getD_eq_getElem?_getD, List.getD_eq_getElem?_getD, List.getElem?_take_of_lt (by decide)]
  rw [h, e]
  rfl
theorem bare_enc (p : List UInt8) : bare (enc p) = body p := by
  unfold bare
  rw [enc_length]
  unfold enc
  exact List.take_left' (by rw [body_length]; omega)
theorem told_enc (p : List UInt8) : told (enc p) = Crc.sum (body p) := by
  unfold told
  rw [enc_length]
  unfold enc
  rw [List.drop_left' (by rw [body_length]; omega)]
  exact le_dig_self _ _ (by have := Crc.sum_lt (body p); omega)
/-- what is put is got -/
theorem get_put (p : List UInt8) (h : p.length ≤ 200) : wrongE (enc p) = 0 ∧ pay (enc p) = p := by
  have e0 : enc p ++ [] = enc p := List.append_nil _
  have hs := size_enc p [] h
  have h2 := take2_enc p []
  have h3 := two_enc p []
  rw [e0] at hs h2 h3
  refine ⟨(wrongE_7 (by rw [enc_length]; omega) h2 h3 (by omega) (by rw [hs, enc_length]) (by rw [bare_enc, told_enc])).1, ?_⟩
  unfold pay
  rw [enc_length]
  unfold enc body
  rw [List.append_assoc, List.drop_left' (head_length _), show p.length + 9 - 9 = p.length by omega, List.take_left' rfl]
/-- what is got is put as the same bytes -/
theorem put_get (l : List UInt8) (h : wrongE l = 0) : enc (pay l) = l ∧ (pay l).length ≤ 200 ∧ l.length = (pay l).length + 9 := by
  obtain ⟨h1, h2, h3, h4, h5, h6⟩ := right_inv h
  have hp : (pay l).length = size l := by unfold pay; rw [List.length_take, List.length_drop]; omega
  have hb : body (pay l) = bare l := by
    unfold body
    rw [hp, ← take5 (by omega) h2 h3]
    unfold pay bare
    rw [← List.take_add]
    congr 1
    omega
  refine ⟨?_, by omega, by omega⟩
  unfold enc
  rw [hb, h6]
  unfold told
  have := dig_le (l.drop (l.length - 4))
  rw [List.length_drop, show l.length - (l.length - 4) = 4 by omega] at this
  rw [this]
  exact List.take_append_drop _ _
/-- cut short -/
theorem cut_bad (p : List UInt8) (h : p.length ≤ 200) (k : Nat) (hk : k < p.length + 9) : wrongE ((enc p).take k) = 4 := by
  have hl : ((enc p).take k).length = k := by rw [List.length_take, enc_length]; omega
  by_cases h1 : k < 9
  · exact (wrongE_1 (by omega)).1
  · have e0 : enc p ++ [] = enc p := List.append_nil _
    have h2 := take2_enc p []
    have h3 := two_enc p []
    have hs := size_enc p [] h
    rw [e0] at hs h2 h3
    have g2 : ((enc p).take k).take 2 = [84, 68] := by rw [List.take_take, Nat.min_eq_left (by omega)]; exact h2
    have g3 : ((enc p).take k).getD 2 0 = 1 := by
      rw [List.getD_eq_getElem?_getD, List.getElem?_take_of_lt (by omega), ← List.getD_eq_getElem?_getD]; exact h3
    have gs : size ((enc p).take k) = p.length := by
      rw [← hs]
      unfold size
      rw [List.drop_take, List.take_take, Nat.min_eq_left (by omega)]
    exact (wrongE_5 (by omega) g2 g3 (by omega) (by omega)).1
/-- more bytes -/
theorem more_bad (p m : List UInt8) (h : p.length ≤ 200) (hm : m ≠ []) : wrongE (enc p ++ m) = 4 := by
  have hl : (enc p ++ m).length = p.length + 9 + m.length := by rw [List.length_append, enc_length]
  have hm0 : m.length ≠ 0 := fun e => hm (List.length_eq_zero_iff.1 e)
  exact (wrongE_5 (by omega) (take2_enc p m) (two_enc p m) (by rw [size_enc p m h]; omega) (by rw [size_enc p m h]; omega)).1
theorem dig_word (n : Nat) : Fix.dig n 4 = Crc.word n := by simp [Fix.dig, Crc.word, List.range, List.range.loop]
theorem sum_right {l : List UInt8} (h : wrongE l = 0) : Crc.sum l = 558161692 := by
  rw [← (put_get l h).1]
  unfold enc
  rw [dig_word]
  exact (Crc.sum_tail _ _ (Crc.sum_lt _)).2 rfl
/-- bits turned within 32 in a row -/
theorem turned_bad (l k : List UInt8) (hl : Crc.sum l = 558161692) (hk : k.length = l.length) (f m : Nat) (hm : m ≠ 0) (hm2 : m < 4294967296) (hf : f + 32 ≤ 8 * l.length) (hn : Crc.num k = Crc.num l ^^^ (2 ^ f * m)) : wrongE k ≠ 0 := by
  intro h
  have e := sum_right h
  exact Crc.sum_burst l k hk.symm f m hm hm2 (by omega) hn (by rw [e, hl])
end Frm
end Go.Proofs.YtfopjilncfndnaaDoor
