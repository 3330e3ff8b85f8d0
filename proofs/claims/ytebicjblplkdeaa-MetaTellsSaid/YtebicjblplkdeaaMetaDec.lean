/-
  A meta's bytes lead back to it, and the bytes of a meta are those of what they say. Plain mathematics. Conditions: none.
-/
import Derived.Test.YtebicjblplkdeaaMetaMath
namespace Go.Proofs.Ytebicjblplkdeaa
open Fix
namespace Mt
theorem at_mid (p q r : List UInt8) (o n : Nat) (ho : p.length = o) (hn : q.length = n) : at_ (p ++ (q ++ r)) o n = le q := by
  subst ho; subst hn
  unfold at_
  rw [List.drop_left, List.take_left]
theorem dec_enc (m : Mt) (h : m.ok = true) : dec m.enc = m := by
  rw [ok_iff] at h
  obtain ⟨h1, h2, h3, h4, h5, h6⟩ := h
  have e : m.enc = [] ++ (dig m.t.toNat 6 ++ (dig (m.v + 1).toNat 1 ++ (dig m.rt.toNat 6 ++ (dig m.rn.toNat 6 ++ (dig m.rs.toNat 1 ++ (dig m.b.toNat 6 ++ [])))))) := by simp [enc]
  have l6 : ∀ n, (dig n 6).length = 6 := fun n => dig_length n 6
  have l1 : ∀ n, (dig n 1).length = 1 := fun n => dig_length n 1
  have a0 : at_ m.enc 0 6 = m.t.toNat := by rw [e, at_mid _ _ _ 0 6 rfl (l6 _), le_dig_self _ _ (by omega)]
  have a1 : at_ m.enc 6 1 = (m.v + 1).toNat := by rw [e, ← List.append_assoc, at_mid _ _ _ 6 1 (by simp [l6]) (l1 _), le_dig_self _ _ (by omega)]
  have a2 : at_ m.enc 7 6 = m.rt.toNat := by rw [e, ← List.append_assoc, ← List.append_assoc, at_mid _ _ _ 7 6 (by simp [l6, l1]) (l6 _), le_dig_self _ _ (by omega)]
  have a3 : at_ m.enc 13 6 = m.rn.toNat := by rw [e, ← List.append_assoc, ← List.append_assoc, ← List.append_assoc, at_mid _ _ _ 13 6 (by simp [l6, l1]) (l6 _), le_dig_self _ _ (by omega)]
  have a4 : at_ m.enc 19 1 = m.rs.toNat := by rw [e, ← List.append_assoc, ← List.append_assoc, ← List.append_assoc, ← List.append_assoc, at_mid _ _ _ 19 1 (by simp [l6, l1]) (l1 _), le_dig_self _ _ (by omega)]
  have a5 : at_ m.enc 20 6 = m.b.toNat := by rw [e, ← List.append_assoc, ← List.append_assoc, ← List.append_assoc, ← List.append_assoc, ← List.append_assoc, at_mid _ _ _ 20 6 (by simp [l6, l1]) (l6 _), le_dig_self _ _ (by omega)]
  unfold dec
  rw [a0, a1, a2, a3, a4, a5]
  cases m
  simp only [Mt.mk.injEq]
  simp only at h1 h2 h3 h4 h5 h6
  omega
theorem good_enc (m : Mt) (h : m.ok = true) : good m.enc = true := by
  unfold good
  rw [dec_enc m h, enc_length, h]
  rfl
theorem read_enc (m : Mt) (h : m.ok = true) : readE m.enc = 0 ∧ readM m.enc = m := by
  unfold readE readM
  rw [if_pos (good_enc m h), if_pos (good_enc m h), dec_enc m h]
  exact ⟨rfl, rfl⟩
theorem dig_at (l : List UInt8) (o n : Nat) (h : o + n ≤ l.length) : dig (at_ l o n) n = (l.drop o).take n := by
  have e : ((l.drop o).take n).length = n := by simp; omega
  have := dig_le ((l.drop o).take n)
  rw [e] at this
  exact this
theorem split_at (l : List UInt8) (o n : Nat) : (l.drop o).take n ++ l.drop (o + n) = l.drop o := by
  rw [← List.drop_drop, List.take_append_drop]
theorem enc_dec (l : List UInt8) (h : l.length = 26) : (dec l).enc = l := by
  unfold enc dec
  simp only [Int.toNat_natCast, Int.sub_add_cancel]
  rw [dig_at l 0 6 (by omega), dig_at l 6 1 (by omega), dig_at l 7 6 (by omega), dig_at l 13 6 (by omega), dig_at l 19 1 (by omega), dig_at l 20 6 (by omega)]
  have e6 : (l.drop 20).take 6 = l.drop 20 := List.take_of_length_le (by simp; omega)
  rw [e6]
  simp only [List.append_assoc]
  rw [show l.drop 20 = l.drop (19 + 1) from rfl, split_at l 19 1, show l.drop 19 = l.drop (13 + 6) from rfl, split_at l 13 6, show l.drop 13 = l.drop (7 + 6) from rfl, split_at l 7 6, show l.drop 7 = l.drop (6 + 1) from rfl, split_at l 6 1, show l.drop 6 = l.drop (0 + 6) from rfl, split_at l 0 6]
  rfl
theorem good_iff (l : List UInt8) : good l = true ↔ l.length = 26 ∧ (dec l).ok = true := by simp [good]
theorem bytes_read (l : List UInt8) (h : readE l = 0) : (readM l).bytes = l ∧ (readM l).err = 0 := by
  have hg : good l = true := by
    unfold readE at h
    split at h
    · assumption
    · cases h
  have h2 := (good_iff l).1 hg
  unfold readM bytes
  rw [if_pos hg, if_pos h2.2, enc_dec l h2.1]
  exact ⟨rfl, err_ok h2.2⟩
end Mt
end Go.Proofs.Ytebicjblplkdeaa
