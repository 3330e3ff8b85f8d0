/-
  A meta in a slot, through Saves that may stop, and crashes: plain mathematics. Conditions: none.
-/
import Derived.Test.YtebicjblplkdeaaDoorSlGen
import Derived.Test.YtebicjblplkdeaaDoorMetaDisk
namespace Go.Proofs.YtebicjblplkdeaaDoor
open Fix
namespace Mt
/-- the slot at 1 of three sectors holds v, saved N times -/
structure Inv (S : DS) (N : Nat) (v : Mt) : Prop where
  q : S.Quiet
  n : S.n = 3
  pair : Slot.Pair (S.firm 1) (S.firm 2) N v.enc
  ok : v.ok = true
  pos : 1 ≤ N
theorem enc_le (m : Mt) : m.enc.length ≤ 40 := by rw [enc_length]; decide
theorem Inv.load {S : DS} {N : Nat} {v : Mt} (h : Inv S N v) : loadE S 1 = 0 ∧ loadM S 1 = v := by
  obtain ⟨h1, h2⟩ := (Slot.load_pairG h.q (p := 1) (by rw [h.n]; decide) h.pair).1 h.pos
  have h1 : Slot.loadE S 1 = 0 := h1
  have h2 : Slot.loadB S 1 = v.enc := h2
  obtain ⟨h3, h4⟩ := read_enc v h.ok
  unfold loadE loadM
  rw [h1, h2, h3, h4]
  exact ⟨rfl, rfl⟩
theorem save_no (S : DS) (i : Int) {m : Mt} (h : m.ok = false) : save S i m = (S, 2) := by
  unfold save
  rw [if_neg (by rw [h]; decide)]
theorem Inv.calm {S : DS} {N : Nat} {v : Mt} (h : Inv S N v) (hN : N < 1000) {m : Mt} (hm : m.ok = true) : ∃ T, save S 1 m = (T, 0) ∧ Inv T (N + 1) m ∧ T.ops ≤ S.ops + 4 := by
  obtain ⟨T, h1, h2, h3, h4, h5, _⟩ := Slot.round_calmG h.q (p := 1) (by rw [h.n]; decide) h.pair (by omega) m.enc (enc_le m)
  refine ⟨T, ?_, ⟨h2, by rw [h3, h.n], h5, hm, by omega⟩, h4⟩
  unfold save
  rw [if_pos hm]
  exact h1
theorem Inv.stop {S : DS} {N : Nat} {v : Mt} (h : Inv S N v) (hN : N < 1000) {m : Mt} (hm : m.ok = true) (k : Nat) (keeps : List Bool) (tear : Int) :
    ∃ T e, save { S with left := some k } 1 m = (T, e) ∧ T.ops ≤ S.ops + 4 ∧ (T.crash keeps tear).ops ≤ S.ops + 4 ∧
      (e = 0 ∧ Inv (T.crash keeps tear) (N + 1) m ∨ e = 10 ∧ (Inv (T.crash keeps tear) (N + 1) m ∨ Inv (T.crash keeps tear) N v)) := by
  obtain ⟨T, e, h1, h2, h3, h4, h5, h6, _⟩ := Slot.round_stopG h.q (p := 1) (by rw [h.n]; decide) h.pair (by omega) m.enc (enc_le m) k keeps tear
  have hn : (T.crash keeps tear).n = 3 := by rw [h4, h.n]
  refine ⟨T, e, ?_, h2, h5, ?_⟩
  · unfold save
    rw [if_pos hm]
    exact h1
  · rcases h6 with ⟨rfl, p⟩ | ⟨rfl, p | p⟩
    · exact .inl ⟨rfl, h3, hn, p, hm, by omega⟩
    · exact .inr ⟨rfl, .inl ⟨h3, hn, p, hm, by omega⟩⟩
    · exact .inr ⟨rfl, .inr ⟨h3, hn, p, h.ok, h.pos⟩⟩
theorem Inv.idle {S : DS} {N : Nat} {v : Mt} (h : Inv S N v) (k : Nat) (keeps : List Bool) (tear : Int) : Inv (({ S with left := some k } : DS).crash keeps tear) N v ∧ (({ S with left := some k } : DS).crash keeps tear).ops = S.ops := by
  obtain ⟨h1, h2, h3, h4⟩ := Slot.idle_crash h.q k keeps tear
  exact ⟨⟨h1, by rw [h2, h.n], by rw [h4 1, h4 2]; exact h.pair, h.ok, h.pos⟩, h3⟩
theorem first_ok : first.ok = true := by decide
theorem start : ∃ T, save (DS.fresh 3) 1 first = (T, 0) ∧ Inv T 1 first ∧ T.ops ≤ 4 := by
  obtain ⟨T, h1, h2, h3, h4, h5, _⟩ := Slot.round_calmG (S := DS.fresh 3) ⟨rfl, rfl, rfl⟩ (p := 1) (by decide) (N := 0) (v := []) Slot.pair_nought (by decide) first.enc (enc_le first)
  refine ⟨T, ?_, ⟨h2, h3, h5, first_ok, by decide⟩, h4⟩
  unfold save
  rw [if_pos first_ok]
  exact h1
end Mt
end Go.Proofs.YtebicjblplkdeaaDoor
