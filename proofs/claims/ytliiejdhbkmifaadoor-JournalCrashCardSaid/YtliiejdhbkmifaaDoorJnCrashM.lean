/-
  A journal through writes that may stop, and crashes: plain mathematics. Conditions: none.
-/
import Derived.Test.YtliiejdhbkmifaaDoorSlCrashM
import Derived.Test.YtliiejdhbkmifaaDoorJo
namespace Go.Proofs.YtliiejdhbkmifaaDoor
open Fix
namespace Jn
/-- between two writes: the one sector's number at its end is at most k -/
structure Inv (S : DS) (k : Nat) : Prop where
  q : S.Quiet
  n : S.n = 1
  len : (S.firm 0).length = 64
  ag : again (S.firm 0) ≤ k
theorem start : Inv (DS.fresh 1) 0 := ⟨DS.fresh_quiet 1, rfl, by decide, by decide⟩
theorem start_right : right ((DS.fresh 1).firm 0) = false := right_nots
theorem Inv.last {S : DS} {k : Nat} (h : Inv S k) : lastE S 0 = (if right (S.firm 0) = true then 0 else 6) ∧ lastV S 0 = readV (S.firm 0) := by
  have e1 := h.q.readE (i := 0) (by rw [h.n]; decide)
  have e2 := h.q.readB (i := 0) (by rw [h.n]; decide)
  have e1 : S.readE 0 = 0 := e1
  have e2 : S.readB 0 = S.firm 0 := e2
  obtain ⟨h1, h2⟩ := last_in e1
  rw [h1, h2, e2]
  exact ⟨rfl, rfl⟩
/-- the number of an entry that lies there -/
theorem Inv.num_le {S : DS} {k : Nat} (h : Inv S k) (hr : right (S.firm 0) = true) : (readV (S.firm 0)).n ≤ (k : Int) := by
  have e := again_right hr
  have := h.ag
  rw [readV_yes hr]
  show (num (S.firm 0) : Int) ≤ _
  omega
theorem Inv.unlike {S : DS} {k : Nat} (h : Inv S k) (hr : right (S.firm 0) = true) (a : Int) (d : List UInt8) : same (readV (S.firm 0)) ⟨a, ((k + 1 : Nat) : Int), d⟩ = false := by
  rw [← Bool.not_eq_true, same_iff]
  intro e
  have := h.num_le hr
  rw [e] at this
  have : ((k + 1 : Nat) : Int) ≤ (k : Int) := this
  omega
theorem bytes_ag {a k : Nat} {d : List UInt8} (h : may ⟨a, (k : Int), d⟩ = true) : again (bytesB ⟨a, k, d⟩) = k ∧ num (bytesB ⟨a, k, d⟩) = k := by
  obtain ⟨_, _, h3, h4, h5⟩ := (may_mk _ _ _).1 h
  rw [bytesB_yes h]
  exact ⟨sect_again a k d h5 (by omega), sect_num a k d (by omega)⟩
theorem Inv.calm {S : DS} {k : Nat} (h : Inv S k) {a : Nat} {d : List UInt8} (hm : may ⟨a, ((k + 1 : Nat) : Int), d⟩ = true) : ∃ T, write S 0 ⟨a, ((k + 1 : Nat) : Int), d⟩ = (T, 0) ∧ Inv T (k + 1) ∧ T.firm 0 = bytesB ⟨a, ((k + 1 : Nat) : Int), d⟩ ∧ T.ops ≤ S.ops + 2 := by
  have hl := bytes_len hm
  obtain ⟨e1, _⟩ := bytes_ag hm
  unfold write
  rw [if_pos hm]
  have e := Slot.put1_calm S h.q.out h.q.left 0 (by rw [h.n]; decide) _ hl
  refine ⟨_, e, ⟨⟨rfl, rfl, rfl⟩, h.n, ?_, ?_⟩, ?_, Nat.le_refl _⟩
  · show (DS.upd S.last 0 _ 0).length = 64
    simpa [DS.upd] using hl
  · show again (DS.upd S.last 0 (bytesB ⟨a, ((k + 1 : Nat) : Int), d⟩) 0) ≤ k + 1
    unfold DS.upd
    rw [if_pos rfl, e1]
    exact Nat.le_refl _
  · show DS.upd S.last 0 _ 0 = _
    simp [DS.upd]
theorem crash_firm (T : DS) (keeps : List Bool) (tear : Int) : (T.crash keeps tear).firm 0 = T.crashed keeps tear 0 := rfl
theorem Inv.stop {S : DS} {k : Nat} (h : Inv S k) {a : Nat} {d : List UInt8} (hm : may ⟨a, ((k + 1 : Nat) : Int), d⟩ = true) (f : Nat) (keeps : List Bool) (tear : Int) :
    ∃ T e, write { S with left := some f } 0 ⟨a, ((k + 1 : Nat) : Int), d⟩ = (T, e) ∧ (T.crash keeps tear).ops ≤ S.ops + 2 ∧ Inv (T.crash keeps tear) (k + 1) ∧
      (e = 0 ∧ (T.crash keeps tear).firm 0 = bytesB ⟨a, ((k + 1 : Nat) : Int), d⟩ ∨ e = 10 ∧ ((T.crash keeps tear).firm 0 = bytesB ⟨a, ((k + 1 : Nat) : Int), d⟩ ∨ (T.crash keeps tear).firm 0 = S.firm 0 ∨ right ((T.crash keeps tear).firm 0) = false)) := by
  have hl := bytes_len hm
  obtain ⟨e1, e2⟩ := bytes_ag hm
  have hops := jn_ops { S with left := some f } 0 ⟨a, ((k + 1 : Nat) : Int), d⟩
  obtain ⟨T, e, hT⟩ : ∃ T e, write { S with left := some f } 0 ⟨a, ((k + 1 : Nat) : Int), d⟩ = (T, e) := ⟨_, _, rfl⟩
  rw [hT] at hops
  have ho : (T.crash keeps tear).ops ≤ S.ops + 2 := hops
  refine ⟨T, e, hT, ho, ?_⟩
  unfold write at hT
  rw [if_pos hm] at hT
  generalize bytesB ⟨a, ((k + 1 : Nat) : Int), d⟩ = sc at hl e1 e2 hT ⊢
  -- what the sector may be
  have key : T.n = 1 ∧ (e = 0 ∧ (T.crash keeps tear).firm 0 = sc ∨ e = 10 ∧ ((T.crash keeps tear).firm 0 = sc ∨ (T.crash keeps tear).firm 0 = S.firm 0 ∨ (T.crash keeps tear).firm 0 = torn sc (S.firm 0))) := by
    rcases Slot.put1_cases { S with left := some f } h.q.out 0 (by show 0 < S.n; rw [h.n]; decide) sc hl with p | ⟨U, p, p1, p2, p3⟩ | ⟨l, p⟩
    · have hT := hT.symm.trans p
      injection hT with hT he
      refine ⟨by rw [hT]; exact h.n, .inr ⟨he, .inr (.inl ?_)⟩⟩
      rw [crash_firm]
      rcases Slot.crashed_cases T keeps tear 0 with c | ⟨l, c, _⟩
      · rw [c, hT]
      · rw [hT] at c
        have c : S.loose 0 = some l := c
        rw [h.q.loose] at c
        cases c
    · have hT := hT.symm.trans p
      injection hT with hT he
      refine ⟨by rw [hT, p1]; exact h.n, .inr ⟨he, ?_⟩⟩
      rw [crash_firm]
      rcases Slot.crashed_cases T keeps tear 0 with c | ⟨l, c, c2⟩
      · refine .inr (.inl ?_)
        rw [c, hT, p2]
      · rw [hT, p3] at c
        have hl : sc = l := by simpa [DS.upd] using c
        subst hl
        rcases c2 with c2 | c2
        · exact .inl c2
        · refine .inr (.inr ?_)
          rw [c2, hT, p2]
          rfl
    · have hT := hT.symm.trans p
      injection hT with hT he
      refine ⟨by rw [hT]; exact h.n, .inl ⟨he, ?_⟩⟩
      rw [crash_firm]
      rcases Slot.crashed_cases T keeps tear 0 with c | ⟨l, c, _⟩
      · rw [c, hT]
        simp [DS.upd]
      · rw [hT] at c
        cases c
  obtain ⟨hn, key⟩ := key
  have hq : (T.crash keeps tear).Quiet := ⟨rfl, rfl, rfl⟩
  have hag := h.ag
  have hln := h.len
  rcases key with ⟨he, hf⟩ | ⟨he, hf | hf | hf⟩
  · exact ⟨⟨hq, hn, by rw [hf]; exact hl, by rw [hf, e1]; exact Nat.le_refl _⟩, .inl ⟨he, hf⟩⟩
  · exact ⟨⟨hq, hn, by rw [hf]; exact hl, by rw [hf, e1]; exact Nat.le_refl _⟩, .inr ⟨he, .inl hf⟩⟩
  · exact ⟨⟨hq, hn, by rw [hf]; exact hln, by rw [hf]; omega⟩, .inr ⟨he, .inr (.inl hf)⟩⟩
  · refine ⟨⟨hq, hn, by rw [hf]; exact torn_length sc _ hl hln, by rw [hf, torn_again sc _ hl]; omega⟩, .inr ⟨he, .inr (.inr ?_)⟩⟩
    rw [hf]
    exact (torn_bad sc (S.firm 0) hl hln (by rw [e2]; omega)).2
end Jn
end Go.Proofs.YtliiejdhbkmifaaDoor
