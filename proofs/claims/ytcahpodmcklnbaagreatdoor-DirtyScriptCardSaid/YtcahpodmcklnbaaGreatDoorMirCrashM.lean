/-
  A crash, one loose sector after the other: plain mathematics. Conditions: none.
-/
import Derived.Test.YtcahpodmcklnbaaGreatDoorDa
namespace Go.Proofs.YtcahpodmcklnbaaGreatDoor
namespace DS
/-- crashed below t -/
def crashTo (S : DS) (keeps : List Bool) (tear : Int) (t : Nat) : DS := { S with firm := fun s => if s < t then S.crashed keeps tear s else S.firm s, loose := fun s => if s < t then none else S.loose s }
theorem looseBelow_snoc (S : DS) (m : Nat) : S.looseBelow (m + 1) = S.looseBelow m ++ (if S.isLoose m then [m] else []) := by
  unfold looseBelow
  rw [List.range_succ, List.filter_append]
  congr 1
  by_cases h : S.isLoose m = true
  · rw [if_pos h]; simp [h]
  · rw [if_neg h]; simp [h]
theorem stayBelow_snoc (S : DS) (keeps : List Bool) (m : Nat) : S.stayBelow keeps (m + 1) = S.stayBelow keeps m ++ (if S.stays keeps m then [m] else []) := by
  unfold stayBelow
  rw [List.range_succ, List.filter_append]
  congr 1
  by_cases h : S.stays keeps m = true
  · rw [if_pos h]; simp [h]
  · rw [if_neg h]; simp [h]
/-- the i-th loose sector has i loose ones below it -/
theorem looseBelow_at (S : DS) (m i n : Nat) (h : (S.looseBelow m)[i]? = some n) : n < m ∧ S.isLoose n = true ∧ (S.looseBelow n).length = i := by
  induction m with
  | zero => simp [looseBelow] at h
  | succ m ih =>
    rw [looseBelow_snoc] at h
    by_cases hi : i < (S.looseBelow m).length
    · rw [List.getElem?_append_left hi] at h
      obtain ⟨h1, h2, h3⟩ := ih h
      exact ⟨by omega, h2, h3⟩
    · rw [List.getElem?_append_right (by omega)] at h
      by_cases hl : S.isLoose m = true
      · rw [if_pos hl] at h
        obtain ⟨hk, e⟩ := List.getElem?_eq_some_iff.1 h
        simp at hk
        have h0 : i - (S.looseBelow m).length = 0 := by omega
        simp [h0] at e
        subst e
        exact ⟨by omega, hl, by omega⟩
      · rw [if_neg hl] at h
        simp at h
theorem looseBelow_mono (S : DS) {t t' : Nat} (h : t ≤ t') : (S.looseBelow t).length ≤ (S.looseBelow t').length := by
  induction h with
  | refl => exact Nat.le_refl _
  | step _ ih => rw [looseBelow_snoc, List.length_append]; omega
/-- where no more are loose, none between is -/
theorem loose_between (S : DS) {t t' s : Nat} (h : (S.looseBelow t).length = (S.looseBelow t').length) (h1 : t ≤ s) (h2 : s < t') : S.isLoose s = false := by
  cases hs : S.isLoose s with
  | false => rfl
  | true =>
    have a := S.looseBelow_mono h1
    have b := S.looseBelow_mono (show s + 1 ≤ t' from h2)
    rw [looseBelow_snoc, if_pos hs, List.length_append] at b
    simp at b
    omega
theorem isLoose_none {S : DS} {s : Nat} (h : S.isLoose s = false) : S.loose s = none := by
  unfold isLoose at h
  cases e : S.loose s with
  | none => rfl
  | some l => rw [e] at h; cases h
theorem stays_loose {S : DS} {keeps : List Bool} {s : Nat} (h : S.isLoose s = false) : S.stays keeps s = false := by
  unfold stays; rw [h]; rfl
theorem crashed_not {S : DS} {keeps : List Bool} {tear : Int} {s : Nat} (h : S.stays keeps s = false) : S.crashed keeps tear s = S.firm s := by
  unfold crashed; rw [h]; rfl
theorem crashTo_between (S : DS) (keeps : List Bool) (tear : Int) {t t' : Nat} (hle : t ≤ t') (h : (S.looseBelow t).length = (S.looseBelow t').length) : S.crashTo keeps tear t' = S.crashTo keeps tear t := by
  unfold crashTo
  have e1 : (fun s => if s < t' then S.crashed keeps tear s else S.firm s) = fun s => if s < t then S.crashed keeps tear s else S.firm s := by
    funext s
    by_cases h1 : s < t
    · rw [if_pos h1, if_pos (by omega)]
    · by_cases h2 : s < t'
      · rw [if_neg h1, if_pos h2]
        exact crashed_not (stays_loose (S.loose_between h (by omega) h2))
      · rw [if_neg h1, if_neg h2]
  have e2 : (fun s => if s < t' then none else S.loose s) = fun s => if s < t then none else S.loose s := by
    funext s
    by_cases h1 : s < t
    · rw [if_pos h1, if_pos (by omega)]
    · by_cases h2 : s < t'
      · rw [if_neg h1, if_pos h2]
        exact (isLoose_none (S.loose_between h (by omega) h2)).symm
      · rw [if_neg h1, if_neg h2]
  rw [e1, e2]
theorem stay_between (S : DS) (keeps : List Bool) {t t' : Nat} (hle : t ≤ t') (h : (S.looseBelow t).length = (S.looseBelow t').length) : (S.stayBelow keeps t').length = (S.stayBelow keeps t).length := by
  induction hle with
  | refl => rfl
  | @step m hm ih =>
    have hm' : t ≤ m := hm
    replace h : (S.looseBelow t).length = (S.looseBelow (m + 1)).length := h
    have a := S.looseBelow_mono hm'
    have b := S.looseBelow_mono (show m ≤ m + 1 by omega)
    have hl : S.isLoose m = false := S.loose_between h hm' (Nat.lt_succ_self _)
    show (S.stayBelow keeps (m + 1)).length = _
    rw [stayBelow_snoc, stays_loose hl, List.length_append, ih (by omega)]
    simp
/-- the sector i-th among the loose ones, where the state is crashed so far -/
theorem crash_at (S : DS) (keeps : List Bool) (tear : Int) {t i n : Nat} (ht : (S.looseBelow t).length = i) (hn : (S.looseBelow S.n)[i]? = some n) :
    S.crashTo keeps tear t = S.crashTo keeps tear n ∧ (S.stayBelow keeps t).length = (S.stayBelow keeps n).length := by
  obtain ⟨h1, h2, h3⟩ := S.looseBelow_at _ _ _ hn
  rcases Nat.le_total t n with h | h
  · exact ⟨(S.crashTo_between keeps tear h (by omega)).symm, (S.stay_between keeps h (by omega)).symm⟩
  · exact ⟨S.crashTo_between keeps tear h (by omega), S.stay_between keeps h (by omega)⟩
theorem crash_next_not (S : DS) (keeps : List Bool) (tear : Int) (n : Nat) (h : S.stays keeps n = false) : S.crashTo keeps tear (n + 1) = { S.crashTo keeps tear n with loose := upd (S.crashTo keeps tear n).loose n none } := by
  unfold crashTo upd
  have e1 : (fun s => if s < n + 1 then S.crashed keeps tear s else S.firm s) = fun s => if s < n then S.crashed keeps tear s else S.firm s := by
    funext s
    by_cases e : s = n
    · subst e; rw [if_pos (by omega), if_neg (by omega)]; exact crashed_not h
    · by_cases h1 : s < n
      · rw [if_pos h1, if_pos (by omega)]
      · rw [if_neg h1, if_neg (by omega)]
  have e2 : (fun s => if s < n + 1 then none else S.loose s) = fun s => if s = n then none else if s < n then none else S.loose s := by
    funext s
    by_cases e : s = n
    · subst e; simp
    · rw [if_neg e]
      by_cases h1 : s < n
      · rw [if_pos h1, if_pos (by omega)]
      · rw [if_neg h1, if_neg (by omega)]
  rw [e1, e2]
theorem crash_next (S : DS) (keeps : List Bool) (tear : Int) (n : Nat) : S.crashTo keeps tear (n + 1) = { S.crashTo keeps tear n with firm := upd (S.crashTo keeps tear n).firm n (S.crashed keeps tear n), loose := upd (S.crashTo keeps tear n).loose n none } := by
  unfold crashTo upd
  have e1 : (fun s => if s < n + 1 then S.crashed keeps tear s else S.firm s) = fun s => if s = n then S.crashed keeps tear n else if s < n then S.crashed keeps tear s else S.firm s := by
    funext s
    by_cases e : s = n
    · subst e; simp
    · rw [if_neg e]
      by_cases h1 : s < n
      · rw [if_pos h1, if_pos (by omega)]
      · rw [if_neg h1, if_neg (by omega)]
  have e2 : (fun s => if s < n + 1 then none else S.loose s) = fun s => if s = n then none else if s < n then none else S.loose s := by
    funext s
    by_cases e : s = n
    · subst e; simp
    · rw [if_neg e]
      by_cases h1 : s < n
      · rw [if_pos h1, if_pos (by omega)]
      · rw [if_neg h1, if_neg (by omega)]
  rw [e1, e2]
theorem crashTo_zero (S : DS) (keeps : List Bool) (tear : Int) : S.crashTo keeps tear 0 = S := by
  unfold crashTo
  simp
theorem crashTo_all (S : DS) (keeps : List Bool) (tear : Int) (h : S.Ok) {t : Nat} (ht : (S.looseBelow t).length = (S.looseBelow S.n).length) (htn : t ≤ S.n) : { S.crashTo keeps tear t with left := none, out := false } = S.crash keeps tear := by
  rw [← S.crashTo_between keeps tear htn ht]
  have hnone : ∀ s, ¬ s < S.n → S.loose s = none := fun s hs => by
    cases e : S.loose s with
    | none => rfl
    | some l => exact absurd (h.loose s l e).1 hs
  unfold crashTo crash
  have e1 : (fun s => if s < S.n then S.crashed keeps tear s else S.firm s) = S.crashed keeps tear := by
    funext s
    by_cases h1 : s < S.n
    · rw [if_pos h1]
    · rw [if_neg h1]
      exact (crashed_not (stays_loose (by unfold isLoose; rw [hnone s h1]; rfl))).symm
  have e2 : (fun s => if s < S.n then none else S.loose s) = fun _ => none := by
    funext s
    by_cases h1 : s < S.n
    · rw [if_pos h1]
    · rw [if_neg h1]; exact hnone s h1
  rw [e1, e2]
end DS
end Go.Proofs.YtcahpodmcklnbaaGreatDoor
