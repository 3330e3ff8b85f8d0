/-
  The document's own disk (tandemref04): Crash. Conditions: none.
-/
import Derived.Test.YtkokcdlgfemobaaGreatDoorMirCrashM
import Derived.Test.YtkokcdlgfemobaaGreatDoorMirNew
import Derived.Deep.RegionHeld3
namespace Go.Proofs.YtkokcdlgfemobaaGreatDoor
open Go.RowKit

namespace DS
/-- the first i loose sectors are crashed -/
def crM (S : DS) (keeps : List Bool) (tear : Int) (i : Nat) : DS :=
  { S with firm := fun s => if S.stays keeps s = true ∧ (S.looseBelow s).length < i then S.crashed keeps tear s else S.firm s, loose := fun s => if S.isLoose s = true ∧ (S.looseBelow s).length < i then none else S.loose s }
/-- how many of the first i loose ones stay -/
def nKept (S : DS) (keeps : List Bool) (i : Nat) : Nat := (((S.looseBelow S.n).take i).filter (S.stays keeps)).length
theorem crM_zero (S : DS) (keeps : List Bool) (tear : Int) : S.crM keeps tear 0 = S := by
  unfold crM
  simp
theorem stays_isLoose {S : DS} {keeps : List Bool} {s : Nat} (h : S.stays keeps s = true) : S.isLoose s = true := by
  unfold stays at h
  rw [Bool.and_eq_true] at h
  exact h.1
theorem looseBelow_lt (S : DS) {t t' : Nat} (h : t < t') (hs : S.isLoose t = true) : (S.looseBelow t).length < (S.looseBelow t').length := by
  have := S.looseBelow_mono (show t + 1 ≤ t' from h)
  rw [looseBelow_snoc, if_pos hs, List.length_append] at this
  simp at this
  omega
theorem looseBelow_inj (S : DS) {s t i : Nat} (hs : S.isLoose s = true) (ht : S.isLoose t = true) (hi : (S.looseBelow s).length = i) (hi2 : (S.looseBelow t).length = i) : s = t := by
  rcases Nat.lt_trichotomy s t with h | h | h
  · have := S.looseBelow_lt h hs; omega
  · exact h
  · have := S.looseBelow_lt h ht; omega
theorem crM_step (S : DS) (keeps : List Bool) (tear : Int) {i s : Nat} (hs : S.isLoose s = true) (hi : (S.looseBelow s).length = i) :
    S.crM keeps tear (i + 1) = { S.crM keeps tear i with firm := if S.stays keeps s = true then upd (S.crM keeps tear i).firm s (S.crashed keeps tear s) else (S.crM keeps tear i).firm, loose := upd (S.crM keeps tear i).loose s none } := by
  have key : ∀ t, S.isLoose t = true → t ≠ s → ((S.looseBelow t).length < i + 1 ↔ (S.looseBelow t).length < i) := fun t ht hne => by
    have : (S.looseBelow t).length ≠ i := fun e => hne (S.looseBelow_inj ht hs e hi)
    omega
  have e1 : (fun t => if S.stays keeps t = true ∧ (S.looseBelow t).length < i + 1 then S.crashed keeps tear t else S.firm t) = (if S.stays keeps s = true then upd (S.crM keeps tear i).firm s (S.crashed keeps tear s) else (S.crM keeps tear i).firm) := by
    funext t
    by_cases hst : S.stays keeps s = true
    · rw [if_pos hst]
      unfold upd
      by_cases e : t = s
      · subst e; rw [if_pos ⟨hst, by omega⟩, if_pos rfl]
      · rw [if_neg e]
        show _ = if S.stays keeps t = true ∧ (S.looseBelow t).length < i then S.crashed keeps tear t else S.firm t
        by_cases ht : S.stays keeps t = true
        · simp only [ht, true_and, key t (stays_isLoose ht) e]
        · rw [if_neg (fun h => ht h.1), if_neg (fun h => ht h.1)]
    · rw [if_neg hst]
      show _ = if S.stays keeps t = true ∧ (S.looseBelow t).length < i then S.crashed keeps tear t else S.firm t
      by_cases ht : S.stays keeps t = true
      · simp only [ht, true_and, key t (stays_isLoose ht) (fun e => hst (e ▸ ht))]
      · rw [if_neg (fun h => ht h.1), if_neg (fun h => ht h.1)]
  have e2 : (fun t => if S.isLoose t = true ∧ (S.looseBelow t).length < i + 1 then none else S.loose t) = upd (S.crM keeps tear i).loose s none := by
    funext t
    unfold upd
    by_cases e : t = s
    · subst e; rw [if_pos ⟨hs, by omega⟩, if_pos rfl]
    · rw [if_neg e]
      show _ = if S.isLoose t = true ∧ (S.looseBelow t).length < i then none else S.loose t
      by_cases ht : S.isLoose t = true
      · simp only [ht, true_and, key t ht e]
      · rw [if_neg (fun h => ht h.1), if_neg (fun h => ht h.1)]
  show ({ S with firm := _, loose := _ } : DS) = _
  rw [e1, e2]
  rfl
theorem crM_firm (S : DS) (keeps : List Bool) (tear : Int) {i s : Nat} (hi : (S.looseBelow s).length = i) : (S.crM keeps tear i).firm s = S.firm s := by
  show (if S.stays keeps s = true ∧ (S.looseBelow s).length < i then S.crashed keeps tear s else S.firm s) = _
  rw [if_neg (fun h => by have := h.2; omega)]
theorem crM_loose (S : DS) (keeps : List Bool) (tear : Int) {i s : Nat} (hi : (S.looseBelow s).length = i) : (S.crM keeps tear i).loose s = S.loose s := by
  show (if S.isLoose s = true ∧ (S.looseBelow s).length < i then none else S.loose s) = _
  rw [if_neg (fun h => by have := h.2; omega)]
theorem crM_all (S : DS) (keeps : List Bool) (tear : Int) (h : S.Ok) : { S.crM keeps tear (S.looseBelow S.n).length with left := none, out := false } = S.crash keeps tear := by
  have hl : ∀ t, S.isLoose t = true → (S.looseBelow t).length < (S.looseBelow S.n).length := fun t ht => by
    obtain ⟨l, hl⟩ := Option.isSome_iff_exists.1 ht
    exact S.looseBelow_lt (h.loose t l hl).1 ht
  have e1 : (S.crM keeps tear (S.looseBelow S.n).length).firm = S.crashed keeps tear := by
    funext t
    show (if S.stays keeps t = true ∧ (S.looseBelow t).length < (S.looseBelow S.n).length then S.crashed keeps tear t else S.firm t) = _
    by_cases ht : S.stays keeps t = true
    · rw [if_pos ⟨ht, hl t (stays_isLoose ht)⟩]
    · rw [if_neg (fun h => ht h.1)]
      exact (crashed_not (by simpa using ht)).symm
  have e2 : (S.crM keeps tear (S.looseBelow S.n).length).loose = fun _ => none := by
    funext t
    show (if S.isLoose t = true ∧ (S.looseBelow t).length < (S.looseBelow S.n).length then none else S.loose t) = _
    by_cases ht : S.isLoose t = true
    · rw [if_pos ⟨ht, hl t ht⟩]
    · rw [if_neg (fun h => ht h.1)]
      exact isLoose_none (by simpa using ht)
  dsimp only
  rw [e1, e2]
  rfl
theorem looseBelow_take (S : DS) {s : Nat} (h : s ≤ S.n) : (S.looseBelow S.n).take (S.looseBelow s).length = S.looseBelow s := by
  have e : S.looseBelow S.n = S.looseBelow s ++ ((List.range (S.n - s)).map (s + ·)).filter S.isLoose := by
    unfold looseBelow
    rw [← List.filter_append, ← List.range_add, Nat.add_sub_cancel' h]
  rw [e, List.take_left']
  rfl
/-- how many stay below the i-th loose one -/
theorem nKept_at (S : DS) (keeps : List Bool) {i s : Nat} (h : (S.looseBelow S.n)[i]? = some s) : S.nKept keeps i = (S.stayBelow keeps s).length := by
  obtain ⟨h1, _, h3⟩ := S.looseBelow_at _ _ _ h
  unfold nKept
  rw [← h3, S.looseBelow_take (Nat.le_of_lt h1)]
  unfold looseBelow stayBelow
  rw [List.filter_filter]
  congr 2
  funext t
  unfold stays
  cases S.isLoose t <;> simp
theorem nKept_succ (S : DS) (keeps : List Bool) {i s : Nat} (h : (S.looseBelow S.n)[i]? = some s) : S.nKept keeps (i + 1) = S.nKept keeps i + (if S.stays keeps s = true then 1 else 0) := by
  unfold nKept
  rw [List.take_add_one, h, List.filter_append, List.length_append]
  congr 1
  by_cases hs : S.stays keeps s = true
  · rw [if_pos hs]; simp [hs]
  · rw [if_neg hs]; simp [hs]
theorem nKept_le (S : DS) (keeps : List Bool) (i : Nat) : S.nKept keeps i ≤ S.n := by
  unfold nKept looseBelow
  refine Nat.le_trans (List.length_filter_le _ _) (Nat.le_trans (List.length_take_le' _ _) (Nat.le_trans (List.length_filter_le _ _) ?_))
  simp
theorem looseBelow_len (S : DS) : (S.looseBelow S.n).length ≤ S.n := by
  unfold looseBelow
  exact Nat.le_trans (List.length_filter_le _ _) (by simp)
/-- does the i-th loose one stay -/
theorem stays_nth (S : DS) (keeps : List Bool) {i s : Nat} (h : (S.looseBelow S.n)[i]? = some s) : S.stays keeps s = (keeps[i]?).getD false := by
  obtain ⟨_, h2, h3⟩ := S.looseBelow_at _ _ _ h
  unfold stays
  rw [h2, h3, Bool.true_and]
theorem looseList_nth (S : DS) {i s : Nat} (h : (S.looseBelow S.n)[i]? = some s) : (iv S.looseList)[i]? = some (.int .i64 (s : Int)) := by
  unfold iv looseList
  simp [h]
end DS
end Go.Proofs.YtkokcdlgfemobaaGreatDoor
