/-
  A disk under a fuse: plain mathematics. Conditions: none.
-/
import Derived.Test.YtmkibkafccgmgaaDiskKit
namespace Go.Proofs.Ytmkibkafccgmgaa
namespace DS

/-- a disk of k sectors of one byte each, of which d changes of n are done: fl is firm, ll was written last -/
structure Fus (m n d : Nat) (fl ll : List UInt8) (S : DS) : Prop where
  hn : S.n = m
  d_le : d ≤ n
  ops : S.ops = d
  live : S.out = false → S.left = some (n - d)
  dead : S.out = true → d = n
  lf : fl.length = m
  ll_ : ll.length = m
  firm : ∀ k, k < m → S.firm k = sec (fl.getD k 0)
  last : ∀ k, k < m → S.last k = sec (ll.getD k 0)
section
variable {m n d : Nat} {fl ll : List UInt8} {S : DS}
theorem getD_set (l : List UInt8) (k j : Nat) (x : UInt8) (hk : k < l.length) : (l.set k x).getD j 0 = if j = k then x else l.getD j 0 := by
  simp only [List.getD_eq_getElem?_getD, List.getElem?_set]
  by_cases h : j = k
  · subst h; simp [hk]
  · rw [if_neg h, if_neg (fun e => h e.symm)]
theorem there_nat (S : DS) (k : Nat) (h : k < S.n) : S.there (k : Int) = true := by rw [there_iff]; omega
theorem Fus.write_go (h : Fus m n d fl ll S) (hd : d < n) (k : Nat) (hk : k < m) (x : UInt8) :
    (S.write (k : Int) (sec x)).2 = 0 ∧ Fus m n (d + 1) fl (ll.set k x) (S.write (k : Int) (sec x)).1 := by
  have ho : S.out = false := by
    cases e : S.out with
    | false => rfl
    | true => have := h.dead e; omega
  have hl := h.live ho
  obtain ⟨j, hj⟩ : ∃ j, n - d = j + 1 := ⟨n - d - 1, by omega⟩
  rw [hj] at hl
  have ht := there_nat S k (by rw [h.hn]; exact hk)
  have e : S.write (k : Int) (sec x) = ({ S with left := some j, ops := S.ops + 1, loose := upd S.loose k (some (sec x)) }, 0) := by
    unfold write chg
    rw [ho, ht, hl]
    simp [sec_length]
  rw [e]
  refine ⟨rfl, h.hn, by omega, by show S.ops + 1 = d + 1; rw [h.ops], fun _ => by show some j = _; congr 1; omega, fun e' => (Bool.false_ne_true (ho.symm.trans e')).elim, h.lf, by rw [List.length_set]; exact h.ll_, h.firm, fun i hi => ?_⟩
  rw [getD_set _ _ _ _ (by rw [h.ll_]; exact hk)]
  show ((if i = k then some (sec x) else S.loose i).getD (S.firm i)) = _
  by_cases hik : i = k
  · simp [hik]
  · rw [if_neg hik, if_neg hik]
    exact h.last i hi
theorem Fus.write_no (h : Fus m n d fl ll S) (hd : ¬ d < n) (k : Nat) (hk : k < m) (x : UInt8) :
    (S.write (k : Int) (sec x)).2 = 10 ∧ Fus m n d fl ll (S.write (k : Int) (sec x)).1 := by
  have hdn : d = n := by have := h.d_le; omega
  cases ho : S.out with
  | true =>
    have e : S.write (k : Int) (sec x) = (S, 10) := by unfold write; rw [ho]; rfl
    rw [e]
    exact ⟨rfl, h⟩
  | false =>
    have hl := h.live ho
    rw [show n - d = 0 by omega] at hl
    have ht := there_nat S k (by rw [h.hn]; exact hk)
    have e : S.write (k : Int) (sec x) = ({ S with out := true }, 10) := by
      unfold write chg
      rw [ho, ht, hl]
      simp [sec_length]
    rw [e]
    exact ⟨rfl, h.hn, h.d_le, h.ops, fun e' => (Bool.false_ne_true e'.symm).elim, fun _ => hdn, h.lf, h.ll_, h.firm, h.last⟩
theorem Fus.flush_go (h : Fus m n d fl ll S) (hd : d < n) : S.flush.2 = 0 ∧ Fus m n (d + 1) ll ll S.flush.1 := by
  have ho : S.out = false := by
    cases e : S.out with
    | false => rfl
    | true => have := h.dead e; omega
  have hl := h.live ho
  obtain ⟨j, hj⟩ : ∃ j, n - d = j + 1 := ⟨n - d - 1, by omega⟩
  rw [hj] at hl
  have e : S.flush = (settle { S with left := some j, ops := S.ops + 1 }, 0) := by
    unfold flush chg
    rw [ho, hl]
    rfl
  rw [e]
  refine ⟨rfl, h.hn, by omega, by show S.ops + 1 = d + 1; rw [h.ops], fun _ => by show some j = _; congr 1; omega, fun e' => (Bool.false_ne_true (ho.symm.trans e')).elim, h.ll_, h.ll_, h.last, h.last⟩
theorem Fus.flush_no (h : Fus m n d fl ll S) (hd : ¬ d < n) : S.flush.2 = 10 ∧ Fus m n d fl ll S.flush.1 := by
  have hdn : d = n := by have := h.d_le; omega
  cases ho : S.out with
  | true =>
    have e : S.flush = (S, 10) := by unfold flush; rw [ho]; rfl
    rw [e]
    exact ⟨rfl, h⟩
  | false =>
    have hl := h.live ho
    rw [show n - d = 0 by omega] at hl
    have e : S.flush = ({ S with out := true }, 10) := by
      unfold flush chg
      rw [ho, hl]
      rfl
    rw [e]
    exact ⟨rfl, h.hn, h.d_le, h.ops, fun e' => (Bool.false_ne_true e'.symm).elim, fun _ => hdn, h.lf, h.ll_, h.firm, h.last⟩
/-- behind a crash that keeps nothing: what was firm -/
theorem Fus.crash_none (h : Fus m n d fl ll S) (tear : Int) : (S.crash [] tear).out = false ∧ ∀ k, k < m → ((S.crash [] tear).readE (k : Int) == 0 && (S.crash [] tear).readB (k : Int) == sec (fl.getD k 0)) = true := by
  refine ⟨rfl, fun k hk => ?_⟩
  have ht : (S.crash [] tear).there (k : Int) = true := there_nat _ k (by show k < S.n; rw [h.hn]; exact hk)
  have e1 : (S.crash [] tear).readE (k : Int) = 0 := by
    unfold readE
    rw [ht]
    rfl
  have e2 : (S.crash [] tear).readB (k : Int) = sec (fl.getD k 0) := by
    unfold readB
    rw [ht, show (S.crash [] tear).out = false from rfl, Int.toNat_natCast, ← h.firm k hk]
    show S.crashed [] tear k = _
    unfold crashed stays
    simp
  rw [e1, e2]
  simp
theorem fresh_fus (m n : Nat) : Fus m n 0 (List.replicate m 0) (List.replicate m 0) { fresh m with left := some n } := by
  refine ⟨rfl, Nat.zero_le _, rfl, fun _ => rfl, fun e => (Bool.false_ne_true e).elim, by simp, by simp, fun k hk => ?_, fun k hk => ?_⟩
  · simp [fresh, sec, hk]
  · simp [fresh, sec, hk, DS.last]
end
end DS
end Go.Proofs.Ytmkibkafccgmgaa
