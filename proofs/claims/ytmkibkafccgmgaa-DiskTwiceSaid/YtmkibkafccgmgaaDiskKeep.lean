/-
  A disk of sectors of one byte, its flushes and its crash: plain mathematics. Conditions: none.
-/
import Derived.Test.YtmkibkafccgmgaaDiskFuse
namespace Go.Proofs.Ytmkibkafccgmgaa
namespace DS

/-- a disk of m sectors of one byte each, without a fuse: fl is firm, ll was written last -/
structure Kep (m d : Nat) (fl ll : List UInt8) (S : DS) : Prop where
  hn : S.n = m
  ops : S.ops = d
  left : S.left = none
  out : S.out = false
  lf : fl.length = m
  ll_ : ll.length = m
  firm : ∀ k, k < m → S.firm k = sec (fl.getD k 0)
  last : ∀ k, k < m → S.last k = sec (ll.getD k 0)
section
variable {m d : Nat} {fl ll : List UInt8} {S : DS}
theorem fresh_kep (m : Nat) : Kep m 0 (List.replicate m 0) (List.replicate m 0) (fresh m) := by
  refine ⟨rfl, rfl, rfl, rfl, by simp, by simp, fun k hk => ?_, fun k hk => ?_⟩
  · simp [fresh, sec, hk]
  · simp [fresh, sec, hk, DS.last]
theorem Kep.write (h : Kep m d fl ll S) (k : Nat) (hk : k < m) (x : UInt8) :
    (S.write (k : Int) (sec x)).2 = 0 ∧ Kep m (d + 1) fl (ll.set k x) (S.write (k : Int) (sec x)).1 := by
  have ht := there_nat S k (by rw [h.hn]; exact hk)
  have e : S.write (k : Int) (sec x) = ({ S with ops := S.ops + 1, loose := upd S.loose k (some (sec x)) }, 0) := by
    unfold DS.write chg
    rw [h.out, ht, h.left]
    simp [sec_length]
  rw [e]
  refine ⟨rfl, h.hn, by show S.ops + 1 = d + 1; rw [h.ops], h.left, h.out, h.lf, by rw [List.length_set]; exact h.ll_, h.firm, fun i hi => ?_⟩
  rw [getD_set _ _ _ _ (by rw [h.ll_]; exact hk)]
  show ((if i = k then some (sec x) else S.loose i).getD (S.firm i)) = _
  by_cases hik : i = k
  · simp [hik]
  · rw [if_neg hik, if_neg hik]
    exact h.last i hi
theorem Kep.flush (h : Kep m d fl ll S) : S.flush.2 = 0 ∧ Kep m (d + 1) ll ll S.flush.1 := by
  have e : S.flush = (settle { S with ops := S.ops + 1 }, 0) := by
    unfold DS.flush chg
    rw [h.out, h.left]
    rfl
  rw [e]
  exact ⟨rfl, h.hn, by show S.ops + 1 = d + 1; rw [h.ops], h.left, h.out, h.ll_, h.ll_, h.last, h.last⟩
theorem crash_looseList (S : DS) (keeps : List Bool) (tear : Int) : (S.crash keeps tear).looseList = [] := by
  unfold looseList looseBelow
  rw [List.filter_eq_nil_iff.2 (by intro a _; simp [isLoose, crash])]
  rfl
def half (x y : UInt8) : List UInt8 := (sec x).take 32 ++ (sec y).take 32
theorem half_length (x y : UInt8) : (half x y).length = 64 := by simp [half, sec]
/-- what a sector is read as behind a crash -/
theorem Kep.crash_read (h : Kep m d fl ll S) (keeps : List Bool) (tear : Int) (k : Nat) (hk : k < m) :
    (S.crash keeps tear).readE (k : Int) = 0 ∧ (S.crash keeps tear).readB (k : Int) =
      if S.stays keeps k then (if ((S.stayBelow keeps k).length : Int) = tear then half (ll.getD k 0) (fl.getD k 0) else sec (ll.getD k 0)) else sec (fl.getD k 0) := by
  have ht : (S.crash keeps tear).there (k : Int) = true := there_nat _ k (by show k < S.n; rw [h.hn]; exact hk)
  have e1 : (S.crash keeps tear).readE (k : Int) = 0 := by
    unfold readE
    rw [ht]
    rfl
  refine ⟨e1, ?_⟩
  unfold readB
  rw [ht, show (S.crash keeps tear).out = false from rfl, Int.toNat_natCast]
  show S.crashed keeps tear k = _
  unfold crashed
  rw [h.firm k hk, h.last k hk]
  have hd : (sec (fl.getD k 0)).drop 32 = (sec (fl.getD k 0)).take 32 := by simp [sec]
  rw [hd]
  rfl
theorem stayBelow_succ (S : DS) (keeps : List Bool) (k : Nat) : (S.stayBelow keeps (k + 1)).length = (S.stayBelow keeps k).length + (if S.stays keeps k then 1 else 0) := by
  unfold stayBelow
  rw [List.range_succ, List.filter_append, List.length_append]
  cases h : S.stays keeps k <;> simp [h]
/-- how many were torn so far -/
def Torn (S : DS) (keeps : List Bool) (tear : Int) (k t : Nat) : Prop := t ≤ 1 ∧ (t = 1 → tear < ((S.stayBelow keeps k).length : Int))
theorem Torn.zero (S : DS) (keeps : List Bool) (tear : Int) : Torn S keeps tear 0 0 := ⟨by omega, fun h => by omega⟩
theorem Torn.next {keeps : List Bool} {tear : Int} {k t : Nat} (h : Torn S keeps tear k t) : Torn S keeps tear (k + 1) t := by
  refine ⟨h.1, fun e => ?_⟩
  have := h.2 e
  rw [stayBelow_succ]
  split <;> omega
/-- a sector that is read neither as written nor as firm is half of each, and the one that is torn -/
theorem Kep.torn (h : Kep m d fl ll S) {keeps : List Bool} {tear : Int} {k t : Nat} (hk : k < m) (ht : Torn S keeps tear k t)
    (h1 : ((S.crash keeps tear).readE (k : Int) == 0 && (S.crash keeps tear).readB (k : Int) == sec (ll.getD k 0)) = false)
    (h2 : ((S.crash keeps tear).readE (k : Int) == 0 && (S.crash keeps tear).readB (k : Int) == sec (fl.getD k 0)) = false) :
    ((S.crash keeps tear).readE (k : Int) == 0 && (S.crash keeps tear).readB (k : Int) == half (ll.getD k 0) (fl.getD k 0)) = true ∧ Torn S keeps tear (k + 1) (t + 1) := by
  obtain ⟨e1, e2⟩ := h.crash_read keeps tear k hk
  rw [e1, e2] at h1 h2 ⊢
  by_cases hs : S.stays keeps k = true
  · rw [if_pos hs] at h1 h2 ⊢
    by_cases hc : ((S.stayBelow keeps k).length : Int) = tear
    · rw [if_pos hc]
      refine ⟨by simp, ?_, fun _ => ?_⟩
      · have := ht.1
        by_cases h0 : t = 1
        · have := ht.2 h0; omega
        · omega
      · rw [stayBelow_succ, if_pos hs]; omega
    · rw [if_neg hc] at h1
      simp at h1
  · rw [if_neg hs] at h2
    simp at h2
end
end DS
end Go.Proofs.Ytmkibkafccgmgaa
