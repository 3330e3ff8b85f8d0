/-
  When a message may be, and which bytes it has, part by part: plain mathematics. Conditions: none.
-/
import Derived.Test.YtfiijnpabmocdaaMgRound
namespace Go.Proofs.Ytfiijnpabmocdaa.Mg
open Fix

/-- a part may have its value -/
def Fits : Pt → M → Prop
  | .num q, m => 0 ≤ get m q ∧ get m q ≤ most q
  | .bits, _ => True
  | .data, m => m.data.length = 32
def enc : Pt → M → List UInt8
  | .num q, m => dig (get m q).toNat (size q)
  | .bits, m => dig m.bits 8
  | .data, m => m.data
def encs : List Pt → M → List UInt8
  | [], _ => []
  | p :: r, m => enc p m ++ encs r m
theorem Fits.same {p : Pt} {m n : M} (h : Fits p n) (hs : Same p m n) : Fits p m := by
  cases p with
  | num q => have e : get m q = get n q := hs; exact ⟨by rw [e]; exact h.1, by rw [e]; exact h.2⟩
  | bits => trivial
  | data => have e : m.data = n.data := hs; show m.data.length = 32; rw [e]; exact h
theorem enc_same {p : Pt} {m n : M} (hs : Same p m n) : enc p m = enc p n := by
  cases p with
  | num q => have e : get m q = get n q := hs; show dig _ _ = dig _ _; rw [e]
  | bits => have e : m.bits = n.bits := hs; show dig _ _ = dig _ _; rw [e]
  | data => exact hs
theorem encs_same : ∀ {ps : List Pt} {m n : M}, (∀ p ∈ ps, Same p m n) → encs ps m = encs ps n
  | [], _, _, _ => rfl
  | p :: r, m, n, h => by
    show enc p m ++ encs r m = _
    rw [enc_same (h p (by simp)), encs_same (fun p' hp => h p' (by simp [hp]))]
    rfl
theorem step_fits {p : Pt} {s s' : M × List UInt8} (h : step wOps p s = .ok s') : Fits p s.1 := by
  cases p with
  | num q =>
    simp only [step, wOps] at h
    split at h
    · rename_i hq; exact hq
    · cases h
  | bits => trivial
  | data =>
    simp only [step, wOps] at h
    split at h
    · rename_i hq; exact hq
    · cases h
theorem fits_step {p : Pt} {m : M} {a : List UInt8} (h : Fits p m) : ∃ m1, step wOps p (m, a) = .ok (m1, a ++ enc p m) ∧ Nought p m1 := by
  cases p with
  | num q =>
    refine ⟨set m 0 q, ?_, get_set (Int.le_refl 0) (by cases q <;> simp [most])⟩
    simp only [step, wOps]
    rw [if_pos ⟨h.1, h.2⟩]
    rfl
  | bits => exact ⟨{ m with bits := 0 }, rfl, rfl⟩
  | data =>
    refine ⟨{ m with data := [] }, ?_, rfl⟩
    have h : m.data.length = 32 := h
    simp only [step, wOps]
    rw [if_pos h]
    rfl
theorem run_fits : ∀ {ps : List Pt} {s s' : M × List UInt8}, run wOps ps s = .ok s' → ps.Nodup → ∀ p ∈ ps, Fits p s.1
  | [], _, _, _, _ => by simp
  | p :: r, s, s', h, hd => by
    obtain ⟨s1, h1, h2⟩ := run_cons h
    obtain ⟨hp, hd⟩ := List.nodup_cons.1 hd
    obtain ⟨_, _, f1⟩ := step_frame h1
    intro p' hp'
    rcases List.mem_cons.1 hp' with rfl | hp'
    · exact step_fits h1
    · exact (run_fits h2 hd p' hp').same (f1 p' (fun e => hp (e ▸ hp'))).symm
theorem fits_run : ∀ {ps : List Pt} {m : M} {a : List UInt8}, (∀ p ∈ ps, Fits p m) → ps.Nodup → ∃ m1, run wOps ps (m, a) = .ok (m1, a ++ encs ps m) ∧ ∀ p ∈ ps, Nought p m1
  | [], m, a, _, _ => ⟨m, by simp [run, encs], by simp⟩
  | p :: r, m, a, h, hd => by
    obtain ⟨hp, hd⟩ := List.nodup_cons.1 hd
    obtain ⟨m1, h1, h2⟩ := fits_step (a := a) (h p (by simp))
    obtain ⟨_, _, f1⟩ := step_frame h1
    have hs : ∀ p' ∈ r, Same p' m1 m := fun p' hp' => f1 p' (fun e => hp (e ▸ hp'))
    obtain ⟨m2, g1, g2⟩ := fits_run (a := a ++ enc p m) (fun p' hp' => (h p' (by simp [hp'])).same (hs p' hp')) hd
    obtain ⟨_, _, f2⟩ := run_frame g1
    refine ⟨m2, ?_, ?_⟩
    · show (step wOps p (m, a)).bind (run wOps r) = _
      rw [h1]
      show run wOps r (m1, _) = _
      rw [g1, List.append_assoc, encs_same hs]
      rfl
    · intro p' hp'
      rcases List.mem_cons.1 hp' with rfl | hp'
      · exact (f2 _ hp).nought h2
      · exact g2 p' hp'
/-- may a message be? -/
def May (m : M) : Prop := ∃ fs, fields m.kind = some fs ∧ 0 ≤ m.src ∧ m.src ≤ 2 ∧ (∀ p ∈ fs.flatMap parts, Fits p m) ∧ ∀ p, p ∉ fs.flatMap parts → Nought p m
theorem may_put {m : M} (h : May m) : put m = some ([UInt8.ofNat (m.kind % 256).toNat, UInt8.ofNat (m.src % 256).toNat] ++ encs (all m.kind) m) := by
  obtain ⟨fs, hf, h0, h2, h3, h4⟩ := h
  obtain ⟨m1, g1, g2⟩ := fits_run (a := [UInt8.ofNat (m.kind % 256).toNat, UInt8.ofNat (m.src % 256).toNat]) h3 (fields_nodup hf)
  obtain ⟨_, _, f1⟩ := run_frame g1
  have hc : carry wOps (m, [UInt8.ofNat (m.kind % 256).toNat, UInt8.ofNat (m.src % 256).toNat]) = .ok (m1, [UInt8.ofNat (m.kind % 256).toNat, UInt8.ofNat (m.src % 256).toNat] ++ encs (fs.flatMap parts) m) := by
    unfold carry
    simp only [hf]
    rw [if_pos ⟨h0, h2⟩, g1]
  have hb : bare m1 = true := by
    refine (bare_iff _).2 fun p => ?_
    by_cases hp : p ∈ fs.flatMap parts
    · exact g2 p hp
    · exact (f1 p hp).nought (h4 p hp)
  unfold put
  rw [hc]
  show (if bare m1 then _ else _) = _
  rw [hb]
  simp [all, hf]
theorem put_may {m : M} {b : List UInt8} (h : put m = some b) : May m := by
  obtain ⟨fs, s, hf, hs0, hs2, hr, hn, rfl⟩ := put_some h
  obtain ⟨_, _, f1⟩ := run_frame hr
  exact ⟨fs, hf, hs0, hs2, run_fits hr (fields_nodup hf), fun p hp => (f1 p hp).symm.nought (hn p)⟩
/-- how many bytes each kind has -/
def szs : List Nat := [0, 27, 28, 14, 15, 21, 22, 53, 21, 8, 23, 16]
theorem sizes {k : Nat} (h1 : 1 ≤ k) (h2 : k ≤ 11) : 2 + psum (all (k : Int)) = szs.getD k 0 := by
  rcases (show k = 1 ∨ k = 2 ∨ k = 3 ∨ k = 4 ∨ k = 5 ∨ k = 6 ∨ k = 7 ∨ k = 8 ∨ k = 9 ∨ k = 10 ∨ k = 11 by omega) with rfl | rfl | rfl | rfl | rfl | rfl | rfl | rfl | rfl | rfl | rfl <;> rfl
/-- a message with another Seq -/
theorem spare {m : M} (h : May m) : (m.kind = 7 ∨ m.kind = 8) ↔ May { m with seq := 7 } := by
  obtain ⟨fs, hf, h0, h2, h3, h4⟩ := h
  have hsame : ∀ p, p ≠ .num .seq → Same p { m with seq := 7 } m := by
    intro p hp
    cases p with
    | num q => cases q <;> first | exact absurd rfl hp | rfl
    | bits => rfl
    | data => rfl
  have hq : (m.kind = 7 ∨ m.kind = 8) ↔ Pt.num Nt.seq ∈ fs.flatMap parts := by
    obtain ⟨hk1, hk2⟩ := fields_known hf
    obtain ⟨k, hk⟩ : ∃ k, k = m.kind := ⟨_, rfl⟩
    rw [← hk] at hf hk1 hk2 ⊢
    rcases (show k = 1 ∨ k = 2 ∨ k = 3 ∨ k = 4 ∨ k = 5 ∨ k = 6 ∨ k = 7 ∨ k = 8 ∨ k = 9 ∨ k = 10 ∨ k = 11 by omega) with rfl | rfl | rfl | rfl | rfl | rfl | rfl | rfl | rfl | rfl | rfl <;> (cases hf; decide)
  rw [hq]
  constructor
  · intro hm
    refine ⟨fs, hf, h0, h2, fun p hp => ?_, fun p hp => (hsame p (fun e => hp (e ▸ hm))).nought (h4 p hp)⟩
    by_cases he : p = .num .seq
    · subst he; exact ⟨(by decide : (0 : Int) ≤ 7), (by decide : (7 : Int) ≤ 1099511627776)⟩
    · exact (h3 p hp).same (hsame p he)
  · rintro ⟨gs, hg, _, _, _, g4⟩
    have hg : fields m.kind = some gs := hg
    rw [hf] at hg; cases hg
    by_cases hm : Pt.num Nt.seq ∈ fs.flatMap parts
    · exact hm
    · have : (7 : Int) = 0 := g4 _ hm
      cases this
end Go.Proofs.Ytfiijnpabmocdaa.Mg
