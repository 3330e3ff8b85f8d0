/-
  What is put is got, what is got is put as the same bytes: plain mathematics. Conditions: none.
-/
import Derived.Test.YtfiijnpabmocdaaMgMath
namespace Go.Proofs.Ytfiijnpabmocdaa.Mg
open Fix

deriving instance DecidableEq for Nt
deriving instance DecidableEq for Pt
/-- a part is the same in two messages -/
def Same : Pt → M → M → Prop
  | .num q, m, n => get m q = get n q
  | .bits, m, n => m.bits = n.bits
  | .data, m, n => m.data = n.data
/-- a part is the zero value -/
def Nought : Pt → M → Prop
  | .num q, m => get m q = 0
  | .bits, m => m.bits = 0
  | .data, m => m.data = []
def psize : Pt → Nat
  | .num q => size q
  | .bits => 8
  | .data => 32
theorem Same.refl (p : Pt) (m : M) : Same p m m := by cases p <;> rfl
theorem Same.symm {p : Pt} {m n : M} (h : Same p m n) : Same p n m := by cases p <;> exact Eq.symm h
theorem Same.trans {p : Pt} {m n o : M} (h : Same p m n) (h2 : Same p n o) : Same p m o := by cases p <;> exact Eq.trans h h2
theorem Same.nought {p : Pt} {m n : M} (h : Same p m n) (h2 : Nought p n) : Nought p m := by cases p <;> exact Eq.trans h h2
theorem Nought.same {p : Pt} {m n : M} (h : Nought p m) (h2 : Nought p n) : Same p m n := by cases p <;> exact Eq.trans h (Eq.symm h2)
theorem ext {m n : M} (hk : m.kind = n.kind) (hs : m.src = n.src) (h : ∀ p, Same p m n) : m = n := by
  have h1 := h (.num .term); have h2 := h (.num .seq); have h3 := h (.num .stamp); have h4 := h (.num .block); have h5 := h (.num .ok)
  have h6 := h (.num .rt); have h7 := h (.num .rn); have h8 := h (.num .rs); have h9 := h .bits; have h10 := h .data
  have hok : m.ok = n.ok := by
    simp only [Same, get] at h5
    cases hm : m.ok <;> cases hn : n.ok <;> simp [hm, hn] at h5 <;> rfl
  cases m; cases n
  simp only [Same, get] at *
  subst hk hs h1 h2 h3 h4 h6 h7 h8 h9 h10 hok
  rfl
theorem bare_iff (m : M) : bare m = true ↔ ∀ p, Nought p m := by
  unfold bare
  constructor
  · intro h p
    simp only [Bool.and_eq_true, beq_iff_eq, Bool.not_eq_true', List.length_eq_zero_iff] at h
    obtain ⟨⟨⟨⟨⟨⟨⟨⟨⟨h1, h2⟩, h3⟩, h4⟩, h5⟩, h6⟩, h7⟩, h8⟩, h9⟩, h10⟩ := h
    cases p with
    | num q => cases q <;> simp only [Nought, get] <;> simp [*]
    | bits => exact h9
    | data => exact h10
  · intro h
    have h1 := h (.num .term); have h2 := h (.num .seq); have h3 := h (.num .stamp); have h4 := h (.num .block); have h5 := h (.num .ok)
    have h6 := h (.num .rt); have h7 := h (.num .rn); have h8 := h (.num .rs); have h9 := h .bits; have h10 := h .data
    simp only [Nought, get] at *
    simp [*]
    cases hb : m.ok
    · rfl
    · rw [hb] at h5; simp at h5
theorem get_set {m : M} {v : Int} {q : Nt} (h0 : 0 ≤ v) (h : v ≤ most q) : get (set m v q) q = v := by
  cases q <;> simp only [get, set, most] at * <;> try rfl
  rcases (show v = 0 ∨ v = 1 by omega) with rfl | rfl <;> rfl
theorem get_set_other {m : M} {v : Int} {q q' : Nt} (h : q' ≠ q) : get (set m v q) q' = get m q' := by
  cases q <;> cases q' <;> first | exact absurd rfl h | rfl
theorem set_kind (m : M) (v : Int) (q : Nt) : (set m v q).kind = m.kind ∧ (set m v q).src = m.src ∧ (set m v q).bits = m.bits ∧ (set m v q).data = m.data := by
  cases q <;> exact ⟨rfl, rfl, rfl, rfl⟩
/-- a step lets all else be -/
theorem step_frame {α : Type} {o : Ops α} {p : Pt} {s s' : M × α} (h : step o p s = .ok s') : s'.1.kind = s.1.kind ∧ s'.1.src = s.1.src ∧ ∀ p', p' ≠ p → Same p' s'.1 s.1 := by
  cases p with
  | num q =>
    simp only [step] at h
    cases hx : o.num s.2 (get s.1 q) (size q) (most q) with
    | no e a => rw [hx] at h; cases h
    | ok x =>
      rw [hx] at h; cases h
      have z := set_kind s.1 x.1 q
      refine ⟨z.1, z.2.1, fun p' hp => ?_⟩
      cases p' with
      | num q' => exact get_set_other (fun hq => hp (by rw [hq]))
      | bits => exact z.2.2.1
      | data => exact z.2.2.2
  | bits =>
    simp only [step] at h
    cases hx : o.lon s.2 s.1.bits with
    | no e a => rw [hx] at h; cases h
    | ok x =>
      rw [hx] at h; cases h
      refine ⟨rfl, rfl, fun p' hp => ?_⟩
      cases p' with
      | num q' => cases q' <;> rfl
      | bits => exact absurd rfl hp
      | data => rfl
  | data =>
    simp only [step] at h
    cases hx : o.byt s.2 s.1.data with
    | no e a => rw [hx] at h; cases h
    | ok x =>
      rw [hx] at h; cases h
      refine ⟨rfl, rfl, fun p' hp => ?_⟩
      cases p' with
      | num q' => cases q' <;> rfl
      | bits => rfl
      | data => exact absurd rfl hp
theorem run_cons {α : Type} {o : Ops α} {p : Pt} {r : List Pt} {s s' : M × α} (h : run o (p :: r) s = .ok s') : ∃ s1, step o p s = .ok s1 ∧ run o r s1 = .ok s' := by
  replace h : (step o p s).bind (run o r) = .ok s' := h
  cases hx : step o p s with
  | no e a => rw [hx] at h; cases h
  | ok x => rw [hx] at h; exact ⟨x, rfl, h⟩
theorem run_frame {α : Type} {o : Ops α} : ∀ {ps : List Pt} {s s' : M × α}, run o ps s = .ok s' → s'.1.kind = s.1.kind ∧ s'.1.src = s.1.src ∧ ∀ p', p' ∉ ps → Same p' s'.1 s.1
  | [], s, s', h => by cases h; exact ⟨rfl, rfl, fun p' _ => Same.refl _ _⟩
  | p :: r, s, s', h => by
    obtain ⟨s1, h1, h2⟩ := run_cons h
    obtain ⟨a, b, c⟩ := step_frame h1
    obtain ⟨a', b', c'⟩ := run_frame h2
    refine ⟨a'.trans a, b'.trans b, fun p' hp => ?_⟩
    rw [List.mem_cons, not_or] at hp
    exact (c' p' hp.2).trans (c p' hp.1)
theorem most_lt (q : Nt) {v : Int} (h0 : 0 ≤ v) (h : v ≤ most q) : v.toNat < 256 ^ size q := by
  cases q <;> simp only [most, size] at * <;> omega
theorem cut (pre d rest : List UInt8) : ((pre ++ (d ++ rest)).drop pre.length).take d.length = d := by simp
/-- one part: laid, and read again -/
theorem wstep {p : Pt} {s s' : M × List UInt8} (h : step wOps p s = .ok s') (hb : s.1.bits < 18446744073709551616) :
    ∃ d, s'.2 = s.2 ++ d ∧ d.length = psize p ∧ Nought p s'.1 ∧ s'.1.bits < 18446744073709551616 ∧
      ∀ l pre rest z, l = pre ++ (d ++ rest) → ∃ z1, step (rOps l) p (z, pre.length) = .ok (z1, (pre ++ d).length) ∧ Same p z1 s.1 := by
  cases p with
  | num q =>
    simp only [step, wOps] at h
    split at h
    · rename_i hq
      cases h
      refine ⟨dig (get s.1 q).toNat (size q), rfl, dig_length _ _, ?_, ?_, ?_⟩
      · exact get_set (Int.le_refl 0) (by cases q <;> simp [most])
      · rw [(set_kind _ _ _).2.2.1]; exact hb
      · intro l pre rest z hl
        have e1 : le ((l.drop pre.length).take (size q)) = (get s.1 q).toNat := by
          have := cut pre (dig (get s.1 q).toNat (size q)) rest
          rw [dig_length] at this
          rw [hl, this, le_dig_self _ _ (most_lt q hq.1 hq.2)]
        have e2 : ((get s.1 q).toNat : Int) = get s.1 q := Int.toNat_of_nonneg hq.1
        refine ⟨set z (get s.1 q) q, ?_, get_set hq.1 hq.2⟩
        simp only [step, rOps]
        rw [if_pos (by rw [hl]; simp [dig_length]), e1, e2, if_pos hq.2]
        simp [R.bind, dig_length]
    · cases h
  | bits =>
    simp only [step, wOps] at h
    cases h
    refine ⟨dig s.1.bits 8, rfl, dig_length _ _, rfl, (by decide : (0 : Nat) < 18446744073709551616), ?_⟩
    intro l pre rest z hl
    have e1 : le ((l.drop pre.length).take 8) = s.1.bits := by
      have := cut pre (dig s.1.bits 8) rest
      rw [dig_length] at this
      rw [hl, this, le_dig_self _ _ (by simpa using hb)]
    refine ⟨{ z with bits := s.1.bits }, ?_, rfl⟩
    simp only [step, rOps]
    rw [if_pos (by rw [hl]; simp [dig_length]), e1]
    simp [R.bind, dig_length]
  | data =>
    simp only [step, wOps] at h
    split at h
    · rename_i hq
      cases h
      refine ⟨s.1.data, rfl, hq, rfl, hb, ?_⟩
      intro l pre rest z hl
      have e1 : (l.drop pre.length).take 32 = s.1.data := by
        have := cut pre s.1.data rest
        rw [hq] at this
        rw [hl, this]
      refine ⟨{ z with data := s.1.data }, ?_, rfl⟩
      simp only [step, rOps]
      rw [if_pos (by rw [hl]; simp [hq]), e1]
      simp [R.bind, hq]
    · cases h
theorem rshort {p : Pt} {l : List UInt8} {z : M} {at_ : Nat} (h : l.length < at_ + psize p) : step (rOps l) p (z, at_) = .no 4 l.length := by
  cases p <;> simp only [step, rOps, psize] at * <;> rw [if_neg (by omega)] <;> rfl
/-- one part: read, and laid again -/
theorem rstep {p : Pt} {l : List UInt8} {z z1 : M} {at_ at1 : Nat} (h : step (rOps l) p (z, at_) = .ok (z1, at1)) :
    at1 = at_ + psize p ∧ at1 ≤ l.length ∧ (z.bits < 18446744073709551616 → z1.bits < 18446744073709551616) ∧ ∀ m a, Same p m z1 → ∃ m1, step wOps p (m, a) = .ok (m1, a ++ (l.drop at_).take (psize p)) ∧ Nought p m1 := by
  cases p with
  | num q =>
    simp only [step, rOps] at h
    split at h
    · rename_i h1
      split at h
      · rename_i h2
        cases h
        refine ⟨rfl, h1, (by rw [(set_kind _ _ _).2.2.1]; exact id), fun m a hs => ?_⟩
        have hs : get m q = (le ((l.drop at_).take (size q)) : Int) := Eq.trans hs (get_set (by omega) h2)
        have hlen : ((l.drop at_).take (size q)).length = size q := by simp; omega
        refine ⟨set m 0 q, ?_, get_set (Int.le_refl 0) (by cases q <;> simp [most])⟩
        simp only [step, wOps]
        rw [if_pos (by rw [hs]; exact ⟨by omega, h2⟩), hs]
        simp only [R.bind, Int.toNat_natCast, psize]
        have := dig_le ((l.drop at_).take (size q))
        rw [hlen] at this
        rw [this]
      · cases h
    · cases h
  | bits =>
    simp only [step, rOps] at h
    split at h
    · rename_i h1
      cases h
      have hlen : ((l.drop at_).take 8).length = 8 := by simp; omega
      refine ⟨rfl, h1, fun _ => ?_, fun m a hs => ?_⟩
      · have := le_lt ((l.drop at_).take 8)
        rw [hlen] at this
        exact this
      · have hs : m.bits = le ((l.drop at_).take 8) := hs
        refine ⟨{ m with bits := 0 }, ?_, rfl⟩
        simp only [step, wOps, R.bind, psize]
        have := dig_le ((l.drop at_).take 8)
        rw [hlen] at this
        rw [hs, this]
    · cases h
  | data =>
    simp only [step, rOps] at h
    split at h
    · rename_i h1
      cases h
      refine ⟨rfl, h1, id, fun m a hs => ?_⟩
      have hs : m.data = (l.drop at_).take 32 := hs
      refine ⟨{ m with data := [] }, ?_, rfl⟩
      simp only [step, wOps, psize]
      rw [if_pos (by rw [hs]; simp; omega), hs]
      rfl
    · cases h
theorem rno {p : Pt} {l : List UInt8} {z : M} {at_ : Nat} {e x : Int} (h : step (rOps l) p (z, at_) = .no e x) (ha : at_ ≤ l.length) : 0 ≤ x ∧ x ≤ l.length ∧ (e = 4 ∨ e = 5) := by
  cases p with
  | num q =>
    simp only [step, rOps] at h
    split at h
    · split at h
      · cases h
      · cases h; exact ⟨by omega, by omega, .inr rfl⟩
    · cases h; exact ⟨by omega, by omega, .inl rfl⟩
  | bits =>
    simp only [step, rOps] at h
    split at h
    · cases h
    · cases h; exact ⟨by omega, by omega, .inl rfl⟩
  | data =>
    simp only [step, rOps] at h
    split at h
    · cases h
    · cases h; exact ⟨by omega, by omega, .inl rfl⟩
def psum : List Pt → Nat
  | [] => 0
  | p :: r => psize p + psum r
/-- all parts: laid, and read again -/
theorem wrun : ∀ {ps : List Pt} {s s' : M × List UInt8}, run wOps ps s = .ok s' → ps.Nodup → s.1.bits < 18446744073709551616 →
    ∃ d, s'.2 = s.2 ++ d ∧ d.length = psum ps ∧ (∀ p ∈ ps, Nought p s'.1) ∧
      (∀ l pre rest z, l = pre ++ (d ++ rest) → ∃ z1, run (rOps l) ps (z, pre.length) = .ok (z1, (pre ++ d).length) ∧ ∀ p ∈ ps, Same p z1 s.1) ∧
      (∀ l pre z n, n < d.length → l = pre ++ d.take n → run (rOps l) ps (z, pre.length) = .no 4 l.length)
  | [], s, s', h, _, _ => by
    cases h
    exact ⟨[], by simp, rfl, by simp, fun l pre rest z hl => ⟨z, by simp [run], by simp⟩, fun l pre z n hn => by simp at hn⟩
  | p :: r, s, s', h, hd, hb => by
    obtain ⟨s1, h1, h2⟩ := run_cons h
    obtain ⟨hp, hd⟩ := List.nodup_cons.1 hd
    obtain ⟨d, e1, e2, e3, e4, e5⟩ := wstep h1 hb
    obtain ⟨_, _, f1⟩ := step_frame h1
    obtain ⟨d', g1, g2, g3, g4, g5⟩ := wrun h2 hd e4
    obtain ⟨_, _, f2⟩ := run_frame h2
    refine ⟨d ++ d', by rw [g1, e1, List.append_assoc], by simp [psum, e2, g2], ?_, ?_, ?_⟩
    · intro p' hp'
      rcases List.mem_cons.1 hp' with rfl | hp'
      · exact (f2 _ hp).nought e3
      · exact g3 p' hp'
    · intro l pre rest z hl
      obtain ⟨z1, i1, i2⟩ := e5 l pre (d' ++ rest) z (by rw [hl]; simp)
      obtain ⟨z2, j1, j2⟩ := g4 l (pre ++ d) rest z1 (by rw [hl]; simp)
      obtain ⟨_, _, f3⟩ := run_frame j1
      refine ⟨z2, ?_, ?_⟩
      · show (step (rOps l) p (z, pre.length)).bind (run (rOps l) r) = _
        rw [i1]
        show run (rOps l) r (z1, (pre ++ d).length) = _
        rw [j1, List.append_assoc]
      · intro p' hp'
        rcases List.mem_cons.1 hp' with rfl | hp'
        · exact (f3 _ hp).trans i2
        · exact (j2 p' hp').trans (f1 p' (fun e => hp (e ▸ hp')))
    · intro l pre z n hn hl
      by_cases hc : n < d.length
      · show (step (rOps l) p (z, pre.length)).bind (run (rOps l) r) = _
        rw [rshort (by rw [hl]; simp; omega)]
        rfl
      · have e6 : (d ++ d').take n = d ++ d'.take (n - d.length) := by
          rw [List.take_append, List.take_of_length_le (by omega)]
        rw [e6] at hl
        obtain ⟨z1, i1, i2⟩ := e5 l pre (d'.take (n - d.length)) z hl
        show (step (rOps l) p (z, pre.length)).bind (run (rOps l) r) = _
        rw [i1]
        exact g5 l (pre ++ d) z1 (n - d.length) (by simp at hn; omega) (by rw [hl]; simp)
/-- all parts: read, and laid again -/
theorem rrun : ∀ {ps : List Pt} {l : List UInt8} {z z1 : M} {at_ at1 : Nat}, run (rOps l) ps (z, at_) = .ok (z1, at1) → ps.Nodup → at_ ≤ l.length →
    at_ ≤ at1 ∧ at1 ≤ l.length ∧ (z.bits < 18446744073709551616 → z1.bits < 18446744073709551616) ∧ ∀ m a, (∀ p ∈ ps, Same p m z1) → ∃ m1, run wOps ps (m, a) = .ok (m1, a ++ (l.drop at_).take (at1 - at_)) ∧ ∀ p ∈ ps, Nought p m1
  | [], l, z, z1, at_, at1, h, _, hl => by
    cases h
    exact ⟨Nat.le_refl _, hl, id, fun m a _ => ⟨m, by simp [run], by simp⟩⟩
  | p :: r, l, z, z1, at_, at1, h, hd, hl => by
    obtain ⟨⟨z2, at2⟩, h1, h2⟩ := run_cons h
    obtain ⟨hp, hd⟩ := List.nodup_cons.1 hd
    obtain ⟨e1, e2, e3, e4⟩ := rstep h1
    obtain ⟨g1, g2, g3, g4⟩ := rrun h2 hd e2
    obtain ⟨_, _, f2⟩ := run_frame h2
    refine ⟨by omega, g2, fun hz => g3 (e3 hz), fun m a hm => ?_⟩
    obtain ⟨m1, i1, i2⟩ := e4 m a ((hm p (by simp)).trans (f2 p hp))
    obtain ⟨_, _, f3⟩ := step_frame i1
    obtain ⟨m2, j1, j2⟩ := g4 m1 (a ++ (l.drop at_).take (psize p)) (fun p' hp' => (f3 p' (fun e => hp (e ▸ hp'))).trans (hm p' (by simp [hp'])))
    obtain ⟨_, _, f4⟩ := run_frame j1
    refine ⟨m2, ?_, ?_⟩
    · show (step wOps p (m, a)).bind (run wOps r) = _
      rw [i1]
      show run wOps r (m1, _) = _
      rw [j1, List.append_assoc]
      congr 3
      rw [e1, show at1 - at_ = psize p + (at1 - at2) by omega, List.take_add, List.drop_drop, ← e1]
    · intro p' hp'
      rcases List.mem_cons.1 hp' with rfl | hp'
      · exact (f4 _ hp).nought i2
      · exact j2 p' hp'
theorem rrun_no : ∀ {ps : List Pt} {l : List UInt8} {z : M} {at_ : Nat} {e x : Int}, run (rOps l) ps (z, at_) = .no e x → at_ ≤ l.length → 0 ≤ x ∧ x ≤ l.length ∧ (e = 4 ∨ e = 5)
  | [], _, _, _, _, _, h, _ => by cases h
  | p :: r, l, z, at_, e, x, h, hl => by
    replace h : (step (rOps l) p (z, at_)).bind (run (rOps l) r) = .no e x := h
    cases hx : step (rOps l) p (z, at_) with
    | no e a => rw [hx] at h; cases h; exact rno hx hl
    | ok s => obtain ⟨z1, at1⟩ := s; rw [hx] at h; exact rrun_no h (rstep hx).2.1
theorem fields_nodup {k : Int} {fs : List Fd} (h : fields k = some fs) : (fs.flatMap parts).Nodup := by
  unfold fields at h
  split at h; · cases h; decide
  split at h; · cases h; decide
  split at h; · cases h; decide
  split at h; · cases h; decide
  split at h; · cases h; decide
  split at h; · cases h; decide
  split at h; · cases h; decide
  split at h; · cases h; decide
  split at h; · cases h; decide
  split at h; · cases h; decide
  split at h; · cases h; decide
  cases h
theorem put_some {m : M} {b : List UInt8} (h : put m = some b) : ∃ fs s, fields m.kind = some fs ∧ 0 ≤ m.src ∧ m.src ≤ 2 ∧
    run wOps (fs.flatMap parts) (m, [UInt8.ofNat (m.kind % 256).toNat, UInt8.ofNat (m.src % 256).toNat]) = .ok s ∧ (∀ p, Nought p s.1) ∧ s.2 = b := by
  unfold put at h
  split at h
  · rename_i s hs
    split at h
    · rename_i hb
      cases h
      unfold carry at hs
      split at hs
      · cases hs
      · rename_i fs hf
        split at hs
        · rename_i hsrc
          exact ⟨fs, s, hf, hsrc.1, hsrc.2, hs, (bare_iff _).1 hb, rfl⟩
        · cases hs
    · cases h
  · cases h
theorem got_cons (k s : UInt8) (t : List UInt8) : got (k :: s :: t) = (carry (rOps (k :: s :: t)) ({ zero with kind := (k.toNat : Int), src := (s.toNat : Int) }, 2)).bind fun x => if x.2 = (k :: s :: t).length then .ok x.1 else .no 4 x.2 := by
  have hk := k.toNat_lt
  have hs := s.toNat_lt
  have e1 : (rOps (k :: s :: t)).num 0 0 1 255 = .ok ((k.toNat : Int), 1) := by
    simp only [rOps]
    rw [if_pos (by simp)]
    simp only [List.drop_zero, List.take_succ_cons, List.take_zero, le, Nat.mul_zero, Nat.add_zero]
    rw [if_pos (by omega)]
  have e2 : (rOps (k :: s :: t)).num 1 0 1 255 = .ok ((s.toNat : Int), 2) := by
    simp only [rOps]
    rw [if_pos (by simp)]
    simp only [List.drop_succ_cons, List.drop_zero, List.take_succ_cons, List.take_zero, le, Nat.mul_zero, Nat.add_zero]
    rw [if_pos (by omega)]
  unfold got
  rw [e1]
  show ((rOps (k :: s :: t)).num 1 0 1 255).bind _ = _
  rw [e2]
  rfl
theorem got_nil : got [] = .no 4 0 := rfl
theorem got_one (k : UInt8) : got [k] = .no 4 1 := by
  have hk := k.toNat_lt
  have e1 : (rOps [k]).num 0 0 1 255 = .ok ((k.toNat : Int), 1) := by
    simp only [rOps]
    rw [if_pos (by simp)]
    simp only [List.drop_zero, List.take_succ_cons, List.take_zero, le, Nat.mul_zero, Nat.add_zero]
    rw [if_pos (by omega)]
  unfold got
  rw [e1]
  rfl
theorem head_kind {x : Int} (h0 : 0 ≤ x) (h : x ≤ 255) : ((UInt8.ofNat (x % 256).toNat).toNat : Int) = x := by
  rw [UInt8.toNat_ofNat']; omega
/-- the bytes of a message that may be: what Get tells of them, of them cut short, and of them with one byte more -/
theorem put_back {m : M} {b : List UInt8} (h : put m = some b) (hb : m.bits < 18446744073709551616) :
    got b = .ok m ∧ (∀ n, n < b.length → ∃ a, got (b.take n) = .no 4 a) ∧ (∀ x, got (b ++ [x]) = .no 4 b.length) ∧ b.length = 2 + psum (all m.kind) ∧ 1 ≤ m.kind ∧ m.kind ≤ 11 := by
  obtain ⟨fs, s, hf, hs0, hs2, hr, hn, rfl⟩ := put_some h
  obtain ⟨hk1, hk2⟩ := fields_known hf
  obtain ⟨d, e1, e2, e3, e4, e5⟩ := wrun hr (fields_nodup hf) hb
  obtain ⟨_, _, f1⟩ := run_frame hr
  have hK := head_kind (x := m.kind) (by omega) (by omega)
  have hS := head_kind (x := m.src) (by omega) (by omega)
  obtain ⟨K, hKe⟩ : ∃ K, K = UInt8.ofNat (m.kind % 256).toNat := ⟨_, rfl⟩
  obtain ⟨S, hSe⟩ : ∃ S, S = UInt8.ofNat (m.src % 256).toNat := ⟨_, rfl⟩
  rw [← hKe] at hK e1
  rw [← hSe] at hS e1
  have c0 : ∀ l, carry (rOps l) ({ zero with kind := (K.toNat : Int), src := (S.toNat : Int) }, 2) = run (rOps l) (fs.flatMap parts) ({ zero with kind := m.kind, src := m.src }, 2) := by
    intro l
    rw [hK, hS]
    unfold carry
    simp only [hf]
    rw [if_pos ⟨hs0, hs2⟩]
  have E1 : s.2 = K :: S :: d := e1
  have full : ∀ rest z, ∃ z1, run (rOps (K :: S :: (d ++ rest))) (fs.flatMap parts) (z, 2) = .ok (z1, 2 + d.length) ∧ ∀ p ∈ fs.flatMap parts, Same p z1 m := by
    intro rest z
    obtain ⟨z1, i1, i2⟩ := e4 (K :: S :: (d ++ rest)) [K, S] rest z rfl
    refine ⟨z1, ?_, i2⟩
    rw [show 2 + d.length = ([K, S] ++ d).length by simp; omega]
    exact i1
  refine ⟨?_, ?_, ?_, ?_, hk1, hk2⟩
  · obtain ⟨z1, i1, i2⟩ := full [] { zero with kind := m.kind, src := m.src }
    rw [List.append_nil] at i1
    obtain ⟨g1, g2, g3⟩ := run_frame i1
    rw [E1, got_cons, c0, i1]
    show (if 2 + d.length = (K :: S :: d).length then _ else _) = _
    rw [if_pos (by simp; omega)]
    congr 1
    refine ext g1 g2 fun p => ?_
    by_cases hp : p ∈ fs.flatMap parts
    · exact i2 p hp
    · refine (g3 p hp).trans ?_
      have : Nought p m := ((f1 p hp).symm).nought (hn p)
      refine Nought.same ?_ this
      cases p with
      | num q => cases q <;> rfl
      | bits => rfl
      | data => rfl
  · intro n hn'
    rw [E1] at hn' ⊢
    match n with
    | 0 => exact ⟨0, rfl⟩
    | 1 => exact ⟨1, got_one K⟩
    | n + 2 =>
      refine ⟨((K :: S :: d.take n).length : Int), ?_⟩
      show got (K :: S :: d.take n) = _
      have e6 : run (rOps (K :: S :: d.take n)) (fs.flatMap parts) ({ zero with kind := m.kind, src := m.src }, 2) = .no 4 (K :: S :: d.take n).length := e5 (K :: S :: d.take n) [K, S] _ n (by simpa using hn') rfl
      rw [got_cons, c0, e6]
      rfl
  · intro x
    obtain ⟨z1, i1, i2⟩ := full [x] { zero with kind := m.kind, src := m.src }
    rw [E1]
    show got (K :: S :: (d ++ [x])) = _
    rw [got_cons, c0, i1]
    show (if 2 + d.length = (K :: S :: (d ++ [x])).length then _ else _) = _
    rw [if_neg (by simp; omega)]
    simp only [List.length_cons]
    congr 1
    omega
  · rw [E1]
    simp only [List.length_cons, e2, all, hf, Option.getD_some]
    omega
theorem got_inv {b : List UInt8} {m : M} (h : got b = .ok m) : ∃ K S d fs, b = K :: S :: d ∧ m.kind = (K.toNat : Int) ∧ m.src = (S.toNat : Int) ∧ fields m.kind = some fs ∧ 0 ≤ m.src ∧ m.src ≤ 2 ∧
    run (rOps b) (fs.flatMap parts) ({ zero with kind := (K.toNat : Int), src := (S.toNat : Int) }, 2) = .ok (m, b.length) := by
  match b with
  | [] => cases h
  | [k] => rw [got_one] at h; cases h
  | K :: S :: d =>
    rw [got_cons] at h
    cases hx : carry (rOps (K :: S :: d)) ({ zero with kind := (K.toNat : Int), src := (S.toNat : Int) }, 2) with
    | no e a => rw [hx] at h; cases h
    | ok x =>
      obtain ⟨m1, n1⟩ := x
      rw [hx] at h
      replace h : (if n1 = (K :: S :: d).length then R.ok m1 else .no 4 n1) = .ok m := h
      split at h
      · rename_i hl
        cases h
        unfold carry at hx
        split at hx
        · cases hx
        · rename_i fs hf
          split at hx
          · rename_i hsrc
            obtain ⟨g1, g2, _⟩ := run_frame hx
            refine ⟨K, S, d, fs, rfl, g1, g2, by rw [g1]; exact hf, by rw [g2]; exact hsrc.1, by rw [g2]; exact hsrc.2, ?_⟩
            rw [hx, hl]
          · cases hx
      · cases h
/-- what is got is put as the same bytes -/
theorem got_back {b : List UInt8} {m : M} (h : got b = .ok m) : put m = some b := by
  obtain ⟨K, S, d, fs, rfl, hk, hs, hf, h0, h2, hr⟩ := got_inv h
  obtain ⟨e1, e2, e3, e4⟩ := rrun hr (fields_nodup hf) (by simp)
  obtain ⟨m1, i1, i2⟩ := e4 m [K, S] (fun p _ => Same.refl p m)
  obtain ⟨_, _, f1⟩ := run_frame i1
  obtain ⟨_, _, f2⟩ := run_frame hr
  have hK := K.toNat_lt
  have hS := S.toNat_lt
  have eK : UInt8.ofNat (m.kind % 256).toNat = K := by
    apply UInt8.toNat_inj.1
    rw [UInt8.toNat_ofNat', hk]; omega
  have eS : UInt8.ofNat (m.src % 256).toNat = S := by
    apply UInt8.toNat_inj.1
    rw [UInt8.toNat_ofNat', hs]; omega
  have hc : carry wOps (m, [UInt8.ofNat (m.kind % 256).toNat, UInt8.ofNat (m.src % 256).toNat]) = .ok (m1, K :: S :: d) := by
    unfold carry
    simp only [hf]
    rw [if_pos ⟨h0, h2⟩, eK, eS, i1]
    simp
  have hb : bare m1 = true := by
    refine (bare_iff _).2 fun p => ?_
    by_cases hp : p ∈ fs.flatMap parts
    · exact i2 p hp
    · refine (f1 p hp).nought ((f2 p hp).nought ?_)
      cases p with
      | num q => cases q <;> rfl
      | bits => rfl
      | data => rfl
  unfold put
  rw [hc]
  show (if bare m1 then _ else _) = _
  rw [hb]
  rfl
theorem got_no {b : List UInt8} {e a : Int} (h : got b = .no e a) : 0 ≤ a ∧ a ≤ b.length ∧ (e = 4 ∨ e = 5 ∨ e = 6) := by
  match b with
  | [] => cases h; exact ⟨by decide, by decide, .inl rfl⟩
  | [k] => rw [got_one] at h; cases h; exact ⟨by decide, by simp, .inl rfl⟩
  | K :: S :: d =>
    rw [got_cons] at h
    cases hx : carry (rOps (K :: S :: d)) ({ zero with kind := (K.toNat : Int), src := (S.toNat : Int) }, 2) with
    | no e' a' =>
      rw [hx] at h; cases h
      unfold carry at hx
      split at hx
      · cases hx; exact ⟨by omega, by simp; omega, .inr (.inr rfl)⟩
      · split at hx
        · obtain ⟨g1, g2, g3⟩ := rrun_no hx (by simp)
          exact ⟨g1, g2, by omega⟩
        · cases hx; exact ⟨by omega, by simp; omega, .inr (.inl rfl)⟩
    | ok x =>
      obtain ⟨m1, n1⟩ := x
      rw [hx] at h
      replace h : (if n1 = (K :: S :: d).length then R.ok m1 else .no 4 n1) = .no e a := h
      split at h
      · cases h
      · cases h
        unfold carry at hx
        split at hx
        · cases hx
        · rename_i fs hf
          split at hx
          · have := (rrun hx (fields_nodup hf) (by simp)).2.1
            exact ⟨by omega, by omega, .inl rfl⟩
          · cases hx
/-- two messages that may be are the same just if their bytes are -/
theorem put_apart {m n : M} {b c : List UInt8} (h : put m = some b) (h' : put n = some c) (hm : m.bits < 18446744073709551616) (hn : n.bits < 18446744073709551616) : b = c ↔ m = n := by
  constructor
  · rintro rfl
    have := (put_back h hm).1.symm.trans (put_back h' hn).1
    cases this; rfl
  · rintro rfl
    rw [h] at h'; cases h'; rfl
end Go.Proofs.Ytfiijnpabmocdaa.Mg
