/-
  Records by the document, and why nobody becomes primary who has not all that was told: plain mathematics. Conditions: none.
-/
import Derived.Test.YtofecokbpopdnaaBa
namespace Go.Proofs.Ytofecokbpopdnaa

namespace Rc
structure R where
  t : Int
  n : Int
  s : Int
/-- may a number be a term, or a record's N? -/
def Num (n : Int) : Prop := 0 ≤ n ∧ n ≤ 1099511627776
instance (n : Int) : Decidable (Num n) := by unfold Num; infer_instance
def Set3 (s : Int) : Prop := 1 ≤ s ∧ s ≤ 3
instance (s : Int) : Decidable (Set3 s) := by unfold Set3; infer_instance
/-- P17.1 -/
def Ok (r : R) : Prop := Num r.t ∧ Num r.n ∧ Set3 r.s
instance (r : R) : Decidable (Ok r) := by unfold Ok; infer_instance
def New (a b : R) : Prop := b.t < a.t ∨ (a.t = b.t ∧ b.n < a.n)
instance (a b : R) : Decidable (New a b) := by unfold New; infer_instance
def Has (s d : Int) : Prop := (d = 0 ∧ s % 2 = 1) ∨ (d = 1 ∧ s / 2 % 2 = 1)
instance (s d : Int) : Decidable (Has s d) := by unfold Has; infer_instance
/-- P17.2 -/
def nextE (r : R) (t s : Int) : Int := if ¬ (Ok r ∧ Set3 s ∧ Num t) then 2 else if t < r.t ∨ (t = r.t ∧ r.n = 1099511627776) then 9 else 0
def nextV (r : R) (t s : Int) : R := if nextE r t s ≠ 0 then ⟨0, 0, 0⟩ else if t = r.t then ⟨t, r.n + 1, s⟩ else ⟨t, 0, s⟩
/-- P17.3 -/
def May (a : R) (d : Int) (b : R) : Prop := Ok a ∧ Ok b ∧ Has a.s d ∧ (New a b ∨ Has b.s d)
instance (a : R) (d : Int) (b : R) : Decidable (May a d b) := by unfold May; infer_instance

theorem has0 {s : Int} (h : Set3 s) : Has s 0 ↔ s ≠ 2 := by unfold Has Set3 at *; omega
theorem has1 {s : Int} (h : Set3 s) : Has s 1 ↔ s ≠ 1 := by unfold Has Set3 at *; omega
def updR {α : Type} (f : Nat → α) (k : Nat) (x : α) : Nat → α := fun j => if j = k then x else f j
theorem updR_same {α : Type} (f : Nat → α) (k : Nat) (x : α) : updR f k x k = x := if_pos rfl
theorem updR_far {α : Type} (f : Nat → α) {k j : Nat} (x : α) (h : j ≠ k) : updR f k x j = f j := if_neg h

/-- RecordSafe: what stands ahead of step i -/
structure Inv (i : Nat) (r : Nat → R) (h : Nat → Bool) (p t : Int) (no sa : Bool) : Prop where
  t0 : 0 ≤ t ∧ t ≤ i
  ok : ∀ j, j < 3 → 0 ≤ (r j).t ∧ (r j).t ≤ t ∧ 0 ≤ (r j).n ∧ (r j).n ≤ i ∧ Set3 (r j).s
  pp : p = -1 ∨ ∃ q : Nat, q < 2 ∧ p = (q : Int)
  has : ∀ q : Nat, p = (q : Int) → h q = true
  ter : ∀ q : Nat, p = (q : Int) → (r q).t = t
  top : ∀ q : Nat, p = (q : Int) → ∀ j, j < 3 → r j = r q ∨ New (r q) (r j)
  not : ∀ q : Nat, p = (q : Int) → no = true → ∃ v, v < 3 ∧ v ≠ q ∧ r v = r q
  sam : ∀ q : Nat, p = (q : Int) → sa = true → h (1 - q) = true
  all : p = -1 → h 0 = true ∧ h 1 = true
  id : ∀ d : Nat, d < 2 → h d = false → ¬ Has (r (1 - d)).s (d : Int) ∧ ∀ a, a < 3 → Has (r a).s (d : Int) → ∀ b, b < 3 → b ≠ a → ¬ Has (r b).s (d : Int) ∧ New (r b) (r a)
section
variable {i : Nat} {r : Nat → R} {h : Nat → Bool} {p t : Int} {no sa : Bool}
theorem inv_new : Inv 0 (fun _ => ⟨0, 0, 3⟩) (fun _ => true) (-1) 0 false false :=
  ⟨⟨by omega, by omega⟩, fun _ _ => ⟨by decide, by decide, by decide, by decide, by decide⟩, .inl rfl, fun _ _ => rfl, fun q e => by omega, fun q e => by omega, fun q e => by omega, fun q e => by omega, fun _ => ⟨rfl, rfl⟩, fun _ _ e => by simp at e⟩
theorem Inv.stay (I : Inv i r h p t no sa) : Inv (i + 1) r h p t no sa :=
  ⟨⟨I.t0.1, by have := I.t0.2; omega⟩, fun j hj => by obtain ⟨a, b, c, d, e⟩ := I.ok j hj; exact ⟨a, b, c, by omega, e⟩, I.pp, I.has, I.ter, I.top, I.not, I.sam, I.all, I.id⟩
theorem Inv.ok' (I : Inv i r h p t no sa) (hi : i ≤ 200) {j : Nat} (hj : j < 3) : Ok (r j) := by
  obtain ⟨a, b, c, d, e⟩ := I.ok j hj
  have := I.t0
  exact ⟨⟨a, by omega⟩, ⟨c, by omega⟩, e⟩
/-- who has not all that was told does not become primary -/
theorem Inv.may (I : Inv i r h p t no sa) {d v : Nat} (hd : d < 2) (hv : v < 3) (hn : v ≠ d) (hm : May (r d) (d : Int) (r v)) : h d = true := by
  cases e : h d with
  | true => rfl
  | false =>
    exfalso
    obtain ⟨_, _, h1, h2⟩ := hm
    obtain ⟨x, y⟩ := (I.id d hd e).2 d (by omega) h1 v hv hn
    rcases h2 with z | z
    · unfold New at y z; omega
    · exact x z
theorem two_eq {d e : Nat} (hd : d < 2) (he : e < 2) (h : e ≠ d) : 1 - e = d := by omega
theorem Inv.next0 (I : Inv i r h p t no sa) (hi : i < 200) {d : Nat} (hd : d < 3) : nextE (r d) (t + 1) (r d).s = 0 ∧ nextV (r d) (t + 1) (r d).s = ⟨t + 1, 0, (r d).s⟩ := by
  have o := I.ok' (by omega) hd
  obtain ⟨a, b, c, f, g⟩ := I.ok d hd
  have := I.t0
  have e : nextE (r d) (t + 1) (r d).s = 0 := by
    unfold nextE
    rw [if_neg (fun x => x ⟨o, g, by unfold Num; omega⟩), if_neg (by omega)]
  refine ⟨e, ?_⟩
  unfold nextV
  rw [if_neg (fun x => x e), if_neg (by omega)]
theorem Inv.nextp (I : Inv i r h p t no sa) (hi : i < 200) {q : Nat} (hq : q < 2) (hp : p = (q : Int)) {s : Int} (hs : Set3 s) : nextE (r q) t s = 0 ∧ nextV (r q) t s = ⟨t, (r q).n + 1, s⟩ := by
  have o := I.ok' (by omega) (show q < 3 by omega)
  obtain ⟨a, b, c, f, g⟩ := I.ok q (by omega)
  have := I.t0
  have et := I.ter q hp
  have e : nextE (r q) t s = 0 := by
    unfold nextE
    rw [if_neg (fun x => x ⟨o, hs, by unfold Num; omega⟩), if_neg (by omega)]
  refine ⟨e, ?_⟩
  unfold nextV
  rw [if_neg (fun x => x e), if_pos et.symm]
/-- 0: a data node becomes primary -/
theorem Inv.stand (I : Inv i r h p t no sa) {d : Nat} (hd : d < 2) (hh : h d = true) : Inv (i + 1) (updR r d ⟨t + 1, 0, (r d).s⟩) h (d : Int) (t + 1) false false := by
  have t0 := I.t0
  refine ⟨by omega, fun j hj => ?_, .inr ⟨d, hd, rfl⟩, fun q e => ?_, fun q e => ?_, fun q e j hj => ?_, fun q e x => by simp at x, fun q e x => by simp at x, fun e => by omega, fun e he hf => ?_⟩
  · obtain ⟨a, b, c, f, g⟩ := I.ok j hj
    by_cases x : j = d
    · subst x; rw [updR_same]; exact ⟨by show 0 ≤ t + 1; omega, Int.le_refl _, Int.le_refl _, by show (0 : Int) ≤ _; omega, g⟩
    · rw [updR_far r _ x]; exact ⟨a, by omega, c, by omega, g⟩
  · obtain rfl : q = d := by omega
    exact hh
  · obtain rfl : q = d := by omega
    rw [updR_same]
  · obtain rfl : q = d := by omega
    rw [updR_same]
    by_cases x : j = q
    · subst x; left; rw [updR_same]
    · right; rw [updR_far r _ x]
      obtain ⟨a, b, c, f, g⟩ := I.ok j hj
      exact .inl (by show (r j).t < t + 1; omega)
  · have hn : e ≠ d := fun x => by subst x; rw [hh] at hf; simp at hf
    have hne := two_eq hd he hn
    obtain ⟨n1, n2⟩ := I.id e he hf
    rw [hne] at n1 ⊢
    refine ⟨by rw [updR_same]; exact n1, fun a ha hA b hb hba => ?_⟩
    by_cases x : a = d
    · subst x; rw [updR_same] at hA; exact absurd hA n1
    · rw [updR_far r _ x] at hA ⊢
      obtain ⟨m1, m2⟩ := n2 a ha hA b hb hba
      by_cases y : b = d
      · subst y; rw [updR_same]
        obtain ⟨a', b', _⟩ := I.ok a ha
        exact ⟨m1, .inl (by show (r a).t < t + 1; omega)⟩
      · rw [updR_far r _ y]; exact ⟨m1, m2⟩
/-- 1: the primary lets another one keep its record -/
theorem Inv.note (I : Inv i r h p t no sa) {q v : Nat} (hq : q < 2) (hp : p = (q : Int)) (hv : v < 3) (hn : v ≠ q) : Inv (i + 1) (updR r v (r q)) h p t true sa := by
  have t0 := I.t0
  have eq' : updR r v (r q) q = r q := updR_far r _ (fun e => hn e.symm)
  have one : ∀ x : Nat, p = (x : Int) → x = q := fun x e => by omega
  refine ⟨by omega, fun j hj => ?_, I.pp, I.has, fun x e => ?_, fun x e j hj => ?_, fun x e _ => ?_, I.sam, I.all, fun d hd hf => ?_⟩
  · by_cases x : j = v
    · subst x; rw [updR_same]
      obtain ⟨a, b, c, f, g⟩ := I.ok q (by omega)
      exact ⟨a, b, c, by omega, g⟩
    · rw [updR_far r _ x]
      obtain ⟨a, b, c, f, g⟩ := I.ok j hj
      exact ⟨a, b, c, by omega, g⟩
  · obtain rfl := one x e
    rw [eq']; exact I.ter _ e
  · obtain rfl := one x e
    rw [eq']
    by_cases y : j = v
    · subst y; left; rw [updR_same]
    · rw [updR_far r _ y]; exact I.top _ e j hj
  · obtain rfl := one x e
    exact ⟨v, hv, hn, by rw [updR_same, eq']⟩
  · have hnd : d ≠ q := fun x => by subst x; rw [I.has _ hp] at hf; simp at hf
    have hne := two_eq hq hd hnd
    obtain ⟨n1, n2⟩ := I.id d hd hf
    rw [hne] at n1 ⊢
    rw [eq']
    refine ⟨n1, fun a ha hA b hb hba => ?_⟩
    by_cases x : a = v
    · subst x; rw [updR_same] at hA; exact absurd hA n1
    · rw [updR_far r _ x] at hA ⊢
      by_cases y : b = v
      · subst y; rw [updR_same]
        exact ⟨n1, (n2 a ha hA q (by omega) (fun e => n1 (by rw [e]; exact hA))).2⟩
      · rw [updR_far r _ y]; exact n2 a ha hA b hb hba
/-- in either case the other one has the primary's record then -/
theorem Inv.same_rec (I : Inv i r h p t no sa) {q v : Nat} (hp : p = (q : Int)) (hv : v < 3) (hn : ¬ New (r q) (r v)) : r v = r q := (I.top q hp v hv).resolve_right hn
theorem updR_self {α : Type} (f : Nat → α) {k : Nat} {x : α} (h : f k = x) : updR f k x = f := by
  funext j
  unfold updR
  split
  · rename_i e; rw [e, h]
  · rfl
theorem Inv.noted (I : Inv i r h p t no sa) {q v : Nat} (hq : q < 2) (hp : p = (q : Int)) (hv : v < 3) (hn : v ≠ q) (hw : ¬ New (r q) (r v)) : Inv (i + 1) r h p t true sa := by
  have := I.note hq hp hv hn
  rwa [updR_self r (I.same_rec hp hv hw)] at this
/-- 2: a write is told as done that the other one has not -/
theorem Inv.tell (I : Inv i r h p t no sa) {q : Nat} (hq : q < 2) (hp : p = (q : Int)) (hno : no = true) (hs : (r q).s = 1 + (q : Int)) : Inv (i + 1) r (updR h (1 - q) false) p t no false := by
  have one : ∀ x : Nat, p = (x : Int) → x = q := fun x e => by omega
  have nh : ¬ Has (r q).s ((1 - q : Nat) : Int) := by
    rw [hs]
    rcases (show q = 0 ∨ q = 1 by omega) with rfl | rfl <;> decide
  refine ⟨I.stay.t0, I.stay.ok, I.pp, fun x e => ?_, I.ter, I.top, I.not, fun x e y => by simp at y, fun e => by omega, fun d hd hf => ?_⟩
  · obtain rfl := one x e
    rw [updR_far h _ (by omega)]; exact I.has _ e
  · by_cases x : d = 1 - q
    · subst x
      have e1 : 1 - (1 - q) = q := by omega
      rw [e1]
      refine ⟨nh, fun a ha hA b hb hba => ?_⟩
      have ha' : a ≠ q := by rintro rfl; exact nh hA
      have na : New (r q) (r a) := (I.top q hp a ha).resolve_left fun e => nh (by rw [← e]; exact hA)
      obtain ⟨v, hv, hvq, ev⟩ := I.not q hp hno
      have hb' : r b = r q := by
        by_cases y : b = q
        · rw [y]
        · have hva : v ≠ a := fun e => nh (by rw [← ev, e]; exact hA)
          have : b = v := by omega
          rw [this, ev]
      rw [hb']
      exact ⟨nh, na⟩
    · rw [updR_far h _ x] at hf; exact I.id d hd hf
/-- 3: the other one has all that the primary has -/
theorem Inv.same (I : Inv i r h p t no sa) {q : Nat} (hq : q < 2) (hp : p = (q : Int)) : Inv (i + 1) r (updR h (1 - q) (h q)) p t no true := by
  have one : ∀ x : Nat, p = (x : Int) → x = q := fun x e => by omega
  have hh := I.has q hp
  rw [hh]
  refine ⟨I.stay.t0, I.stay.ok, I.pp, fun x e => ?_, I.ter, I.top, I.not, fun x e _ => ?_, fun e => by omega, fun d hd hf => ?_⟩
  · obtain rfl := one x e
    rw [updR_far h _ (by omega)]; exact hh
  · obtain rfl := one x e
    rw [updR_same]
  · by_cases x : d = 1 - q
    · subst x; rw [updR_same] at hf; simp at hf
    · rw [updR_far h _ x] at hf; exact I.id d hd hf
/-- 4, 5: another set is current -/
theorem Inv.set (I : Inv i r h p t no sa) {q : Nat} (hq : q < 2) (hp : p = (q : Int)) {s : Int} (hs : Set3 s) (hall : h (1 - q) = true) : Inv (i + 1) (updR r q ⟨t, (r q).n + 1, s⟩) h p t false sa := by
  have one : ∀ x : Nat, p = (x : Int) → x = q := fun x e => by omega
  have et := I.ter q hp
  have hh := I.has q hp
  refine ⟨I.stay.t0, fun j hj => ?_, I.pp, I.has, fun x e => ?_, fun x e j hj => ?_, fun x e y => by simp at y, I.sam, I.all, fun d hd hf => ?_⟩
  · by_cases x : j = q
    · subst x; rw [updR_same]
      obtain ⟨a, b, c, f, g⟩ := I.ok j hj
      exact ⟨by show 0 ≤ t; omega, Int.le_refl _, by show 0 ≤ (r j).n + 1; omega, by show (r j).n + 1 ≤ _; omega, hs⟩
    · rw [updR_far r _ x]; exact I.stay.ok j hj
  · obtain rfl := one x e
    rw [updR_same]
  · obtain rfl := one x e
    rw [updR_same]
    by_cases y : j = x
    · subst y; left; rw [updR_same]
    · rw [updR_far r _ y]
      right
      rcases I.top _ e j hj with z | z
      · rw [z]; exact .inr ⟨et.symm, by show (r x).n < (r x).n + 1; omega⟩
      · unfold New at *
        show (r j).t < t ∨ (t = (r j).t ∧ (r j).n < (r x).n + 1)
        omega
  · exfalso
    by_cases x : d = q
    · subst x; rw [hh] at hf; simp at hf
    · have : d = 1 - q := by omega
      subst this; rw [hall] at hf; simp at hf
/-- who is alone in the set is behind nobody: a set of both says that both have all -/
theorem Inv.both (I : Inv i r h p t no sa) {q : Nat} (hq : q < 2) (hp : p = (q : Int)) (hs : (r q).s = 3) : h (1 - q) = true := by
  cases e : h (1 - q) with
  | true => rfl
  | false =>
    exfalso
    have := (I.id (1 - q) (by omega) e).1
    have e1 : 1 - (1 - q) = q := by omega
    rw [e1, hs] at this
    rcases (show q = 0 ∨ q = 1 by omega) with rfl | rfl <;> exact this (by decide)
end
/-- P17.5 -/
theorem most {r a b : R} {d : Int} (hn : ¬ Has r.s d) (h : a = r ∨ b = r) (hd : ¬ New a r) : ¬ May a d b := by
  rintro ⟨_, _, h1, h2⟩
  rcases h with rfl | rfl
  · exact hn h1
  · exact h2.elim hd hn
end Rc
end Go.Proofs.Ytofecokbpopdnaa
