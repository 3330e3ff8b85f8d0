/-
  Clocks over a list of ticks: plain mathematics. Conditions: none.
-/
import Derived.Test.YtfopjilncfndnaaCkMath
namespace Go.Proofs.Ytfopjilncfndnaa.Ck

/-- the clocks behind the first i ticks -/
def St (t : T3) (l : List T3) (i : Nat) : S := (l.take i).foldl S.tick (new t)
theorem St_0 (t : T3) (l : List T3) : St t l 0 = new t := rfl
theorem St_succ {t b : T3} {l : List T3} {i : Nat} (h : l[i]? = some b) : St t l (i + 1) = (St t l i).tick b := by
  unfold St
  rw [List.take_add_one, h, List.foldl_append]
  rfl
theorem St_ok {t : T3} {l : List T3} (h : Btw 0 M t) : ∀ i, (St t l i).Ok
  | 0 => h
  | i + 1 => by
    cases e : l[i]? with
    | none =>
      have : St t l (i + 1) = St t l i := by unfold St; rw [List.take_add_one, e]; simp
      rw [this]
      exact St_ok h i
    | some b => rw [St_succ e]; exact S.tick_ok (St_ok h i)
theorem St_n (t : T3) (l : List T3) : ∀ i, (St t l i).n ≤ i
  | 0 => Nat.le_refl _
  | i + 1 => by
    cases e : l[i]? with
    | none =>
      have : St t l (i + 1) = St t l i := by unfold St; rw [List.take_add_one, e]; simp
      rw [this]
      exact Nat.le_succ_of_le (St_n t l i)
    | some b =>
      rw [St_succ e]
      exact Nat.le_trans (S.tick_n _ _) (Nat.succ_le_succ (St_n t l i))
theorem tick_drift {s : S} {b : T3} (h : (s.tick b).kept = true) : s.kept = true ∧ s.n ≤ (s.tick b).n ∧ ∀ k : Int, 0 ≤ k → k < 3 → 90 * (((s.tick b).n : Int) - (s.n : Int)) ≤ (s.tick b).now k - s.now k ∧ (s.tick b).now k - s.now k ≤ 110 * (((s.tick b).n : Int) - (s.n : Int)) := by
  unfold S.tick at h ⊢
  split
  · rename_i e
    rw [if_pos e] at h
    unfold S.go at h ⊢
    dsimp only at h ⊢
    rw [Bool.and_eq_true, decide_eq_true_eq] at h
    obtain ⟨h1, h2⟩ := h
    refine ⟨h1, Nat.le_succ _, fun k k0 k3 => ?_⟩
    unfold Btw at h2
    have e0 : ((s.n + 1 : Nat) : Int) - (s.n : Int) = 1 := by omega
    rw [e0]
    rcases (show k = 0 ∨ k = 1 ∨ k = 2 by omega) with rfl | rfl | rfl
    · show 90 * 1 ≤ s.t.a + b.a - s.t.a ∧ s.t.a + b.a - s.t.a ≤ 110 * 1
      omega
    · show 90 * 1 ≤ s.t.b + b.b - s.t.b ∧ s.t.b + b.b - s.t.b ≤ 110 * 1
      omega
    · show 90 * 1 ≤ s.t.c + b.c - s.t.c ∧ s.t.c + b.c - s.t.c ≤ 110 * 1
      omega
  · rename_i e
    rw [if_neg e] at h
    exact ⟨h, Nat.le_refl _, fun k _ _ => by omega⟩
theorem drift {t : T3} {l : List T3} {f : Nat} : ∀ {m : Nat}, f ≤ m → (St t l m).kept = true → (St t l f).n ≤ (St t l m).n ∧ ∀ k : Int, 0 ≤ k → k < 3 →
    90 * (((St t l m).n : Int) - ((St t l f).n : Int)) ≤ (St t l m).now k - (St t l f).now k ∧ (St t l m).now k - (St t l f).now k ≤ 110 * (((St t l m).n : Int) - ((St t l f).n : Int))
  | 0, hf, _ => by
    obtain rfl : f = 0 := by omega
    exact ⟨Nat.le_refl _, fun k _ _ => by omega⟩
  | m + 1, hf, hk => by
    by_cases e : f = m + 1
    · subst e
      exact ⟨Nat.le_refl _, fun k _ _ => by omega⟩
    · cases eb : l[m]? with
      | none =>
        have : St t l (m + 1) = St t l m := by unfold St; rw [List.take_add_one, eb]; simp
        rw [this] at hk ⊢
        exact drift (by omega) hk
      | some b =>
        rw [St_succ eb] at hk ⊢
        obtain ⟨h1, h2, h3⟩ := tick_drift hk
        obtain ⟨g1, g2⟩ := drift (f := f) (m := m) (by omega) h1
        refine ⟨Nat.le_trans g1 h2, fun k k0 k3 => ?_⟩
        have a := h3 k k0 k3
        have b := g2 k k0 k3
        omega
/-- the parts of a tick, while the first x were looked at -/
def kb (k0 : Bool) (b : T3) (x : Int) : Bool := k0 && decide ((0 < x → 90 ≤ b.a ∧ b.a ≤ 110) ∧ (1 < x → 90 ≤ b.b ∧ b.b ≤ 110) ∧ (2 < x → 90 ≤ b.c ∧ b.c ≤ 110))
theorem kb_0 (k0 : Bool) (b : T3) : kb k0 b 0 = k0 := by
  unfold kb
  rw [decide_eq_true (by omega), Bool.and_true]
theorem kb_3 {s : S} {b : T3} (h : s.tickE b = 0) : kb s.kept b 3 = (s.tick b).kept := by
  unfold kb S.tick
  rw [if_pos h]
  unfold S.go Btw
  dsimp only
  congr 1
  exact decide_eq_decide.2 ⟨fun h => ⟨h.1 (by decide), h.2.1 (by decide), h.2.2 (by decide)⟩, fun h => ⟨fun _ => h.1, fun _ => h.2.1, fun _ => h.2.2⟩⟩
theorem kb_no {s : S} {b : T3} (h : s.tickE b ≠ 0) : s.tick b = s := by
  unfold S.tick
  rw [if_neg h]
theorem kb_off {k0 : Bool} {b : T3} {x y : Int} (h : kb k0 b x = false) (hxy : x ≤ y) : kb k0 b y = false := by
  unfold kb at h ⊢
  rw [Bool.and_eq_false_iff] at h ⊢
  rcases h with h | h
  · exact .inl h
  · refine .inr ?_
    rw [decide_eq_false_iff_not] at h ⊢
    intro hc
    exact h ⟨fun _ => hc.1 (by omega), fun _ => hc.2.1 (by omega), fun _ => hc.2.2 (by omega)⟩
theorem kb_step {k0 : Bool} {b : T3} {x v : Int} {k : Nat} (hk : (t3Cells b)[k]? = some (.int .i64 v)) (hx : x = k) (h : kb k0 b x = true) : kb k0 b (x + 1) = decide (90 ≤ v ∧ v ≤ 110) := by
  subst hx
  unfold kb at h ⊢
  rw [Bool.and_eq_true, decide_eq_true_eq] at h
  obtain ⟨h0, h⟩ := h
  rw [h0, Bool.true_and]
  refine decide_eq_decide.2 ?_
  match k with
  | 0 => simp [t3Cells] at hk; subst hk; simp
  | 1 => simp [t3Cells] at hk; subst hk; have := h.1 (by decide); simp [this]
  | 2 => simp [t3Cells] at hk; subst hk; have := h.1 (by decide); have := h.2.1 (by decide); simp [*]
  | k + 3 => simp [t3Cells] at hk
end Go.Proofs.Ytfopjilncfndnaa.Ck
