/-
  A slot through a Save that may stop, and a crash: plain mathematics. Conditions: none.
-/
import Derived.Test.YtcahpodmcklnbaaGreatDoorSlCalm
namespace Go.Proofs.YtcahpodmcklnbaaGreatDoor

namespace Slot
theorem max_topN (a b : List UInt8) : readN a ≤ topN a b ∧ readN b ≤ topN a b := by
  rw [topN_eq]
  split <;> omega
theorem first_eq (a b : List UInt8) : first a b = if readN a < readN b then 0 else if 0 < readN a then 1 else 0 := by
  unfold first
  rw [newestI_eq]
  split
  · rfl
  · split <;> rfl
/-- what a sector may be behind a crash -/
theorem crashed_cases (T : DS) (keeps : List Bool) (tear : Int) (j : Nat) : T.crashed keeps tear j = T.firm j ∨ ∃ l, T.loose j = some l ∧ (T.crashed keeps tear j = l ∨ T.crashed keeps tear j = torn l (T.firm j)) := by
  unfold DS.crashed
  split
  · rename_i h
    have hl : T.isLoose j = true := by unfold DS.stays at h; simp at h; exact h.1
    unfold DS.isLoose at hl
    obtain ⟨l, hl⟩ := Option.isSome_iff_exists.1 hl
    have e : T.last j = l := by unfold DS.last; rw [hl]; rfl
    rw [e]
    refine .inr ⟨l, hl, ?_⟩
    split
    · exact .inr rfl
    · exact .inl rfl
  · exact .inl rfl
/-- a sector, as it was, as it is written, or half of each -/
def Mix (new old x : List UInt8) : Prop := x = old ∨ x = new ∨ x = torn new old
/-- how far a Save came: f is the sector that is written first, g the other one -/
inductive Came (S : DS) (sc : List UInt8) (f g : Nat) (T : DS) : Int → Prop
  | all : T.out = false → T.loose = (fun _ => none) → T.firm f = sc → T.firm g = sc → (S.left = none → T.left = none) → Came S sc f g T 0
  | one (l : Option (List UInt8)) : S.left ≠ none → T.firm = S.firm → T.loose = DS.upd (fun _ => none) f l → (l = none ∨ l = some sc) → Came S sc f g T 10
  | two (l : Option (List UInt8)) : S.left ≠ none → T.firm = DS.upd S.firm f sc → T.loose = DS.upd (fun _ => none) g l → (l = none ∨ l = some sc) → Came S sc f g T 10
theorem upd_none (p : Nat) : DS.upd (fun _ => (none : Option (List UInt8))) p none = fun _ => none := by
  funext j; unfold DS.upd; split <;> rfl
theorem put_two (S : DS) (ho : S.out = false) (hlo : S.loose = fun _ => none) (hn : S.n = 2) (f g : Nat) (hf : f < 2) (hg : g < 2) (hfg : f ≠ g) (sc : List UInt8) (hsc : sc.length = 64) :
    ∃ T e, (if (put1 S (f : Int) sc).2 = 0 then put1 (put1 S (f : Int) sc).1 (g : Int) sc else put1 S (f : Int) sc) = (T, e) ∧ T.n = 2 ∧ Came S sc f g T e := by
  have hlast : S.last = S.firm := by funext j; unfold DS.last; rw [hlo]; rfl
  rcases Classical.em (S.left = none) with hl | hl
  · have e1 := put1_calm S ho hl f (by omega) sc hsc
    rw [e1, if_pos rfl]
    have e2 := put1_calm ⟨S.n, DS.upd S.last f sc, fun _ => none, S.ops + 2, none, false⟩ rfl rfl g (by show g < S.n; omega) sc hsc
    rw [e2]
    refine ⟨_, _, rfl, hn, .all rfl rfl ?_ ?_ fun _ => rfl⟩
    · show DS.upd (DS.last ⟨S.n, DS.upd S.last f sc, fun _ => none, S.ops + 2, none, false⟩) g sc f = sc
      rw [DS.Quiet.last ⟨rfl, rfl, rfl⟩]
      simp [DS.upd, hfg]
    · simp [DS.upd]
  · rcases put1_cases S ho f (by omega) sc hsc with h1 | ⟨T, h1, h2, h3, h4⟩ | ⟨l, h1⟩
    · rw [h1, if_neg (show ¬ ((10 : Int) = 0) by decide)]
      exact ⟨_, _, rfl, hn, .one none hl rfl (by rw [upd_none]; exact hlo) (.inl rfl)⟩
    · rw [h1, if_neg (show ¬ ((10 : Int) = 0) by decide)]
      exact ⟨_, _, rfl, by omega, .one (some sc) hl h3 (by rw [h4, hlo]) (.inr rfl)⟩
    · rw [h1, if_pos rfl]
      have hl2 : DS.last ⟨S.n, DS.upd S.last f sc, fun _ => none, S.ops + 2, l, false⟩ = DS.upd S.firm f sc := by
        funext j
        show DS.upd S.last f sc j = _
        rw [hlast]
      rcases put1_cases ⟨S.n, DS.upd S.last f sc, fun _ => none, S.ops + 2, l, false⟩ rfl g (by show g < S.n; omega) sc hsc with k1 | ⟨T, k1, k2, k3, k4⟩ | ⟨l', k1⟩
      · rw [k1]
        exact ⟨_, _, rfl, hn, .two none hl (by show DS.upd S.last f sc = _; rw [hlast]) (by rw [upd_none]) (.inl rfl)⟩
      · rw [k1]
        exact ⟨_, _, rfl, by rw [k2]; exact hn, .two (some sc) hl (by rw [k3]; show DS.upd S.last f sc = _; rw [hlast]) (by rw [k4]) (.inr rfl)⟩
      · rw [k1]
        refine ⟨_, _, rfl, hn, .all rfl rfl ?_ ?_ fun x => absurd x hl⟩
        · show DS.upd (DS.last ⟨S.n, DS.upd S.last f sc, fun _ => none, S.ops + 2, l, false⟩) g sc f = sc
          rw [hl2]
          simp [DS.upd, hfg]
        · simp [DS.upd]
theorem save_came (S : DS) (ho : S.out = false) (hlo : S.loose = fun _ => none) (hn : S.n = 2) (r : List UInt8) (hr : r.length ≤ 40) (hN : topN (S.firm 0) (S.firm 1) < 1099511627776) :
    ∃ T e, save S 0 r = (T, e) ∧ T.n = 2 ∧ Came S (sect (topN (S.firm 0) (S.firm 1) + 1) r) (first (S.firm 0) (S.firm 1)) (1 - first (S.firm 0) (S.firm 1)) T e := by
  have hsl := sect_length (topN (S.firm 0) (S.firm 1) + 1) r hr
  have hlast : S.last = S.firm := by funext j; unfold DS.last; rw [hlo]; rfl
  have re : ∀ i : Nat, i < 2 → S.readE (i : Int) = 0 := fun i hi => by
    have ht : S.there (i : Int) = true := by rw [S.there_iff]; omega
    simp [DS.readE, ho, ht]
  have rb : ∀ i : Nat, i < 2 → S.readB (i : Int) = S.firm i := fun i hi => by
    rw [DS.readB_yes (re i hi), hlast]; rfl
  have hlook : lookE S 0 = 0 := by unfold lookE; rw [if_pos (show S.readE 0 = 0 from re 0 (by decide))]; exact re 1 (by decide)
  have b0 : S.readB 0 = S.firm 0 := rb 0 (by decide)
  have b1 : S.readB (0 + 1) = S.firm 1 := rb 1 (by decide)
  have hff : first (S.firm 0) (S.firm 1) < 2 := by rw [first_eq]; split <;> (try split) <;> decide
  unfold save
  rw [if_neg (by omega), if_neg (by rw [Decidable.not_not]; exact hlook), b0, b1, if_neg (by omega)]
  have h := put_two S ho hlo hn (first (S.firm 0) (S.firm 1)) (1 - first (S.firm 0) (S.firm 1)) hff (by omega) (by omega) _ hsl
  unfold save2
  simpa using h
/-- the two sectors behind a crash -/
theorem came_crash {S T : DS} {sc : List UInt8} {f g : Nat} {e : Int} (hfg : f ≠ g) (h : Came S sc f g T e) (keeps : List Bool) (tear : Int) :
    (e = 0 ∧ (T.crash keeps tear).firm f = sc ∧ (T.crash keeps tear).firm g = sc) ∨
    (e = 10 ∧ S.left ≠ none ∧ (T.crash keeps tear).firm g = S.firm g ∧ Mix sc (S.firm f) ((T.crash keeps tear).firm f)) ∨
    (e = 10 ∧ S.left ≠ none ∧ (T.crash keeps tear).firm f = sc ∧ Mix sc (S.firm g) ((T.crash keeps tear).firm g)) := by
  have no : ∀ j, T.loose j = none → (T.crash keeps tear).firm j = T.firm j := fun j hj => by
    rcases crashed_cases T keeps tear j with h | ⟨l, hl, _⟩
    · exact h
    · rw [hj] at hl; cases hl
  have mix : ∀ j l, T.loose j = l → (l = none ∨ l = some sc) → Mix sc (T.firm j) ((T.crash keeps tear).firm j) := fun j l hj hl => by
    rcases crashed_cases T keeps tear j with h | ⟨x, hx, h⟩
    · exact .inl h
    · rcases hl with rfl | rfl
      · rw [hj] at hx; cases hx
      · rw [hj] at hx
        obtain rfl := Option.some.inj hx
        rcases h with h | h
        · exact .inr (.inl h)
        · exact .inr (.inr h)
  cases h with
  | all h1 h2 h3 h4 h5 =>
    refine .inl ⟨rfl, ?_, ?_⟩
    · rw [no f (by rw [h2])]; exact h3
    · rw [no g (by rw [h2])]; exact h4
  | one l h1 h2 h3 h4 =>
    refine .inr (.inl ⟨rfl, h1, ?_, ?_⟩)
    · rw [no g (by rw [h3]; simp [DS.upd, hfg.symm]), h2]
    · have := mix f l (by rw [h3]; simp [DS.upd]) h4
      rwa [h2] at this
  | two l h1 h2 h3 h4 =>
    refine .inr (.inr ⟨rfl, h1, ?_, ?_⟩)
    · rw [no f (by rw [h3]; simp [DS.upd, hfg]), h2]; simp [DS.upd]
    · have := mix g l (by rw [h3]; simp [DS.upd]) h4
      rwa [h2, show DS.upd S.firm f sc g = S.firm g by simp [DS.upd, hfg.symm]] at this
/-- what both sectors are between two Saves -/
structure Pair (a b : List UInt8) (N : Nat) (v : List UInt8) : Prop where
  la : a.length = 64
  lb : b.length = 64
  n : topN a b = N
  v : topB a b = v
  ga : again a ≤ N
  gb : again b ≤ N
theorem pair_next {a b : List UInt8} {N : Nat} {v : List UInt8} (h : Pair a b N v) (hN : N < 1099511627776) (r : List UInt8) (hr : r.length ≤ 40) (x : List UInt8) :
    let sc := sect (N + 1) r
    (Mix sc a x → first a b = 0 → Pair x b N v ∨ Pair x b (N + 1) r) ∧ (Mix sc b x → first a b = 1 → Pair a x N v ∨ Pair a x (N + 1) r) ∧
    (Mix sc b x → Pair sc x (N + 1) r) ∧ (Mix sc a x → Pair x sc (N + 1) r) := by
  intro sc
  obtain ⟨m0, m1⟩ := max_topN a b
  rw [h.n] at m0 m1
  obtain ⟨e1, e2, _⟩ := sect_read (N + 1) r (by omega) (by omega) hr
  have hs64 : sc.length = 64 := sect_length (N + 1) r hr
  have hsn : num sc = N + 1 := sect_num (N + 1) r (by omega)
  have hsg : again sc = N + 1 := sect_again (N + 1) r hr (by omega)
  change readN sc = N + 1 at e1
  change readB sc = r at e2
  -- what a torn one is
  have bad : ∀ o : List UInt8, o.length = 64 → again o ≤ N → readN (torn sc o) = 0 ∧ readB (torn sc o) = [] ∧ again (torn sc o) ≤ N ∧ (torn sc o).length = 64 := fun o ho hg => by
    have hb := torn_bad sc o hs64 ho (by omega) (by omega)
    exact ⟨by simp [readN, hb.2], by simp [readB, hb.2], by rw [torn_again sc o hs64]; exact hg, torn_length sc o hs64 ho⟩
  have emp : ∀ o : List UInt8, readN o = 0 → readB o = [] := fun o ho => by
    unfold readB
    by_cases hr : right o = true
    · have := readN_pos.2 hr; omega
    · rw [if_neg hr]
  have hn := h.n
  have hv := h.v
  rw [topN_eq] at hn
  rw [topB_eq] at hv
  have hga := h.ga
  have hgb := h.gb
  refine ⟨fun hx hf => ?_, fun hx hf => ?_, fun hx => ?_, fun hx => ?_⟩
  · rcases hx with rfl | rfl | rfl
    · exact .inl h
    · exact .inr ⟨hs64, h.lb, by rw [topN_eq, e1, if_neg (by omega)], by rw [topB_eq, e1, if_neg (by omega), e2], by omega, by omega⟩
    · obtain ⟨k1, k2, k3, k4⟩ := bad a h.la h.ga
      refine .inl ⟨k4, h.lb, ?_, ?_, k3, hgb⟩
      · rw [topN_eq, k1]
        rw [first_eq] at hf
        by_cases hlt : readN a < readN b
        · rw [if_pos hlt] at hn; rw [if_pos (by omega)]; exact hn
        · rw [if_neg hlt] at hn hf
          by_cases hp : 0 < readN a
          · rw [if_pos hp] at hf; cases hf
          · rw [if_neg (by omega)]; omega
      · rw [topB_eq, k1]
        rw [first_eq] at hf
        by_cases hlt : readN a < readN b
        · rw [if_pos hlt] at hv; rw [if_pos (by omega)]; exact hv
        · rw [if_neg hlt] at hv hf
          by_cases hp : 0 < readN a
          · rw [if_pos hp] at hf; cases hf
          · rw [if_neg (by omega), k2, ← hv, emp a (by omega)]
  · rw [first_eq] at hf
    have hlt : ¬ readN a < readN b := fun x => by rw [if_pos x] at hf; cases hf
    rw [if_neg hlt] at hf hn hv
    have hp : 0 < readN a := by
      rcases Nat.eq_zero_or_pos (readN a) with z | z
      · rw [if_neg (by omega)] at hf; cases hf
      · exact z
    rcases hx with rfl | rfl | rfl
    · exact .inl h
    · exact .inr ⟨h.la, hs64, by rw [topN_eq, e1, if_pos (by omega)], by rw [topB_eq, e1, if_pos (by omega), e2], by omega, by omega⟩
    · obtain ⟨k1, k2, k3, k4⟩ := bad b h.lb h.gb
      exact .inl ⟨h.la, k4, by rw [topN_eq, k1, if_neg (by omega)]; exact hn, by rw [topB_eq, k1, if_neg (by omega)]; exact hv, hga, k3⟩
  · rcases hx with rfl | rfl | rfl
    · exact ⟨hs64, h.lb, by rw [topN_eq, e1, if_neg (by omega)], by rw [topB_eq, e1, if_neg (by omega), e2], by omega, by omega⟩
    · exact ⟨hs64, hs64, by rw [topN_eq, e1, if_neg (by omega)], by rw [topB_eq, e1, if_neg (by omega), e2], by omega, by omega⟩
    · obtain ⟨k1, k2, k3, k4⟩ := bad b h.lb h.gb
      exact ⟨hs64, k4, by rw [topN_eq, e1, k1, if_neg (by omega)], by rw [topB_eq, e1, k1, if_neg (by omega), e2], by omega, by omega⟩
  · rcases hx with rfl | rfl | rfl
    · exact ⟨h.la, hs64, by rw [topN_eq, e1, if_pos (by omega)], by rw [topB_eq, e1, if_pos (by omega), e2], by omega, by omega⟩
    · exact ⟨hs64, hs64, by rw [topN_eq, e1, if_neg (by omega)], by rw [topB_eq, e1, if_neg (by omega), e2], by omega, by omega⟩
    · obtain ⟨k1, k2, k3, k4⟩ := bad a h.la h.ga
      exact ⟨k4, hs64, by rw [topN_eq, e1, k1, if_pos (by omega)], by rw [topB_eq, e1, k1, if_pos (by omega), e2], by omega, by omega⟩
end Slot
end Go.Proofs.YtcahpodmcklnbaaGreatDoor
