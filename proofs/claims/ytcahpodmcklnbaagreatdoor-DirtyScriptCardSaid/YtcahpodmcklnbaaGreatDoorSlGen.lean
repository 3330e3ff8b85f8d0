/-
  A slot anywhere on a disk, through Saves that may stop, and crashes: plain mathematics. Conditions: none.
-/
import Derived.Test.YtcahpodmcklnbaaGreatDoorSlCrashM
import Derived.Test.YtcahpodmcklnbaaGreatDoorSlSave
namespace Go.Proofs.YtcahpodmcklnbaaGreatDoor
open Fix
namespace Slot
theorem ops_save (S : DS) (i : Int) (r : List UInt8) : (Slot.save S i r).1.ops ≤ S.ops + 4 := by
  unfold Slot.save
  split
  · simp
  · split
    · simp
    · split
      · simp
      · unfold Slot.save2
        split
        · have h1 := ops_put1 S (i + ((Slot.first (S.readB i) (S.readB (i + 1)) : Nat) : Int)) (Slot.sect (Slot.topN (S.readB i) (S.readB (i + 1)) + 1) r)
          have h2 := ops_put1 (Slot.put1 S (i + ((Slot.first (S.readB i) (S.readB (i + 1)) : Nat) : Int)) (Slot.sect (Slot.topN (S.readB i) (S.readB (i + 1)) + 1) r)).1 (i + ((1 - Slot.first (S.readB i) (S.readB (i + 1)) : Nat) : Int)) (Slot.sect (Slot.topN (S.readB i) (S.readB (i + 1)) + 1) r)
          omega
        · have h1 := ops_put1 S (i + ((Slot.first (S.readB i) (S.readB (i + 1)) : Nat) : Int)) (Slot.sect (Slot.topN (S.readB i) (S.readB (i + 1)) + 1) r)
          omega
theorem pair_same (N : Nat) (r : List UInt8) (h1 : 1 ≤ N) (h2 : N ≤ 1099511627776) (hr : r.length ≤ 40) : Pair (sect N r) (sect N r) N r := by
  obtain ⟨e1, e2⟩ := topN_same N r h1 h2 hr
  have e3 := sect_again N r hr h2
  exact ⟨sect_length N r hr, sect_length N r hr, e1, e2, by omega, by omega⟩
/-- the two writes of a Save, wherever the slot is: how far they came, and that they leave all else -/
theorem put_twoG (S : DS) (ho : S.out = false) (hlo : S.loose = fun _ => none) (f g : Nat) (hf : f < S.n) (hg : g < S.n) (hfg : f ≠ g) (sc : List UInt8) (hsc : sc.length = 64) :
    ∃ T e, (if (put1 S (f : Int) sc).2 = 0 then put1 (put1 S (f : Int) sc).1 (g : Int) sc else put1 S (f : Int) sc) = (T, e) ∧ T.n = S.n ∧ Came S sc f g T e ∧ ∀ j, j ≠ f → j ≠ g → T.loose j = none ∧ T.firm j = S.firm j := by
  have hlast : S.last = S.firm := by funext j; unfold DS.last; rw [hlo]; rfl
  have up : ∀ (h : Nat → List UInt8) (p : Nat) (x : List UInt8) (j : Nat), j ≠ p → DS.upd h p x j = h j := fun h p x j hj => by simp [DS.upd, hj]
  have un : ∀ (p : Nat) (x : Option (List UInt8)) (j : Nat), j ≠ p → DS.upd (fun _ => none) p x j = none := fun p x j hj => by simp [DS.upd, hj]
  rcases Classical.em (S.left = none) with hl | hl
  · have e1 := put1_calm S ho hl f (by omega) sc hsc
    rw [e1, if_pos rfl]
    have e2 := put1_calm ⟨S.n, DS.upd S.last f sc, fun _ => none, S.ops + 2, none, false⟩ rfl rfl g (by show g < S.n; omega) sc hsc
    rw [e2]
    have eq : DS.last ⟨S.n, DS.upd S.last f sc, fun _ => none, S.ops + 2, none, false⟩ = DS.upd S.firm f sc := by
      rw [DS.Quiet.last ⟨rfl, rfl, rfl⟩]
      show DS.upd S.last f sc = _
      rw [hlast]
    refine ⟨_, _, rfl, rfl, .all rfl rfl ?_ ?_ fun _ => rfl, fun j h1 h2 => ⟨rfl, ?_⟩⟩
    · show DS.upd (DS.last ⟨S.n, DS.upd S.last f sc, fun _ => none, S.ops + 2, none, false⟩) g sc f = sc
      rw [eq]
      simp [DS.upd, hfg]
    · simp [DS.upd]
    · show DS.upd (DS.last ⟨S.n, DS.upd S.last f sc, fun _ => none, S.ops + 2, none, false⟩) g sc j = _
      rw [eq, up _ _ _ _ h2, up _ _ _ _ h1]
  · rcases put1_cases S ho f (by omega) sc hsc with h1 | ⟨T, h1, h2, h3, h4⟩ | ⟨l, h1⟩
    · rw [h1, if_neg (show ¬ ((10 : Int) = 0) by decide)]
      exact ⟨_, _, rfl, rfl, .one none hl rfl (by rw [upd_none]; exact hlo) (.inl rfl), fun j _ _ => ⟨by show S.loose j = none; rw [hlo], rfl⟩⟩
    · rw [h1, if_neg (show ¬ ((10 : Int) = 0) by decide)]
      exact ⟨_, _, rfl, by omega, .one (some sc) hl h3 (by rw [h4, hlo]) (.inr rfl), fun j k1 _ => ⟨by rw [h4, hlo]; exact un _ _ _ k1, by rw [h3]⟩⟩
    · rw [h1, if_pos rfl]
      have hl2 : DS.last ⟨S.n, DS.upd S.last f sc, fun _ => none, S.ops + 2, l, false⟩ = DS.upd S.firm f sc := by
        funext j
        show DS.upd S.last f sc j = _
        rw [hlast]
      rcases put1_cases ⟨S.n, DS.upd S.last f sc, fun _ => none, S.ops + 2, l, false⟩ rfl g (by show g < S.n; omega) sc hsc with k1 | ⟨T, k1, k2, k3, k4⟩ | ⟨l', k1⟩
      · rw [k1]
        exact ⟨_, _, rfl, rfl, .two none hl (by show DS.upd S.last f sc = _; rw [hlast]) (by rw [upd_none]) (.inl rfl), fun j q1 _ => ⟨rfl, by show DS.upd S.last f sc j = _; rw [hlast, up _ _ _ _ q1]⟩⟩
      · rw [k1]
        exact ⟨_, _, rfl, k2, .two (some sc) hl (by rw [k3]; show DS.upd S.last f sc = _; rw [hlast]) (by rw [k4]) (.inr rfl), fun j q1 q2 => ⟨by rw [k4]; exact un _ _ _ q2, by rw [k3]; show DS.upd S.last f sc j = _; rw [hlast, up _ _ _ _ q1]⟩⟩
      · rw [k1]
        refine ⟨_, _, rfl, rfl, .all rfl rfl ?_ ?_ fun x => absurd x hl, fun j q1 q2 => ⟨rfl, ?_⟩⟩
        · show DS.upd (DS.last ⟨S.n, DS.upd S.last f sc, fun _ => none, S.ops + 2, l, false⟩) g sc f = sc
          rw [hl2]
          simp [DS.upd, hfg]
        · simp [DS.upd]
        · show DS.upd (DS.last ⟨S.n, DS.upd S.last f sc, fun _ => none, S.ops + 2, l, false⟩) g sc j = _
          rw [hl2, up _ _ _ _ q2, up _ _ _ _ q1]
theorem first_two (a b : List UInt8) : first a b = 0 ∨ first a b = 1 := by rw [first_eq]; split <;> (try split) <;> simp
/-- a Save that may stop, in the slot at p -/
theorem save_cameG (S : DS) (ho : S.out = false) (hlo : S.loose = fun _ => none) (p : Nat) (hp : p + 1 < S.n) (r : List UInt8) (hr : r.length ≤ 40) (hN : topN (S.firm p) (S.firm (p + 1)) < 1099511627776) :
    ∃ T e, save S (p : Int) r = (T, e) ∧ T.n = S.n ∧ Came S (sect (topN (S.firm p) (S.firm (p + 1)) + 1) r) (p + first (S.firm p) (S.firm (p + 1))) (p + (1 - first (S.firm p) (S.firm (p + 1)))) T e ∧
      ∀ j, j ≠ p → j ≠ p + 1 → T.loose j = none ∧ T.firm j = S.firm j := by
  have hsl := sect_length (topN (S.firm p) (S.firm (p + 1)) + 1) r hr
  have hlast : S.last = S.firm := by funext j; unfold DS.last; rw [hlo]; rfl
  have re : ∀ i : Nat, i < S.n → S.readE (i : Int) = 0 := fun i hi => by
    have ht : S.there (i : Int) = true := by rw [S.there_iff]; omega
    simp [DS.readE, ho, ht]
  have rb : ∀ i : Nat, i < S.n → S.readB (i : Int) = S.firm i := fun i hi => by
    rw [DS.readB_yes (re i hi), hlast]; rfl
  have e1 : ((p : Int) + 1) = ((p + 1 : Nat) : Int) := by omega
  have hlook : lookE S (p : Int) = 0 := by unfold lookE; rw [if_pos (re p (by omega)), e1]; exact re (p + 1) hp
  have b0 : S.readB (p : Int) = S.firm p := rb p (by omega)
  have b1 : S.readB ((p : Int) + 1) = S.firm (p + 1) := by rw [e1]; exact rb (p + 1) hp
  have hff := first_two (S.firm p) (S.firm (p + 1))
  unfold save
  rw [if_neg (by omega), if_neg (by rw [Decidable.not_not]; exact hlook), b0, b1, if_neg (by omega)]
  obtain ⟨T, e, h1, h2, h3, h4⟩ := put_twoG S ho hlo (p + first (S.firm p) (S.firm (p + 1))) (p + (1 - first (S.firm p) (S.firm (p + 1)))) (by omega) (by omega) (by omega) _ hsl
  refine ⟨T, e, ?_, h2, h3, fun j q1 q2 => h4 j (by omega) (by omega)⟩
  unfold save2
  simpa using h1
/-- a Save without a fuse, in the slot at p -/
theorem round_calmG {S : DS} (q : S.Quiet) {p : Nat} (hn : p + 1 < S.n) {N : Nat} {v : List UInt8} (P : Pair (S.firm p) (S.firm (p + 1)) N v) (hN : N < 1099511627776) (r : List UInt8) (hr : r.length ≤ 40) :
    ∃ T, save S (p : Int) r = (T, 0) ∧ T.Quiet ∧ T.n = S.n ∧ T.ops ≤ S.ops + 4 ∧ Pair (T.firm p) (T.firm (p + 1)) (N + 1) r ∧ ∀ j, j ≠ p → j ≠ p + 1 → T.firm j = S.firm j := by
  obtain ⟨T, h1, h2, h3, h4, h5⟩ := save_quiet q (i := p) hn r hr (by rw [P.n]; omega)
  refine ⟨T, h1, h2, by omega, by omega, ?_, fun j q1 q2 => by rw [h5 j, if_neg (by omega)]⟩
  rw [h5 p, h5 (p + 1), if_pos (by omega), if_pos (by omega), P.n]
  exact pair_same (N + 1) r (by omega) (by omega) hr
/-- what is not loose stays -/
theorem crash_none (T : DS) (keeps : List Bool) (tear : Int) (j : Nat) (h : T.loose j = none) : (T.crash keeps tear).firm j = T.firm j := by
  rcases crashed_cases T keeps tear j with h' | ⟨l, hl, _⟩
  · exact h'
  · rw [h] at hl; cases hl
/-- a Save that may stop, and the crash behind it, in the slot at p -/
theorem round_stopG {S : DS} (q : S.Quiet) {p : Nat} (hn : p + 1 < S.n) {N : Nat} {v : List UInt8} (P : Pair (S.firm p) (S.firm (p + 1)) N v) (hN : N < 1099511627776) (r : List UInt8) (hr : r.length ≤ 40) (k : Nat) (keeps : List Bool) (tear : Int) :
    ∃ T e, save { S with left := some k } (p : Int) r = (T, e) ∧ T.ops ≤ S.ops + 4 ∧ (T.crash keeps tear).Quiet ∧ (T.crash keeps tear).n = S.n ∧ (T.crash keeps tear).ops ≤ S.ops + 4 ∧
      (e = 0 ∧ Pair ((T.crash keeps tear).firm p) ((T.crash keeps tear).firm (p + 1)) (N + 1) r ∨ e = 10 ∧ (Pair ((T.crash keeps tear).firm p) ((T.crash keeps tear).firm (p + 1)) (N + 1) r ∨ Pair ((T.crash keeps tear).firm p) ((T.crash keeps tear).firm (p + 1)) N v)) ∧
      ∀ j, j ≠ p → j ≠ p + 1 → (T.crash keeps tear).firm j = S.firm j := by
  obtain ⟨T, e, h1, h2, h3, h4⟩ := save_cameG { S with left := some k } q.out q.loose p hn r hr (by show topN (S.firm p) (S.firm (p + 1)) < _; rw [P.n]; omega)
  have hops : T.ops ≤ S.ops + 4 := by
    have := ops_save { S with left := some k } (p : Int) r
    rw [h1] at this
    exact this
  refine ⟨T, e, h1, hops, ⟨rfl, rfl, rfl⟩, h2, hops, ?_, fun j q1 q2 => by rw [crash_none T keeps tear j (h4 j q1 q2).1]; exact (h4 j q1 q2).2⟩
  have h3 : Came { S with left := some k } (sect (topN (S.firm p) (S.firm (p + 1)) + 1) r) (p + first (S.firm p) (S.firm (p + 1))) (p + (1 - first (S.firm p) (S.firm (p + 1)))) T e := h3
  rw [P.n] at h3
  have hff := first_two (S.firm p) (S.firm (p + 1))
  have hc := came_crash (by omega) h3 keeps tear
  obtain ⟨p1, p2, p3, p4⟩ := pair_next P (by omega) r hr ((T.crash keeps tear).firm (p + first (S.firm p) (S.firm (p + 1))))
  obtain ⟨_, _, p5, p6⟩ := pair_next P (by omega) r hr ((T.crash keeps tear).firm (p + (1 - first (S.firm p) (S.firm (p + 1)))))
  rcases hff with hf | hf
  · rw [hf] at hc p1 p2 p3 p4 p5 p6
    simp only [Nat.sub_zero, Nat.add_zero] at hc p1 p2 p3 p4 p5 p6
    rcases hc with ⟨rfl, c1, c2⟩ | ⟨rfl, _, c1, c2⟩ | ⟨rfl, _, c1, c2⟩
    · refine .inl ⟨rfl, ?_⟩
      rw [c1, c2]
      exact pair_same (N + 1) r (by omega) (by omega) hr
    · refine .inr ⟨rfl, ?_⟩
      have c1 : (T.crash keeps tear).firm (p + 1) = S.firm (p + 1) := c1
      rw [c1]
      exact (p1 c2 trivial).symm
    · refine .inr ⟨rfl, .inl ?_⟩
      have := p5 c2
      rw [c1]
      exact this
  · rw [hf] at hc p1 p2 p3 p4 p5 p6
    simp only [Nat.sub_self, Nat.add_zero] at hc p1 p2 p3 p4 p5 p6
    rcases hc with ⟨rfl, c1, c2⟩ | ⟨rfl, _, c1, c2⟩ | ⟨rfl, _, c1, c2⟩
    · refine .inl ⟨rfl, ?_⟩
      rw [c1, c2]
      exact pair_same (N + 1) r (by omega) (by omega) hr
    · refine .inr ⟨rfl, ?_⟩
      have c1 : (T.crash keeps tear).firm p = S.firm p := c1
      rw [c1]
      exact (p2 c2 trivial).symm
    · refine .inr ⟨rfl, .inl ?_⟩
      have := p6 c2
      rw [c1]
      exact this
theorem load_pairG {S : DS} (q : S.Quiet) {p : Nat} (hn : p + 1 < S.n) {N : Nat} {v : List UInt8} (P : Pair (S.firm p) (S.firm (p + 1)) N v) : (1 ≤ N → loadE S (p : Int) = 0 ∧ loadB S (p : Int) = v) ∧ (N = 0 → loadE S (p : Int) = 6 ∨ loadE S (p : Int) = 11) := by
  refine ⟨fun h => ?_, fun h => ?_⟩
  · have := load_quiet q (i := p) hn (by rw [P.n]; exact h)
    exact ⟨this.1, this.2.trans P.v⟩
  · exact load_none_ q (i := p) hn (by rw [P.n]; exact h)
/-- a disk on which nothing was done since its fuse was set -/
theorem idle_crash {S : DS} (q : S.Quiet) (k : Nat) (keeps : List Bool) (tear : Int) : (({ S with left := some k } : DS).crash keeps tear).Quiet ∧ (({ S with left := some k } : DS).crash keeps tear).n = S.n ∧ (({ S with left := some k } : DS).crash keeps tear).ops = S.ops ∧ ∀ j, (({ S with left := some k } : DS).crash keeps tear).firm j = S.firm j :=
  ⟨⟨rfl, rfl, rfl⟩, rfl, rfl, fun j => crash_none _ keeps tear j (by show S.loose j = none; rw [q.loose])⟩
theorem pair_nought : Pair (List.replicate 64 0) (List.replicate 64 0) 0 [] := ⟨by decide, by decide, by decide +kernel, by decide +kernel, by decide +kernel, by decide +kernel⟩
end Slot
end Go.Proofs.YtcahpodmcklnbaaGreatDoor
