/-
  A slot on a disk, change by change: plain mathematics. Conditions: none.
-/
import Derived.Test.YtcahpodmcklnbaaGreatDoorSlMath
namespace Go.Proofs.YtcahpodmcklnbaaGreatDoor

namespace DS
/-- nothing is loose, no fuse, not out -/
structure Quiet (S : DS) : Prop where
  out : S.out = false
  left : S.left = none
  loose : S.loose = fun _ => none
theorem Quiet.last {S : DS} (h : S.Quiet) : S.last = S.firm := by
  funext j
  unfold DS.last
  rw [h.loose]
  rfl
theorem Quiet.readE {S : DS} (h : S.Quiet) {i : Nat} (hi : i < S.n) : S.readE (i : Int) = 0 := by
  have ht : S.there (i : Int) = true := by rw [S.there_iff]; omega
  simp [DS.readE, h.out, ht]
theorem Quiet.readB {S : DS} (h : S.Quiet) {i : Nat} (hi : i < S.n) : S.readB (i : Int) = S.firm i := by
  rw [DS.readB_yes (h.readE hi), h.last]
  rfl
theorem fresh_quiet (n : Nat) : (DS.fresh n).Quiet := ⟨rfl, rfl, rfl⟩
theorem last_upd (S : DS) (p : Nat) (b : List UInt8) (l : Option Nat) (n k : Nat) (o : Bool) : DS.last ⟨n, S.firm, upd S.loose p (some b), k, l, o⟩ = upd S.last p b := by
  funext j
  unfold DS.last upd
  by_cases h : j = p
  · simp [h]
  · simp [h]
end DS
namespace Slot
/-- what becomes of a sector that is written and flushed -/
theorem put1_cases (S : DS) (ho : S.out = false) (p : Nat) (hp : p < S.n) (b : List UInt8) (hb : b.length = 64) :
    (put1 S (p : Int) b = ({ S with out := true }, 10)) ∨
    (∃ T, put1 S (p : Int) b = (T, 10) ∧ T.n = S.n ∧ T.firm = S.firm ∧ T.loose = DS.upd S.loose p (some b)) ∨
    (∃ l, put1 S (p : Int) b = (⟨S.n, DS.upd S.last p b, fun _ => none, S.ops + 2, l, false⟩, 0)) := by
  have ht : S.there (p : Int) = true := by rw [S.there_iff]; omega
  unfold put1 DS.write DS.flush DS.chg
  rcases hl : S.left with _ | _ | _ | k
  · refine .inr (.inr ⟨none, ?_⟩)
    simp [ho, ht, hb, DS.settle, DS.last_upd]
  · refine .inl ?_
    simp [ho, ht, hb]
  · refine .inr (.inl ⟨⟨S.n, S.firm, DS.upd S.loose p (some b), S.ops + 1, some 0, true⟩, ?_, rfl, rfl, rfl⟩)
    simp [ho, ht, hb]
  · refine .inr (.inr ⟨some k, ?_⟩)
    simp [ho, ht, hb, DS.settle, DS.last_upd]
theorem put1_calm (S : DS) (ho : S.out = false) (hl : S.left = none) (p : Nat) (hp : p < S.n) (b : List UInt8) (hb : b.length = 64) :
    put1 S (p : Int) b = (⟨S.n, DS.upd S.last p b, fun _ => none, S.ops + 2, none, false⟩, 0) := by
  have ht : S.there (p : Int) = true := by rw [S.there_iff]; omega
  unfold put1 DS.write DS.flush DS.chg
  simp [ho, ht, hb, DS.settle, hl, DS.last_upd]
theorem look_quiet {S : DS} (h : S.Quiet) {i : Nat} (hi : i + 1 < S.n) : lookE S (i : Int) = 0 ∧ S.readB (i : Int) = S.firm i ∧ S.readB ((i : Int) + 1) = S.firm (i + 1) := by
  have e : ((i : Int) + 1) = ((i + 1 : Nat) : Int) := by omega
  refine ⟨?_, h.readB (by omega), by rw [e]; exact h.readB hi⟩
  unfold lookE
  rw [if_pos (h.readE (by omega)), e]
  exact h.readE hi
theorem load_quiet {S : DS} (h : S.Quiet) {i : Nat} (hi : i + 1 < S.n) (hp : 0 < topN (S.firm i) (S.firm (i + 1))) : loadE S (i : Int) = 0 ∧ loadB S (i : Int) = topB (S.firm i) (S.firm (i + 1)) := by
  obtain ⟨h1, h2, h3⟩ := look_quiet h hi
  have hn : noneB (S.firm i) (S.firm (i + 1)) = false := by
    rw [← Bool.not_eq_true]
    intro x
    unfold noneB at x
    simp at x
    rw [x.1, x.2] at hp
    exact absurd hp (by decide)
  have hw : ¬ newestI (S.firm i) (S.firm (i + 1)) < 0 := by
    rw [newestI_eq]
    rw [topN_eq] at hp
    by_cases hlt : readN (S.firm i) < readN (S.firm (i + 1))
    · rw [if_pos hlt]; decide
    · rw [if_neg hlt] at hp ⊢
      rw [if_pos hp]; decide
  have e : loadE S (i : Int) = 0 := by
    unfold loadE
    rw [if_pos h1, h2, h3, hn, if_neg (by decide), if_neg hw]
  refine ⟨e, ?_⟩
  unfold loadB
  rw [if_pos e, h2, h3]
theorem load_none_ {S : DS} (h : S.Quiet) {i : Nat} (hi : i + 1 < S.n) (hp : topN (S.firm i) (S.firm (i + 1)) = 0) : loadE S (i : Int) = 6 ∨ loadE S (i : Int) = 11 := by
  obtain ⟨h1, h2, h3⟩ := look_quiet h hi
  unfold loadE
  rw [if_pos h1, h2, h3]
  split
  · exact .inl rfl
  · rw [newestI_eq]
    rw [topN_eq] at hp
    by_cases hlt : readN (S.firm i) < readN (S.firm (i + 1))
    · rw [if_pos hlt] at hp; omega
    · rw [if_neg hlt] at hp ⊢
      rw [hp]
      exact .inr (by decide)
/-- a Save without a fuse -/
theorem save_quiet {S : DS} (h : S.Quiet) {i : Nat} (hi : i + 1 < S.n) (r : List UInt8) (hr : r.length ≤ 40) (hN : topN (S.firm i) (S.firm (i + 1)) < 1099511627776) :
    ∃ T, save S (i : Int) r = (T, 0) ∧ T.Quiet ∧ T.n = S.n ∧ T.ops = S.ops + 4 ∧ ∀ j, T.firm j = if j = i ∨ j = i + 1 then sect (topN (S.firm i) (S.firm (i + 1)) + 1) r else S.firm j := by
  obtain ⟨h1, h2, h3⟩ := look_quiet h hi
  have hsl := sect_length (topN (S.firm i) (S.firm (i + 1)) + 1) r hr
  unfold save
  rw [if_neg (by omega), if_neg (by rw [Decidable.not_not]; exact h1), h2, h3, if_neg (by omega)]
  generalize sect (topN (S.firm i) (S.firm (i + 1)) + 1) r = sc at hsl ⊢
  have go : ∀ p q : Nat, p < S.n → q < S.n → (∀ j : Nat, (j = i ∨ j = i + 1) ↔ (j = p ∨ j = q)) → ∃ T, (if (put1 S (p : Int) sc).2 = 0 then put1 (put1 S (p : Int) sc).1 (q : Int) sc else put1 S (p : Int) sc) = (T, 0) ∧ T.Quiet ∧ T.n = S.n ∧ T.ops = S.ops + 4 ∧ ∀ j, T.firm j = if j = i ∨ j = i + 1 then sc else S.firm j := by
    intro p q hp hq hpq
    have e1 := put1_calm S h.out h.left p hp sc hsl
    rw [e1]
    have e2 := put1_calm ⟨S.n, DS.upd S.last p sc, fun _ => none, S.ops + 2, none, false⟩ rfl rfl q hq sc hsl
    rw [if_pos rfl, e2]
    refine ⟨_, rfl, ⟨rfl, rfl, rfl⟩, rfl, rfl, fun j => ?_⟩
    simp only [hpq j]
    show DS.upd (DS.last ⟨S.n, DS.upd S.last p sc, fun _ => none, S.ops + 2, none, false⟩) q sc j = _
    rw [DS.Quiet.last ⟨rfl, rfl, rfl⟩, h.last]
    unfold DS.upd
    by_cases a : j = q
    · rw [if_pos a, if_pos (.inr a)]
    · rw [if_neg a]
      show (if j = p then sc else S.firm j) = _
      by_cases b : j = p
      · rw [if_pos b, if_pos (.inl b)]
      · rw [if_neg b, if_neg (fun x => x.elim b a)]
  unfold save2 first
  split
  · have := go (i + 1) i hi (by omega) (fun j => ⟨Or.symm, Or.symm⟩)
    simpa using this
  · have := go i (i + 1) (by omega) hi (fun j => Iff.rfl)
    simpa using this
theorem topN_same (n : Nat) (r : List UInt8) (h1 : 1 ≤ n) (h2 : n ≤ 1099511627776) (h : r.length ≤ 40) : topN (sect n r) (sect n r) = n ∧ topB (sect n r) (sect n r) = r := by
  obtain ⟨e1, e2, _⟩ := sect_read n r h1 h2 h
  rw [topN_eq, topB_eq, e1, e2, if_neg (by omega), if_neg (by omega)]
  exact ⟨rfl, rfl⟩
end Slot
end Go.Proofs.YtcahpodmcklnbaaGreatDoor
