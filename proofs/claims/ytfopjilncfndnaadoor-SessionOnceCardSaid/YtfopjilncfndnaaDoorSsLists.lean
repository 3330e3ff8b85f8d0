/-
  Lists of bytes told as new memory, each in a block of its own. Conditions: none.
-/
import Derived.Test.YtfopjilncfndnaaDoorSsSend
namespace Go.Proofs.YtfopjilncfndnaaDoor
open Go.RowKit Fix

set_option maxRecDepth 100000 in
theorem elLists : Elem Tryd.prog 35 39 (.slice none 0 0) 24 := ⟨Tryd.underlying35, ⟨_, rfl, by kernel_rfl, by kernel_rfl, by kernel_rfl⟩, rfl, rfl⟩
/-- so many slices, each one's block behind the one ahead of it, from base on, below hi -/
structure Lsz (w : World) (base hi : Nat) (vs : List Value) (es : List (List UInt8)) : Prop where
  len : vs.length = es.length
  low : base ≤ hi
  at_ : ∃ B : Nat → Nat, base ≤ B 0 ∧ (∀ i, B i ≤ B (i + 1)) ∧ B es.length ≤ hi ∧ ∀ i v e, vs[i]? = some v → es[i]? = some e → OwnZ w (B i) v e ∧ ∀ k, v.ownBlock = some k → k < B (i + 1)
theorem Lsz.nil_ {w : World} {base hi : Nat} (h : base ≤ hi) : Lsz w base hi [] [] := ⟨rfl, h, fun _ => base, Nat.le_refl _, fun _ => Nat.le_refl _, h, fun i v e h => by cases h⟩
theorem upto_le {B : Nat → Nat} (h : ∀ i, B i ≤ B (i + 1)) (i : Nat) : ∀ d, B i ≤ B (i + d)
  | 0 => Nat.le_refl _
  | d + 1 => Nat.le_trans (upto_le h i d) (h (i + d))
theorem OwnZ.keep {w w' : World} {base : Nat} {v : Value} {l : List UInt8} (h : OwnZ w base v l) (hk : ∀ g m, base ≤ g → BlkB w g m → BlkB w' g m) : OwnZ w' base v l := by
  rcases h with h | ⟨g, c, m, e, hg, hb, r⟩
  · exact .inl h
  · exact .inr ⟨g, c, m, e, hg, hk g m hg hb, r⟩
theorem Lsz.keep {w w' : World} {base hi hi' : Nat} {vs : List Value} {es : List (List UInt8)} (h : Lsz w base hi vs es) (hh : hi ≤ hi') (hk : ∀ g m, base ≤ g → BlkB w g m → BlkB w' g m) : Lsz w' base hi' vs es := by
  obtain ⟨a, b, B, c, d, e, f⟩ := h
  refine ⟨a, Nat.le_trans b hh, B, c, d, Nat.le_trans e hh, fun i v x hv hx => ?_⟩
  obtain ⟨p, q⟩ := f i v x hv hx
  refine ⟨p.keep fun g m hg hb => hk g m ?_ hb, q⟩
  have := upto_le d 0 i
  rw [Nat.zero_add] at this
  omega
theorem Lsz.push {w : World} {base hi hi' : Nat} {vs : List Value} {es : List (List UInt8)} {v : Value} {x : List UInt8} (h : Lsz w base hi vs es) (ho : OwnZ w hi v x) (hv : ∀ k, v.ownBlock = some k → k < hi') (hh : hi ≤ hi') : Lsz w base hi' (vs ++ [v]) (es ++ [x]) := by
  obtain ⟨a, b, B, c, d, e, f⟩ := h
  refine ⟨by simp [a], Nat.le_trans b hh, fun i => if i < es.length then B i else if i = es.length then hi else hi', ?_, fun i => ?_, ?_, fun i u y hu hy => ?_⟩
  · dsimp only
    by_cases h0 : 0 < es.length
    · rw [if_pos h0]; exact c
    · rw [if_neg h0]; split <;> omega
  · dsimp only
    by_cases h1 : i + 1 < es.length
    · rw [if_pos h1, if_pos (by omega)]; exact d i
    · rw [if_neg h1]
      by_cases h2 : i + 1 = es.length
      · rw [if_pos h2, if_pos (by omega)]
        have := d i
        rw [h2] at this
        omega
      · rw [if_neg h2]
        by_cases h3 : i = es.length
        · rw [if_neg (by omega), if_pos h3]; exact hh
        · rw [if_neg (by omega), if_neg h3]; exact Nat.le_refl _
  · dsimp only
    rw [List.length_append, List.length_singleton, if_neg (by omega), if_neg (by omega)]; exact Nat.le_refl _
  · dsimp only
    by_cases hi2 : i < es.length
    · rw [List.getElem?_append_left (by omega)] at hu
      rw [List.getElem?_append_left hi2] at hy
      obtain ⟨p, q⟩ := f i u y hu hy
      rw [if_pos hi2]
      refine ⟨p, fun k hk => ?_⟩
      have := q k hk
      by_cases h1 : i + 1 < es.length
      · rw [if_pos h1]; exact this
      · rw [if_neg h1, if_pos (by omega)]
        rw [show i + 1 = es.length by omega] at this
        omega
    · rw [List.getElem?_append_right (by omega)] at hy
      have hi3 : i - es.length = 0 := by
        rcases Nat.eq_zero_or_pos (i - es.length) with z | z
        · exact z
        · rw [List.getElem?_eq_none (by simp; omega)] at hy; cases hy
      rw [hi3] at hy
      obtain rfl : x = y := by simpa using hy
      rw [List.getElem?_append_right (by omega), show i - vs.length = 0 by omega] at hu
      obtain rfl : v = u := by simpa using hu
      rw [if_neg hi2, if_pos (by omega), if_neg (by omega), if_neg (by omega)]
      exact ⟨ho, hv⟩
/-- blocks of bytes are none of lists -/
theorem blk_list {w : World} {base k : Nat} {v : Value} {vs : List Value} (h : OwnR 39 w base v vs) (hv : v.ownBlock = some k) {m : List UInt8} (hb : BlkB w k m) : False := by
  rcases h.2 with ⟨rfl, _⟩ | ⟨g, cap, cur, rfl, _, hg, _⟩
  · cases hv
  · cases hv
    unfold BlkB at hb
    rw [hg] at hb
    injection hb with hb
    injection hb with _ hb
    exact absurd hb (by decide)
theorem Lsz.grown {w w' : World} {base hi b2 : Nat} {vs us : List Value} {es : List (List UInt8)} {v : Value} (h : Lsz w base hi vs es) (ho : OwnR 39 w b2 v us) (hg : w.grownBy w' v.ownBlock) : Lsz w' base hi vs es := by
  refine h.keep (Nat.le_refl _) fun g m _ hb => ?_
  refine (hg.block g hb.lt fun e => ?_).trans hb
  exact blk_list ho e.symm hb
end Go.Proofs.YtfopjilncfndnaaDoor
