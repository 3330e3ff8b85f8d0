/-
  A map of dirty blocks in a slot, by the document, through calls that may stop, and crashes: plain mathematics. Conditions: none.
-/
import Derived.Test.YtcahpodmcklnbaaGreatDoorSlGen
import Derived.Test.YtcahpodmcklnbaaGreatDoorBitsSets
namespace Go.Proofs.YtcahpodmcklnbaaGreatDoor
open Fix
namespace Dy
/-- a set's record -/
def enc (s : Nat) : List UInt8 := dig s 8
theorem enc_length (s : Nat) : (enc s).length = 8 := dig_length s 8
theorem enc_le (s : Nat) : (enc s).length ≤ 40 := by rw [enc_length]; decide
theorem le_enc {s : Nat} (h : s < 2 ^ 64) : le (enc s) = s := le_dig_self s 8 h
/-- what Open tells: the error, the set -/
def openE (S : DS) (p : Int) : Int := if Slot.loadE S p = 0 then (if (Slot.loadB S p).length = 8 then 0 else 11) else Slot.loadE S p
def openN (S : DS) (p : Int) : Nat := if openE S p = 0 then le (Slot.loadB S p) else 0
/-- what becomes of the disk when a map's set is to be n, what is told, and the set behind that -/
def put (S : DS) (p : Int) (s n : Nat) : DS × Int := if n = s then (S, 0) else Slot.save S p (enc n)
def putS (S : DS) (p : Int) (s n : Nat) : Nat := if (put S p s n).2 = 0 then n else s
def cut (s v : Nat) : Nat := s &&& (Bits.full - v)
/-- a block that there is -/
def isB (n : Int) : Bool := decide (0 ≤ n ∧ n < 64)
theorem isB_iff (n : Int) : isB n = true ↔ 0 ≤ n ∧ n < 64 := by unfold isB; rw [decide_eq_true_iff]
/-- the set that a call wants: kind 0 Mark(n), 1 Merge(v), else Clear(v) -/
def want (k n : Int) (v s : Nat) : Nat := if k = 0 then (if isB n = true then s ||| 2 ^ n.toNat else s) else if k = 1 then s ||| v else cut s v
def bad (k n : Int) : Bool := decide (k = 0) && !isB n
def step (S : DS) (p : Int) (k n : Int) (v s : Nat) : DS × Int := if bad k n = true then (S, 5) else put S p s (want k n v s)
def stepS (S : DS) (p : Int) (k n : Int) (v s : Nat) : Nat := if (step S p k n v s).2 = 0 then want k n v s else s
theorem openN_lt (S : DS) (p : Int) : openN S p < 2 ^ 64 := by
  unfold openN
  split
  · rename_i h
    unfold openE at h
    split at h
    · split at h
      · rename_i h2
        have := le_lt (Slot.loadB S p)
        rw [h2] at this
        exact this
      · cases h
    · rename_i h2; exact absurd h h2
  · decide
theorem cut_le (s v : Nat) : cut s v ≤ s := Nat.and_le_left
theorem cut_lt {s : Nat} (v : Nat) (h : s < 2 ^ 64) : cut s v < 2 ^ 64 := Nat.lt_of_le_of_lt (cut_le s v) h
theorem mark_lt {s : Nat} {n : Int} (h : s < 2 ^ 64) (hn : isB n = true) : s ||| 2 ^ n.toNat < 2 ^ 64 := by
  rw [isB_iff] at hn
  exact Nat.or_lt_two_pow h (Bits.two_pow_lt _ (by omega))
theorem want_lt (k n : Int) {v s : Nat} (hv : v < 2 ^ 64) (hs : s < 2 ^ 64) : want k n v s < 2 ^ 64 := by
  unfold want
  split
  · split
    · exact mark_lt hs (by assumption)
    · exact hs
  · split
    · exact Nat.or_lt_two_pow hs hv
    · exact cut_lt v hs
theorem bad_want {k n : Int} (h : bad k n = true) (v s : Nat) : want k n v s = s := by
  unfold bad at h
  simp at h
  unfold want
  rw [if_pos h.1, if_neg (by rw [h.2]; decide)]
theorem putS_lt (S : DS) (p : Int) {s n : Nat} (hs : s < 2 ^ 64) (hn : n < 2 ^ 64) : putS S p s n < 2 ^ 64 := by unfold putS; split <;> assumption
theorem ops_put (S : DS) (p : Int) (s n : Nat) : (put S p s n).1.ops ≤ S.ops + 4 := by
  unfold put
  split
  · exact Nat.le_add_right _ _
  · exact Slot.ops_save S p _
theorem ops_step (S : DS) (p k n : Int) (v s : Nat) : (step S p k n v s).1.ops ≤ S.ops + 4 := by
  unfold step
  split
  · exact Nat.le_add_right _ _
  · exact ops_put S p _ _
theorem step_merge (S : DS) (p n : Int) (v s : Nat) : step S p 1 n v s = put S p s (s ||| v) := by
  unfold step bad want
  simp
theorem step_clear (S : DS) (p n : Int) (v s : Nat) : step S p 2 n v s = put S p s (cut s v) := by
  unfold step bad want
  simp
theorem stepS_merge (S : DS) (p n : Int) (v s : Nat) : stepS S p 1 n v s = putS S p s (s ||| v) := by
  unfold stepS putS
  rw [step_merge]
  rfl
theorem stepS_clear (S : DS) (p n : Int) (v s : Nat) : stepS S p 2 n v s = putS S p s (cut s v) := by
  unfold stepS putS
  rw [step_clear]
  rfl
theorem step_mark (S : DS) (p : Int) {n : Int} (v s : Nat) (h : isB n = true) : step S p 0 n v s = put S p s (s ||| 2 ^ n.toNat) := by
  unfold step bad want
  simp [h]
theorem stepS_mark (S : DS) (p : Int) {n : Int} (v s : Nat) (h : isB n = true) : stepS S p 0 n v s = putS S p s (s ||| 2 ^ n.toNat) := by
  unfold stepS putS
  rw [step_mark S p v s h]
  unfold want
  simp [h]
theorem step_bad (S : DS) (p : Int) {n : Int} (v s : Nat) (h : ¬ isB n = true) : step S p 0 n v s = (S, 5) := by
  unfold step bad
  simp [h]
theorem stepS_bad (S : DS) (p : Int) {n : Int} (v s : Nat) (h : ¬ isB n = true) : stepS S p 0 n v s = s := by
  unfold stepS
  rw [step_bad S p v s h]
  rfl
/-- the slot at 0 of two sectors holds the set s, saved N times -/
structure Inv (S : DS) (N s : Nat) : Prop where
  q : S.Quiet
  n : S.n = 2
  pair : Slot.Pair (S.firm 0) (S.firm 1) N (enc s)
  lt : s < 2 ^ 64
  pos : 1 ≤ N
theorem Inv.opens {S : DS} {N s : Nat} (h : Inv S N s) : openE S 0 = 0 ∧ openN S 0 = s := by
  obtain ⟨h1, h2⟩ := (Slot.load_pairG h.q (p := 0) (by rw [h.n]; decide) h.pair).1 h.pos
  have h1 : Slot.loadE S 0 = 0 := h1
  have h2 : Slot.loadB S 0 = enc s := h2
  have e : openE S 0 = 0 := by unfold openE; rw [if_pos h1, h2, if_pos (enc_length s)]
  refine ⟨e, ?_⟩
  unfold openN
  rw [if_pos e, h2, le_enc h.lt]
theorem Inv.idle {S : DS} {N s : Nat} (h : Inv S N s) (k : Nat) (keeps : List Bool) (tear : Int) : Inv (({ S with left := some k } : DS).crash keeps tear) N s ∧ (({ S with left := some k } : DS).crash keeps tear).ops = S.ops := by
  obtain ⟨h1, h2, h3, h4⟩ := Slot.idle_crash h.q k keeps tear
  exact ⟨⟨h1, by rw [h2, h.n], by rw [h4 0, h4 1]; exact h.pair, h.lt, h.pos⟩, h3⟩
/-- a call without a fuse -/
theorem Inv.calm {S : DS} {N s : Nat} (h : Inv S N s) (hN : N < 1000) (k n : Int) {v : Nat} (hv : v < 2 ^ 64) :
    ∃ T e N', step S 0 k n v s = (T, e) ∧ N' ≤ N + 1 ∧ T.ops ≤ S.ops + 4 ∧
      (e = 0 ∧ Inv T N' (want k n v s) ∧ (want k n v s = s → T.ops = S.ops) ∨ e = 5 ∧ bad k n = true ∧ T = S ∧ Inv T N' s) := by
  unfold step put
  by_cases hb : bad k n = true
  · rw [if_pos hb]
    exact ⟨_, _, N, rfl, by omega, by omega, .inr ⟨rfl, hb, rfl, h⟩⟩
  · rw [if_neg hb]
    by_cases hw : want k n v s = s
    · rw [if_pos hw]
      exact ⟨_, _, N, rfl, by omega, by omega, .inl ⟨rfl, by rw [hw]; exact h, fun _ => rfl⟩⟩
    · rw [if_neg hw]
      obtain ⟨T, h1, h2, h3, h4, h5, _⟩ := Slot.round_calmG h.q (p := 0) (by rw [h.n]; decide) h.pair (by omega) (enc (want k n v s)) (enc_le _)
      exact ⟨T, 0, N + 1, h1, Nat.le_refl _, h4, .inl ⟨rfl, ⟨h2, by rw [h3, h.n], h5, want_lt k n hv h.lt, by omega⟩, fun x => absurd x hw⟩⟩
/-- a call of a block that there is, or of a set, without a fuse -/
theorem Inv.goes {S : DS} {N s : Nat} (h : Inv S N s) (hN : N < 1000) (k n : Int) {v : Nat} (hv : v < 2 ^ 64) (hb : bad k n = false) :
    ∃ T N', step S 0 k n v s = (T, 0) ∧ stepS S 0 k n v s = want k n v s ∧ N' ≤ N + 1 ∧ T.ops ≤ S.ops + 4 ∧ Inv T N' (want k n v s) ∧ (want k n v s = s → T.ops = S.ops) := by
  obtain ⟨T, e, N', h1, h2, h3, h4⟩ := h.calm hN k n hv
  rcases h4 with ⟨rfl, h4, h5⟩ | ⟨_, h4, _⟩
  · exact ⟨T, N', h1, by unfold stepS; rw [h1, if_pos rfl], h2, h3, h4, h5⟩
  · rw [hb] at h4; cases h4
/-- a call that may stop, and the crash behind it -/
theorem Inv.stop {S : DS} {N s : Nat} (h : Inv S N s) (hN : N < 1000) (k n : Int) {v : Nat} (hv : v < 2 ^ 64) (j : Nat) (keeps : List Bool) (tear : Int) :
    ∃ T e N', step { S with left := some j } 0 k n v s = (T, e) ∧ N' ≤ N + 1 ∧ T.ops ≤ S.ops + 4 ∧ (T.crash keeps tear).ops ≤ S.ops + 4 ∧ (want k n v s = s → T.ops = S.ops) ∧
      (e = 0 ∧ Inv (T.crash keeps tear) N' (want k n v s) ∨ e = 5 ∧ bad k n = true ∧ Inv (T.crash keeps tear) N' s ∨
       e = 10 ∧ want k n v s ≠ s ∧ (Inv (T.crash keeps tear) N' (want k n v s) ∨ Inv (T.crash keeps tear) N' s)) := by
  obtain ⟨i1, i2⟩ := h.idle j keeps tear
  unfold step put
  by_cases hb : bad k n = true
  · rw [if_pos hb]
    exact ⟨_, _, N, rfl, by omega, Nat.le_add_right _ _, by omega, fun _ => rfl, .inr (.inl ⟨rfl, hb, i1⟩)⟩
  · rw [if_neg hb]
    by_cases hw : want k n v s = s
    · rw [if_pos hw]
      exact ⟨_, _, N, rfl, by omega, Nat.le_add_right _ _, by omega, fun _ => rfl, .inl ⟨rfl, by rw [hw]; exact i1⟩⟩
    · rw [if_neg hw]
      obtain ⟨T, e, h1, h2, h3, h4, h5, h6, _⟩ := Slot.round_stopG h.q (p := 0) (by rw [h.n]; decide) h.pair (by omega) (enc (want k n v s)) (enc_le _) j keeps tear
      have hn : (T.crash keeps tear).n = 2 := by rw [h4, h.n]
      have hl := want_lt k n hv h.lt
      rcases h6 with ⟨rfl, p⟩ | ⟨rfl, p | p⟩
      · exact ⟨T, _, N + 1, h1, Nat.le_refl _, h2, h5, fun x => absurd x hw, .inl ⟨rfl, h3, hn, p, hl, by omega⟩⟩
      · exact ⟨T, _, N + 1, h1, Nat.le_refl _, h2, h5, fun x => absurd x hw, .inr (.inr ⟨rfl, hw, .inl ⟨h3, hn, p, hl, by omega⟩⟩)⟩
      · exact ⟨T, _, N, h1, by omega, h2, h5, fun x => absurd x hw, .inr (.inr ⟨rfl, hw, .inr ⟨h3, hn, p, h.lt, h.pos⟩⟩)⟩
theorem start : ∃ T, Slot.save (DS.fresh 2) 0 (enc 0) = (T, 0) ∧ Inv T 1 0 ∧ T.ops ≤ 4 := by
  obtain ⟨T, h1, h2, h3, h4, h5, _⟩ := Slot.round_calmG (S := DS.fresh 2) ⟨rfl, rfl, rfl⟩ (p := 0) (by decide) (N := 0) (v := []) Slot.pair_nought (by decide) (enc 0) (enc_le 0)
  exact ⟨T, h1, ⟨h2, h3, h5, by decide, by decide⟩, h4⟩
theorem fresh_open : openE (DS.fresh 2) 0 = 6 := by decide +kernel
/-- each block of a is one of b -/
def Sub (a b : Nat) : Prop := ∀ i, i < 64 → a.testBit i = true → b.testBit i = true
theorem Sub.refl (a : Nat) : Sub a a := fun _ _ h => h
theorem Sub.trans {a b c : Nat} (h : Sub a b) (h2 : Sub b c) : Sub a c := fun i hi x => h2 i hi (h i hi x)
theorem Sub.or_left (a b : Nat) : Sub a (a ||| b) := fun i _ h => by rw [Nat.testBit_or, h]; rfl
theorem Sub.or_right (a b : Nat) : Sub b (a ||| b) := fun i _ h => by rw [Nat.testBit_or, h, Bool.or_true]
theorem Sub.or_or {a b : Nat} (h : Sub a b) (c : Nat) : Sub (a ||| c) (b ||| c) := fun i hi x => by
  rw [Nat.testBit_or] at x ⊢
  cases hc : c.testBit i with
  | true => rw [Bool.or_true]
  | false => rw [hc, Bool.or_false] at x; rw [h i hi x]; rfl
theorem Sub.cut_self (a : Nat) {v : Nat} (hv : v < 2 ^ 64) : Sub (cut a v) a := fun i hi x => by
  unfold cut at x
  rw [Bits.andNot_bit _ _ _ hv hi] at x
  simp at x
  exact x.1
theorem Sub.cut_cut {a b v : Nat} (h : Sub a b) (hv : v < 2 ^ 64) : Sub (cut a v) (cut b v) := fun i hi x => by
  unfold cut at x ⊢
  rw [Bits.andNot_bit _ _ _ hv hi] at x ⊢
  simp at x ⊢
  exact ⟨h i hi x.1, x.2⟩
theorem Sub.and {a b : Nat} (h : Sub a b) (ha : a < 2 ^ 64) : b &&& a = a := by
  refine Bits.eq_of_bits (Nat.and_lt_two_pow _ ha) ha fun i hi => ?_
  rw [Nat.testBit_and]
  cases hx : a.testBit i with
  | true => rw [h i hi hx]; rfl
  | false => rw [Bool.and_false]
theorem Sub.none_ {a b : Nat} (h : Sub a b) (ha : a < 2 ^ 64) (hb : b < 2 ^ 64) : cut a b = 0 := by
  refine Bits.eq_of_bits (cut_lt b ha) (by decide) fun i hi => ?_
  unfold cut
  rw [Bits.andNot_bit _ _ _ hb hi, Nat.zero_testBit]
  cases hx : a.testBit i with
  | true => rw [h i hi hx]; rfl
  | false => rfl
/-- what a call wants of a greater set is no less, and of the least only what it wants of a set -/
theorem Sub.want_want {a b v : Nat} (h : Sub a b) (hv : v < 2 ^ 64) (k n : Int) : Sub (want k n v a) (want k n v b) := by
  unfold want
  split
  · split
    · exact h.or_or _
    · exact h
  · split
    · exact h.or_or _
    · exact h.cut_cut hv
theorem Sub.up {s v : Nat} {k : Int} (hk : k ≠ 2) (h0 : k = 0 ∨ k = 1 ∨ k = 2) (n : Int) : Sub s (want k n v s) := by
  unfold want
  rcases h0 with rfl | rfl | rfl
  · rw [if_pos rfl]
    split
    · exact Sub.or_left _ _
    · exact Sub.refl _
  · rw [if_neg (by decide), if_pos rfl]
    exact Sub.or_left _ _
  · exact absurd rfl hk
end Dy
end Go.Proofs.YtcahpodmcklnbaaGreatDoor
