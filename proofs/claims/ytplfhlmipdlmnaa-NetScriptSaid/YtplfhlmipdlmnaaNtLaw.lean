/-
  A net beside other blocks: each of its calls by one contract, whatever it is given. Conditions: how many were lost is a number far from the greatest; the bytes can be read.
-/
import Derived.Test.YtplfhlmipdlmnaaNtCall3
import Derived.Test.YtplfhlmipdlmnaaBa
namespace Go.Proofs.Ytplfhlmipdlmnaa
open Go.RowKit Nt

abbrev zPk : Pk := ⟨0, 0, []⟩
namespace Nt
def N.at_ (s : N) (i : Int) : Pk := if s.has i = true then s.way.getD i.toNat zPk else zPk
def N.lookE (s : N) (i : Int) : Int := if s.has i = true then 0 else 5
def N.del (s : N) (i : Int) : N := if s.has i = true then s.take i.toNat else s
def N.dropI (s : N) (i : Int) : N := if s.has i = true then s.drop i.toNat else s
def N.doubleE (s : N) (i : Int) : Int := if s.has i = true then (if s.way.length = 4096 then 8 else 0) else 5
def N.double (s : N) (i : Int) : N := if s.doubleE i = 0 then s.push (s.at_ i) else s
def N.cutE (i j : Int) : Int := if link i j = true then 0 else 2
end Nt
theorem has_get {s : N} {i : Int} (h : s.has i = true) : ∃ k : Nat, i = (k : Int) ∧ k < s.way.length ∧ s.way[k]? = some (s.at_ i) := by
  obtain ⟨h1, h2⟩ := has_iff.1 h
  obtain ⟨k, rfl⟩ := Int.eq_ofNat_of_zero_le h1
  have hk : k < s.way.length := by omega
  refine ⟨k, rfl, hk, ?_⟩
  unfold N.at_
  rw [if_pos h, Int.toNat_natCast, List.getD_eq_getElem?_getD, List.getElem?_eq_getElem hk]
  rfl
/-- blocks that are none of Wy, behind w0 -/
abbrev Xw (w0 : World) (Wy : Nat → Prop) : Nat → Prop := fun j => ¬ Wy j ∧ w0.heap.size ≤ j
/-- a net made behind w0; the blocks Wy are none of it -/
def Nz (w0 w : World) (b : Nat) (s : N) (Wy : Nat → Prop) : Prop :=
  ∃ F, NetAt w b F s ∧ w0.heap.size ≤ b ∧ (∀ j, F j → w0.heap.size ≤ j) ∧ Below w0.heap.size w0 w ∧ ∀ j, Wy j → j < w.heap.size ∧ j ≠ b ∧ ¬ F j
section
variable {w0 w w' : World} {b : Nat} {s s' : N} {Wy : Nat → Prop}
theorem Nz.fr (h : Nz w0 w b s Wy) : Below w0.heap.size w0 w := by obtain ⟨_, _, _, _, h, _⟩ := h; exact h
theorem Nz.blt (h : Nz w0 w b s Wy) : w0.heap.size ≤ b ∧ b < w.heap.size := by obtain ⟨_, h, h2, _⟩ := h; exact ⟨h2, h.blt⟩
theorem Nz.ok (h : Nz w0 w b s Wy) : s.Ok := by obtain ⟨_, h, _⟩ := h; exact h.ok
theorem Nz.wlt (h : Nz w0 w b s Wy) : ∀ j, Wy j → j < w.heap.size := by obtain ⟨_, _, _, _, _, h⟩ := h; exact fun j hj => (h j hj).1
theorem Nz.step (h : Nz w0 w b s Wy) (B : Below w.heap.size w w') : Nz w0 w' b s Wy := by
  obtain ⟨F, h1, h2, h3, h4, h5⟩ := h
  exact ⟨F, h1.step B, h2, h3, step_trans h4 B, fun j hj => by obtain ⟨x1, x2⟩ := h5 j hj; exact ⟨Nat.lt_of_lt_of_le x1 B.size, x2⟩⟩
/-- blocks beside the net are written, and others take their place: some of the old, and new ones -/
theorem Nz.wrote (h : Nz w0 w b s Wy) (fr : Frame Wy w w') (hw : ∀ j, Wy j → w0.heap.size ≤ j) {Wz : Nat → Prop} (hz : ∀ j, Wz j → Wy j ∨ (w.heap.size ≤ j ∧ j < w'.heap.size)) : Nz w0 w' b s Wz := by
  obtain ⟨F, h1, h2, h3, h4, h5⟩ := h
  refine ⟨F, h1.frame fr (fun e => (h5 _ e).2.1 rfl) (fun j hj e => (h5 _ e).2.2 hj), h2, h3, h4.trans (fr.below (B := w0.heap.size) hw h4.size), fun j hj => ?_⟩
  rcases hz j hj with x | x
  · obtain ⟨y1, y2⟩ := h5 j x; exact ⟨Nat.lt_of_lt_of_le y1 fr.size, y2⟩
  · have := h1.blt
    exact ⟨x.2, by omega, fun e => by have := h1.lt j e; omega⟩
theorem Nz.less (h : Nz w0 w b s Wy) {Wz : Nat → Prop} (hz : ∀ j, Wz j → Wy j) : Nz w0 w b s Wz := by
  obtain ⟨F, h1, h2, h3, h4, h5⟩ := h
  exact ⟨F, h1, h2, h3, h4, fun j hj => h5 j (hz j hj)⟩
/-- what a call leaves -/
def Went (w0 w : World) (b : Nat) (s : N) (Wy : Nat → Prop) (w' : World) : Prop := Nz w0 w' b s Wy ∧ Frame (Xw w0 Wy) w w'
theorem went_of {F : Nat → Prop} (h2 : w0.heap.size ≤ b) (h3 : ∀ j, F j → w0.heap.size ≤ j) (h4 : Below w0.heap.size w0 w) (h5 : ∀ j, Wy j → j < w.heap.size ∧ j ≠ b ∧ ¬ F j) (T : Turned w b F s' w') : Went w0 w b s' Wy w' := by
  obtain ⟨F', k1, k2, k3⟩ := T
  have hs := h4.size
  refine ⟨⟨F', k1, h2, fun j hj => (k2 j hj).elim (h3 j) fun x => by omega, h4.trans (k3.below (B := w0.heap.size) (fun j e => e.elim (fun e => by omega) (h3 j)) hs), fun j hj => ?_⟩, k3.mono fun j e => ?_⟩
  · obtain ⟨x1, x2, x3⟩ := h5 j hj
    exact ⟨Nat.lt_of_lt_of_le x1 k3.size, x2, fun e => (k2 j e).elim x3 fun y => by omega⟩
  · rcases e with e | e
    · exact ⟨fun y => (h5 j y).2.1 e, by omega⟩
    · exact ⟨fun y => (h5 j y).2.2 e, h3 j e⟩
theorem went_step (h : Nz w0 w b s Wy) (B : Below w.heap.size w w') : Went w0 w b s Wy w' := ⟨h.step B, Frame.of_below B⟩
theorem nz_count (h : Nz w0 w b s Wy) (n : Nat) (hn : s.way.length = n) : Calls Try.prog 12 #[.pointer (some ⟨b, 0, none⟩)] w fun e w' => e = .returned (.int .i64 (n : Int)) ∧ w = w' := by
  obtain ⟨F, h1, _⟩ := h
  rw [← hn]
  exact count_any h1
theorem nz_lost (h : Nz w0 w b s Wy) (n : Nat) (hn : s.lost = n) : Calls Try.prog 13 #[.pointer (some ⟨b, 0, none⟩)] w fun e w' => e = .returned (.int .i64 (n : Int)) ∧ w = w' := by
  obtain ⟨F, h1, _⟩ := h
  rw [← hn]
  exact lost_any h1
theorem nz_isCut (h : Nz w0 w b s Wy) (i j : Int) (x : Bool) (hx : N.isCut s i j = x) : Calls Try.prog 14 #[.pointer (some ⟨b, 0, none⟩), .int .i64 i, .int .i64 j] w fun e w' => e = .returned (.bool x) ∧ w = w' := by
  obtain ⟨F, h1, _⟩ := h
  rw [← hx]
  exact isCut_any h1 i j
theorem nz_send (h : Nz w0 w b s Wy) (i j : Int) (P : Option Addr) (l : List UInt8) (n c : Nat) (hn : l.length = n) (hr : BytesAt w w.heap.size P l) (hl : s.lost ≤ 4611686018427387904) (E : Int) (s2 : N) (hE : N.sendE i j n = E) (hs : s.send i j l = s2) :
    Calls Try.prog 17 #[.pointer (some ⟨b, 0, none⟩), .int .i64 i, .int .i64 j, .slice P n c] w fun e w' => e = .returned (.int .i64 E) ∧ Went w0 w b s2 Wy w' := by
  obtain ⟨F, h1, h2, h3, h4, h5⟩ := h
  have W : ∀ {s3 : N} {w' : World}, s3 = s2 → Turned w b F s3 w' → Went w0 w b s2 Wy w' := fun e T => by subst e; exact went_of h2 h3 h4 h5 T
  subst hn
  unfold N.sendE at hE
  cases hlk : link i j with
  | false =>
    rw [hlk, if_pos rfl] at hE
    subst hE
    refine (ntSend_arg h1 i j P l.length c hlk).mono fun e w' ⟨k1, k2⟩ => ⟨k1, ?_⟩
    subst k2
    refine W ?_ (Below.turned h1 (Below.refl _ _))
    rw [← hs]
    unfold N.send N.sendE
    rw [hlk, if_pos rfl, if_pos (by decide)]
  | true =>
    rw [hlk, if_neg (by decide)] at hE
    by_cases h512 : 512 < l.length
    · rw [if_pos h512] at hE
      subst hE
      refine (ntSend_long h1 i j P l.length c hlk h512).mono fun e w' ⟨k1, k2⟩ => ⟨k1, ?_⟩
      subst k2
      refine W ?_ (Below.turned h1 (Below.refl _ _))
      rw [← hs]
      have h3 : N.sendE i j l.length = 3 := by unfold N.sendE; rw [hlk, if_neg (by decide), if_pos h512]
      unfold N.send
      rw [if_pos (by rw [h3]; decide)]
    · rw [if_neg h512] at hE
      subst hE
      obtain ⟨a1, a2, a3, a4, _⟩ := link_iff.1 hlk
      obtain ⟨p, rfl⟩ := Int.eq_ofNat_of_zero_le a1
      obtain ⟨q, rfl⟩ := Int.eq_ofNat_of_zero_le a3
      have hz : ¬ N.sendE (p : Int) (q : Int) l.length ≠ 0 := by unfold N.sendE; rw [hlk, if_neg (by decide), if_neg h512]; decide
      by_cases hd : s.down (3 * p + q) = true ∨ s.way.length = 4096
      · refine (ntSend_lost h1 p q P l.length c hlk (by omega) hd hl).mono fun e w' ⟨k1, k2⟩ => ⟨k1, W ?_ k2.turned⟩
        rw [← hs]
        unfold N.send
        rw [if_neg hz, show at_ (p : Int) (q : Int) = 3 * p + q from rfl, if_pos hd]
      · simp only [not_or, Bool.not_eq_true] at hd
        refine (ntSend_ok h1 p q P l l.length c rfl hlk (by omega) hd.1 hd.2 hr).mono fun e w' ⟨k1, k2⟩ => ⟨k1, W ?_ k2⟩
        rw [← hs]
        unfold N.send
        rw [if_neg hz, show at_ (p : Int) (q : Int) = 3 * p + q from rfl, if_neg (by simp only [not_or, Bool.not_eq_true]; exact hd)]
        rfl
theorem nz_cut (h : Nz w0 w b s Wy) (i j : Int) (is : Bool) (E : Int) (s2 : N) (hE : N.cutE i j = E) (hs : s.cut i j is = s2) :
    Calls Try.prog 23 #[.pointer (some ⟨b, 0, none⟩), .int .i64 i, .int .i64 j, .bool is] w fun e w' => e = .returned (.int .i64 E) ∧ Went w0 w b s2 Wy w' := by
  obtain ⟨F, h1, h2, h3, h4, h5⟩ := h
  have W : ∀ {s3 : N} {w' : World}, s3 = s2 → Turned w b F s3 w' → Went w0 w b s2 Wy w' := fun e T => by subst e; exact went_of h2 h3 h4 h5 T
  unfold N.cutE at hE
  cases hlk : link i j with
  | false =>
    rw [hlk, if_neg (by decide)] at hE
    subst hE
    refine (cut_no h1 i j is hlk).mono fun e w' ⟨k1, k2⟩ => ⟨k1, ?_⟩
    subst k2
    refine W ?_ (Below.turned h1 (Below.refl _ _))
    rw [← hs]
    unfold N.cut
    rw [hlk, if_neg (by decide)]
  | true =>
    rw [hlk, if_pos rfl] at hE
    subst hE
    obtain ⟨a1, a2, a3, a4, _⟩ := link_iff.1 hlk
    obtain ⟨p, rfl⟩ := Int.eq_ofNat_of_zero_le a1
    obtain ⟨q, rfl⟩ := Int.eq_ofNat_of_zero_le a3
    exact (cut_yes h1 p q is hlk).mono fun e w' ⟨k1, k2⟩ => ⟨k1, W hs k2.turned⟩
theorem nz_clear (h : Nz w0 w b s Wy) (hl : s.lost ≤ 4611686018427387904) (s2 : N) (hs : s.clear = s2) : Calls Try.prog 24 #[.pointer (some ⟨b, 0, none⟩)] w fun e w' => e = .returned (.int .i64 0) ∧ Went w0 w b s2 Wy w' := by
  obtain ⟨F, h1, h2, h3, h4, h5⟩ := h
  subst hs
  exact (clear_any h1 hl).mono fun e w' ⟨k1, k2⟩ => ⟨k1, went_of h2 h3 h4 h5 k2.turned⟩
theorem nz_drop (h : Nz w0 w b s Wy) (i : Int) (hl : s.lost ≤ 4611686018427387904) (E : Int) (s2 : N) (hE : s.lookE i = E) (hs : s.dropI i = s2) :
    Calls Try.prog 22 #[.pointer (some ⟨b, 0, none⟩), .int .i64 i] w fun e w' => e = .returned (.int .i64 E) ∧ Went w0 w b s2 Wy w' := by
  obtain ⟨F, h1, h2, h3, h4, h5⟩ := h
  unfold N.lookE at hE
  unfold N.dropI at hs
  cases hh : s.has i with
  | false =>
    rw [hh, if_neg (by decide)] at hE hs
    subst hE; subst hs
    refine (drop_no h1 i hh).mono fun e w' ⟨k1, k2⟩ => ⟨k1, ?_⟩
    subst k2
    exact went_of h2 h3 h4 h5 (Below.turned h1 (Below.refl _ _))
  | true =>
    rw [hh, if_pos rfl] at hE hs
    subst hE; subst hs
    obtain ⟨k, rfl, hk, _⟩ := has_get hh
    exact (drop_yes h1 k hk hl).mono fun e w' ⟨k1, k2⟩ => ⟨k1, went_of h2 h3 h4 h5 k2.turned⟩
theorem nz_double (h : Nz w0 w b s Wy) (i : Int) (E : Int) (s2 : N) (hE : s.doubleE i = E) (hs : s.double i = s2) :
    Calls Try.prog 18 #[.pointer (some ⟨b, 0, none⟩), .int .i64 i] w fun e w' => e = .returned (.int .i64 E) ∧ Went w0 w b s2 Wy w' := by
  obtain ⟨F, h1, h2, h3, h4, h5⟩ := h
  unfold N.double at hs
  rw [hE] at hs
  unfold N.doubleE at hE
  cases hh : s.has i with
  | false =>
    rw [hh, if_neg (by decide)] at hE
    subst hE
    rw [if_neg (by decide)] at hs
    subst hs
    exact (double_no h1 i hh).mono fun e w' ⟨k1, k2⟩ => ⟨k1, went_of h2 h3 h4 h5 k2⟩
  | true =>
    rw [hh, if_pos rfl] at hE
    obtain ⟨k, rfl, hk, hp⟩ := has_get hh
    by_cases hf : s.way.length = 4096
    · rw [if_pos hf] at hE
      subst hE
      rw [if_neg (by decide)] at hs
      subst hs
      exact (double_full h1 k _ hp hf).mono fun e w' ⟨k1, k2⟩ => ⟨k1, went_of h2 h3 h4 h5 k2⟩
    · rw [if_neg hf] at hE
      subst hE
      rw [if_pos rfl] at hs
      subst hs
      exact (double_yes h1 k _ hp hf).mono fun e w' ⟨k1, k2⟩ => ⟨k1, went_of h2 h3 h4 h5 k2⟩
/-- what Look and Deliver tell: a datagram with bytes of its own -/
def Tells (w0 w : World) (b : Nat) (s : N) (Wy : Nat → Prop) (p : Pk) (E : Int) (e : Ending) (w' : World) : Prop :=
  ∃ A c, e = .returned (.tuple #[.agg (pkCells ⟨p, A, c⟩).toArray, .int .i64 E]) ∧ c ≤ 9223372036854775807 ∧ Whole w' w.heap.size A c p.b ∧ Nz w0 w' b s (fun j => Wy j ∨ BlockOf A c j) ∧ Frame (Xw w0 Wy) w w'
theorem tells_of {F : Nat → Prop} (h1 : NetAt w b F s) (h2 : w0.heap.size ≤ b) (h3 : ∀ j, F j → w0.heap.size ≤ j) (h4 : Below w0.heap.size w0 w) (h5 : ∀ j, Wy j → j < w.heap.size ∧ j ≠ b ∧ ¬ F j) (p : Pk) (E : Int) {e : Ending} (A : Option Addr) (c : Nat)
    (he : e = .returned (.tuple #[.agg (pkCells ⟨p, A, c⟩).toArray, .int .i64 E])) (hc : c ≤ 9223372036854775807) (o : Whole w' w.heap.size A c p.b) (T : TakePost w b F s' w') : Tells w0 w b s' Wy p E e w' := by
  have hb := h1.blt
  obtain ⟨⟨F', k1, k2, k3, k4, k5⟩, fr⟩ := went_of (Wy := Wy) h2 h3 h4 h5 T.turned
  refine ⟨A, c, he, hc, o, ⟨F, T.1, h2, h3, k4, fun j hj => ?_⟩, fr⟩
  rcases hj with hj | hj
  · obtain ⟨x1, x2, x3⟩ := h5 j hj
    exact ⟨Nat.lt_of_lt_of_le x1 T.2.size, x2, x3⟩
  · have y1 := o.lt j hj
    have y2 : w.heap.size ≤ j := by
      obtain ⟨h0, ad, e1, hk⟩ := hj
      obtain ⟨g, t, E, e2, hg, _, _⟩ := o.resolve_left fun x => h0 x.2
      rw [e1] at e2; cases e2
      rw [← hk]; exact hg
    exact ⟨y1, by omega, fun x => by have := h1.lt j x; omega⟩
theorem nz_look (h : Nz w0 w b s Wy) (i : Int) (p : Pk) (E : Int) (hp : s.at_ i = p) (hE : s.lookE i = E) : Calls Try.prog 19 #[.pointer (some ⟨b, 0, none⟩), .int .i64 i] w (Tells w0 w b s Wy p E) := by
  obtain ⟨F, h1, h2, h3, h4, h5⟩ := h
  subst hp
  unfold N.lookE at hE
  cases hh : s.has i with
  | false =>
    rw [hh, if_neg (by decide)] at hE
    subst hE
    have e0 : s.at_ i = zPk := by unfold N.at_; rw [hh, if_neg (by decide)]
    rw [e0]
    exact (look_no h1 i hh).mono fun e w' ⟨k1, k2⟩ => tells_of h1 h2 h3 h4 h5 _ _ none 0 k1 (by decide) Whole.none_ ⟨h1.step k2, Frame.of_below k2⟩
  | true =>
    rw [hh, if_pos rfl] at hE
    subst hE
    obtain ⟨k, rfl, hk, hp⟩ := has_get hh
    exact (look_yes h1 k _ hp).mono fun e w' ⟨A, c, k1, k2, k3, k4⟩ => tells_of h1 h2 h3 h4 h5 _ _ A c k1 k2 k3 ⟨h1.step k4, Frame.of_below k4⟩
theorem nz_deliver (h : Nz w0 w b s Wy) (i : Int) (p : Pk) (E : Int) (s2 : N) (hp : s.at_ i = p) (hE : s.lookE i = E) (hs : s.del i = s2) : Calls Try.prog 20 #[.pointer (some ⟨b, 0, none⟩), .int .i64 i] w (Tells w0 w b s2 Wy p E) := by
  obtain ⟨F, h1, h2, h3, h4, h5⟩ := h
  subst hp
  unfold N.lookE at hE
  unfold N.del at hs
  cases hh : s.has i with
  | false =>
    rw [hh, if_neg (by decide)] at hE hs
    subst hE; subst hs
    have e0 : s.at_ i = zPk := by unfold N.at_; rw [hh, if_neg (by decide)]
    rw [e0]
    exact (deliver_no h1 i hh).mono fun e w' ⟨k1, k2⟩ => tells_of h1 h2 h3 h4 h5 _ _ none 0 k1 (by decide) Whole.none_ ⟨h1.step k2, Frame.of_below k2⟩
  | true =>
    rw [hh, if_pos rfl] at hE hs
    subst hE; subst hs
    obtain ⟨k, rfl, hk, hp⟩ := has_get hh
    exact (deliver_yes h1 k _ hp).mono fun e w' ⟨A, c, k1, k2, k3, k4⟩ => tells_of h1 h2 h3 h4 h5 _ _ A c k1 k2 k3 k4
end
/-- a new net -/
theorem nz_new (w0 w : World) (B : Below w0.heap.size w0 w) : Calls Try.prog 9 #[] w fun e w' => e = .returned (.pointer (some ⟨w.heap.size, 0, none⟩)) ∧ Nz w0 w' w.heap.size Nt.new (fun _ => False) ∧ Below w.heap.size w w' :=
  (ntNew_any w).mono fun _ _ ⟨k1, k2, k3⟩ => ⟨k1, ⟨_, k2, B.size, fun _ e => e.elim, step_trans B k3, fun _ e => e.elim⟩, k3⟩
/-- one byte in a new block -/
theorem one_byte (w : World) (x : UInt8) : BytesAt (w.alloc (.cells #[.int .u8 (x.toNat : Int)] 5)) (w.alloc (.cells #[.int .u8 (x.toNat : Int)] 5)).heap.size (some ⟨w.heap.size, 0, none⟩) [x] := (bytes_new w [x] 5 (0, 0)).more (by simp)
set_option maxRecDepth 100000 in
/-- is: that datagram -/
theorem is_yes (p q : Int) (A : Option Addr) (c : Nat) (x : UInt8) (X : Int) (hX : X = (x.toNat : Int)) (w : World) (hr : BytesAt w w.heap.size A [x]) :
    Calls Try.prog 25 #[.agg #[.int .i64 p, .int .i64 q, .slice A 1 c], .int .i64 0, .int .i64 p, .int .i64 q, .int .u8 X] w fun e w' => e = .returned (.bool true) ∧ Below w.heap.size w w' := by
  subst hX
  obtain ⟨o1, ho1⟩ : ∃ o, o = Obj.cells #[.int .i64 p, .int .i64 q, .slice A 1 c] 48 := ⟨_, rfl⟩
  have zs : Calls Try.prog 44 #[.slice A 1 c, .slice (some ⟨w.heap.size + 1, 0, none⟩) 1 1] ((w.alloc (.cells #[.int .i64 p, .int .i64 q, .slice A 1 c] 48)).alloc (.cells #[.int .u8 (x.toNat : Int)] 5)) fun e w' => e = .returned (.bool true) ∧ ((w.alloc (.cells #[.int .i64 p, .int .i64 q, .slice A 1 c] 48)).alloc (.cells #[.int .u8 (x.toNat : Int)] 5)) = w' := by
    have h2 := one_byte (w.alloc (.cells #[.int .i64 p, .int .i64 q, .slice A 1 c] 48)) x
    rw [show (w.alloc (.cells #[.int .i64 p, .int .i64 q, .slice A 1 c] 48)).heap.size = w.heap.size + 1 by simp] at h2
    exact same_yes A [x] 1 c rfl _ [x] 1 1 rfl _ ((hr.stepA _).stepA _) h2 rfl
  have ep : (p == p) = true := beq_self_eq_true _
  have eq : (q == q) = true := beq_self_eq_true _
  clear ho1
  go_enter Try.func25, Try.ntmps25
  go_wp2_with (go_at_call 44; refine zs.mono ?_; (rintro e w2 ⟨rfl, rfl⟩))
  go_ret
  exact ⟨rfl, step_alloc (step_alloc (Below.refl _ w) _) _⟩
end Go.Proofs.Ytplfhlmipdlmnaa
