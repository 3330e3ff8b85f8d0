/-
  Clocks beside a law's own memory; awake; the known ones. Conditions: none.
-/
import Derived.Test.YtfopjilncfndnaaCkTick
namespace Go.Proofs.Ytfopjilncfndnaa
open Go.RowKit Ck

/-- clocks at b, made since w0 -/
structure Cz (w0 w : World) (b : Nat) (s : S) : Prop where
  at_ : CkAt w b s
  ge : w0.heap.size ≤ b
  fr : Below w0.heap.size w0 w
section
variable {w0 w w' : World} {b : Nat} {s : S}
theorem Cz.frame {X : Nat → Prop} (h : Cz w0 w b s) (hX : Frame X w w') (hb : ¬ X b) (hk : ∀ k, X k → w0.heap.size ≤ k) : Cz w0 w' b s := ⟨h.at_.frame hX hb, h.ge, h.fr.trans (hX.below hk h.fr.size)⟩
theorem Cz.step (h : Cz w0 w b s) (hb : Below w.heap.size w w') : Cz w0 w' b s := ⟨h.at_.step hb, h.ge, step_trans h.fr hb⟩
theorem Cz.blt (h : Cz w0 w b s) : b < w.heap.size := h.at_.blk.lt
/-- a tick's post, with the answer and the clocks behind it -/
def TickTo (w0 w : World) (b : Nat) (E : Int) (s2 : S) (e : Ending) (w' : World) : Prop := e = .returned (.int .i64 E) ∧ Cz w0 w' b s2 ∧ Frame (OneB b) w w'
theorem cz_tick (h : Cz w0 w b s) (t : T3) (hn : s.n ≤ 4611686018427387904) (E : Int) (s2 : S) (hE : s.tickE t = E) (h2 : s.tick t = s2) : Calls Try.prog 11 #[.pointer (some ⟨b, 0, none⟩), .agg (t3Cells t).toArray] w fun e w' => e = .returned (.int .i64 E) ∧ Cz w0 w' b s2 ∧ Frame (OneB b) w w' := by
  subst hE; subst h2
  exact (ckTick_any h.at_ t hn).mono fun e w' ⟨k1, k2, k3⟩ => ⟨k1, ⟨k2, h.ge, h.fr.trans (k3.below (fun k e => e ▸ h.ge) h.fr.size)⟩, k3⟩
theorem cz_now (h : Cz w0 w b s) (k r : Int) (hr : s.now k = r) : Calls Try.prog 15 #[.pointer (some ⟨b, 0, none⟩), .int .i64 k] w fun e w' => e = .returned (.int .i64 r) ∧ w = w' := by
  subst hr
  exact ckNow_any h.at_ k
theorem cz_kept (h : Cz w0 w b s) (r : Bool) (hr : s.kept = r) : Calls Try.prog 14 #[.pointer (some ⟨b, 0, none⟩)] w fun e w' => e = .returned (.bool r) ∧ w = w' := by
  subst hr
  exact ckKept_any h.at_
theorem cz_ticks (h : Cz w0 w b s) (r : Int) (hr : (s.n : Int) = r) : Calls Try.prog 13 #[.pointer (some ⟨b, 0, none⟩)] w fun e w' => e = .returned (.int .i64 r) ∧ w = w' := by
  subst hr
  exact ckTicks_any h.at_
/-- new clocks at g, made since w0 -/
def CzNew (w0 : World) (t : T3) (w : World) (e : Ending) (w' : World) : Prop := ∃ g, e = .returned (.tuple #[.pointer (some ⟨g, 0, none⟩), .int .i64 0]) ∧ Cz w0 w' g (new t) ∧ w.heap.size ≤ g ∧ Below w.heap.size w w'
theorem cz_new (t : T3) (he : Btw 0 M t) (w0 w : World) (B : Below w0.heap.size w0 w) : Calls Try.prog 8 #[.agg (t3Cells t).toArray] w (CzNew w0 t w) :=
  (ckNew_yes t he w).mono fun _ _ ⟨g, k1, k2, k3, k4⟩ => ⟨g, k1, ⟨k2, Nat.le_trans B.size k3, step_trans B k4⟩, k3, k4⟩
end
def awS : S := (new ⟨0, 5, 9⟩).tick ⟨90, 100, 110⟩
set_option maxRecDepth 100000 in
set_option maxHeartbeats 1000000 in
theorem ckAwake_any (w : World) : Calls Try.prog 10 #[] w fun e w' => e = .returned (.bool true) ∧ Below w.heap.size w w' := by
  have z0 : Calls Try.prog 8 #[.agg #[.int .i64 0, .int .i64 5, .int .i64 9]] w (CzNew w ⟨0, 5, 9⟩ w) := cz_new ⟨0, 5, 9⟩ (by decide) w w (Below.refl _ w)
  have zt : ∀ w1 g, Cz w w1 g (new ⟨0, 5, 9⟩) → Calls Try.prog 11 #[.pointer (some ⟨g, 0, none⟩), .agg #[.int .i64 90, .int .i64 100, .int .i64 110]] w1 fun e w' => e = .returned (.int .i64 0) ∧ Cz w w' g awS ∧ Frame (OneB g) w1 w' := fun w1 g h => cz_tick h ⟨90, 100, 110⟩ (by decide) 0 awS (by decide) rfl
  go_enter Try.func10, Try.ntmps10
  go_wp2_with (first
    | (go_at_call 8; (with_reducible refine z0.mono ?_); (rintro e w1 ⟨g, rfl, H1, _, _⟩; have z1 := zt w1 g H1; clear H1))
    | (go_at_call 11; (with_reducible refine z1.mono ?_); (rintro e w2 ⟨rfl, H2, _⟩; have n0 := cz_now H2 0 90 (by decide); have n1 := cz_now H2 1 105 (by decide); have n2 := cz_now H2 2 119 (by decide); have zk := cz_kept H2 true (by decide); have H2 := Lib.hid H2.fr))
    | (go_at_call 15; with_reducible first
      | (refine n0.mono ?_; (rintro e w3 ⟨rfl, rfl⟩))
      | (refine n1.mono ?_; (rintro e w4 ⟨rfl, rfl⟩))
      | (refine n2.mono ?_; (rintro e w5 ⟨rfl, rfl⟩)))
    | (go_at_call 14; (with_reducible refine zk.mono ?_); (rintro e w6 ⟨rfl, rfl⟩)))
  go_ret
  exact ⟨rfl, H2.out⟩
def kn2 : S := awS.tick ⟨89, 100, 100⟩
def kn3 : S := (new ⟨1099511627776, 0, 0⟩)
set_option maxRecDepth 100000 in
set_option maxHeartbeats 2000000 in
theorem ckKnown_any (w : World) : Calls Try.prog 7 #[] w fun e w' => e = .returned (.bool true) ∧ Below w.heap.size w w' := by
  have z0 : Calls Try.prog 8 #[.agg #[.int .i64 0, .int .i64 5, .int .i64 9]] w (CzNew w ⟨0, 5, 9⟩ w) := cz_new ⟨0, 5, 9⟩ (by decide) w w (Below.refl _ w)
  have zt1 : ∀ w1 g, Cz w w1 g (new ⟨0, 5, 9⟩) → Calls Try.prog 11 #[.pointer (some ⟨g, 0, none⟩), .agg #[.int .i64 90, .int .i64 100, .int .i64 110]] w1 fun e w' => e = .returned (.int .i64 0) ∧ Cz w w' g awS ∧ Frame (OneB g) w1 w' := fun w1 g h => cz_tick h ⟨90, 100, 110⟩ (by decide) 0 awS (by decide) rfl
  have zt2 : ∀ w1 g, Cz w w1 g awS → Calls Try.prog 11 #[.pointer (some ⟨g, 0, none⟩), .agg #[.int .i64 89, .int .i64 100, .int .i64 100]] w1 fun e w' => e = .returned (.int .i64 0) ∧ Cz w w' g kn2 ∧ Frame (OneB g) w1 w' := fun w1 g h => cz_tick h ⟨89, 100, 100⟩ (by decide) 0 kn2 (by decide) rfl
  have zt3 : ∀ w1 g, Cz w w1 g kn2 → Calls Try.prog 11 #[.pointer (some ⟨g, 0, none⟩), .agg #[.int .i64 0, .int .i64 (-1), .int .i64 0]] w1 fun e w' => e = .returned (.int .i64 5) ∧ Cz w w' g kn2 ∧ Frame (OneB g) w1 w' := fun w1 g h => cz_tick h ⟨0, -1, 0⟩ (by decide) 5 kn2 (by decide) rfl
  have zn2 : ∀ w1, Calls Try.prog 8 #[.agg #[.int .i64 (-1), .int .i64 0, .int .i64 0]] w1 fun e w' => e = .returned (.tuple #[.pointer none, .int .i64 5]) ∧ Below w1.heap.size w1 w' := fun w1 => ckNew_no ⟨-1, 0, 0⟩ (by decide) w1
  have zn3 : ∀ w1, Below w.heap.size w w1 → Calls Try.prog 8 #[.agg #[.int .i64 1099511627776, .int .i64 0, .int .i64 0]] w1 (CzNew w ⟨1099511627776, 0, 0⟩ w1) := fun w1 B => cz_new ⟨1099511627776, 0, 0⟩ (by decide) w w1 B
  have zt4 : ∀ w1 g, Cz w w1 g kn3 → Calls Try.prog 11 #[.pointer (some ⟨g, 0, none⟩), .agg #[.int .i64 1, .int .i64 1, .int .i64 1]] w1 fun e w' => e = .returned (.int .i64 8) ∧ Cz w w' g kn3 ∧ Frame (OneB g) w1 w' := fun w1 g h => cz_tick h ⟨1, 1, 1⟩ (by decide) 8 kn3 (by decide) rfl
  have zaw := fun w1 => ckAwake_any w1
  go_enter Try.func7, Try.ntmps7
  go_wp2_with (first
    | (go_at_call 8; first
      | ((with_reducible refine z0.mono ?_); (rintro e w1 ⟨g, rfl, H1, _, _⟩; have z1 := zt1 w1 g H1; clear H1))
      | ((with_reducible refine (zn2 w3).mono ?_); (rintro e w4 ⟨rfl, B4⟩; have z3 := zt3 w4 g (H3.out.step B4)))
      | ((with_reducible refine z5.mono ?_); (rintro e w6 ⟨g2, rfl, H6, hg, B6⟩; have H5b := Lib.hid (H5.out.step B6); have hg2 := Lib.hid (show g2 ≠ g from fun e => by have := H5.out.blt; rw [e] at hg; omega); have H6 := Lib.hid H6; have z7 := zaw w6; clear hg)))
    | (go_at_call 11; first
      | ((with_reducible refine z1.mono ?_); (rintro e w2 ⟨rfl, H2, _⟩; have z2 := zt2 w2 g H2; clear H2))
      | ((with_reducible refine z2.mono ?_); (rintro e w3 ⟨rfl, H3, _⟩; have H3 := Lib.hid H3))
      | ((with_reducible refine z3.mono ?_); (rintro e w5 ⟨rfl, H5, _⟩; have z5 := zn3 w5 H5.fr; have H5 := Lib.hid H5))
      | ((with_reducible refine z8.mono ?_); (rintro e w8 ⟨rfl, H8, F8⟩; have zn := cz_now (H7.out.frame F8 (fun e => hg2.out e.symm) (fun k e => e ▸ H8.ge)) 3 0 (by decide); have H8 := Lib.hid H8.fr)))
    | (go_at_call 10; (with_reducible refine z7.mono ?_); (rintro e w7 ⟨rfl, B7⟩; have zk := cz_kept (H5b.out.step B7) false (by decide); have zc := cz_ticks (H5b.out.step B7) 2 (by decide); have H7 := Lib.hid (H5b.out.step B7); have z8 := zt4 w7 g2 (H6.out.step B7)))
    | (go_at_call 14; (with_reducible refine zk.mono ?_); (rintro e w90 ⟨rfl, rfl⟩))
    | (go_at_call 13; (with_reducible refine zc.mono ?_); (rintro e w91 ⟨rfl, rfl⟩))
    | (go_at_call 15; (with_reducible refine zn.mono ?_); (rintro e w92 ⟨rfl, rfl⟩)))
  go_ret
  exact ⟨rfl, H8.out⟩
end Go.Proofs.Ytfopjilncfndnaa
