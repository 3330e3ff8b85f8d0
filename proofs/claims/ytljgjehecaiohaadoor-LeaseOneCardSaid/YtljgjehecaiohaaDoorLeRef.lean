/-
  The document's leases (tandemref16). Conditions: none.
-/
import Derived.Test.YtljgjehecaiohaaDoorLeHolds
namespace Go.Proofs.YtljgjehecaiohaaDoor
open Go.RowKit Le

set_option maxRecDepth 100000 in
theorem rfTime_any (n : Int) (w : World) : Calls Tryd.prog 47 #[.int .i64 n] w (Tls (decide (Time n)) w) := by
  have e : decide (Time n) = (decide (0 ≤ n) && decide (n ≤ 1099511627776)) := Bool.decide_and _ _
  obtain ⟨r, hr⟩ : ∃ r, r = decide (Time n) := ⟨_, rfl⟩
  rw [← hr] at e ⊢
  by_cases l0 : n ≥ 0
  · have FIN : Hid (r = decide (n ≤ 1099511627776)) := Lib.hid (by rw [e, decide_eq_true (show 0 ≤ n from l0)]; rfl)
    clear e hr
    go_enter Tryd.func47, Tryd.ntmps47
    go_wp2
    go_ret
    exact ⟨by rw [FIN.out]; rfl, rfl⟩
  · have FIN : Hid (r = false) := Lib.hid (by rw [e, decide_eq_false (show ¬ 0 ≤ n from l0)]; rfl)
    clear e hr
    go_enter Tryd.func47, Tryd.ntmps47
    go_wp2
    go_ret
    exact ⟨by rw [FIN.out]; rfl, rfl⟩
theorem valid_and {s n : Int} (h : Time s ∧ Time n) : decide (Valid s n) = (decide (s ≤ n) && decide (n - s < 900)) := by
  rw [← Bool.decide_and]
  exact decide_eq_decide.2 ⟨fun x => x.2.2, fun x => ⟨h.1, h.2, x⟩⟩
set_option maxRecDepth 100000 in
theorem rfValid_any (s n : Int) (w : World) : Calls Tryd.prog 19 #[.int .i64 s, .int .i64 n] w (Tls (decide (Valid s n)) w) := by
  have z1 := rfTime_any s w
  have z2 := rfTime_any n w
  by_cases hs : Time s
  · rw [decide_eq_true hs] at z1
    by_cases hn : Time n
    · rw [decide_eq_true hn] at z2
      have e := valid_and ⟨hs, hn⟩
      obtain ⟨r, hr⟩ : ∃ r, r = decide (Valid s n) := ⟨_, rfl⟩
      rw [← hr] at e ⊢
      have w1 : IntKind.i64.wrap (n - s) = n - s := IntWalk.i64_in _ (by unfold Time at hs hn; omega)
      by_cases l0 : s ≤ n
      · have FIN : Hid (r = decide (n - s < 900)) := Lib.hid (by rw [e, decide_eq_true l0]; rfl)
        clear e hr hs hn
        go_enter Tryd.func19, Tryd.ntmps19
        go_wp2_with (first
          | (go_at_call 47; (with_reducible refine z1.mono ?_); (rintro e w2 ⟨rfl, rfl⟩))
          | (go_at_call 47; (with_reducible refine z2.mono ?_); (rintro e w2 ⟨rfl, rfl⟩)))
        go_ret
        exact ⟨by rw [FIN.out]; rfl, rfl⟩
      · have FIN : Hid (r = false) := Lib.hid (by rw [e, decide_eq_false l0]; rfl)
        clear e hr hs hn
        go_enter Tryd.func19, Tryd.ntmps19
        go_wp2_with (first
          | (go_at_call 47; (with_reducible refine z1.mono ?_); (rintro e w2 ⟨rfl, rfl⟩))
          | (go_at_call 47; (with_reducible refine z2.mono ?_); (rintro e w2 ⟨rfl, rfl⟩)))
        go_ret
        exact ⟨by rw [FIN.out]; rfl, rfl⟩
    · rw [decide_eq_false hn] at z2
      rw [decide_eq_false (show ¬ Valid s n from fun e => hn e.2.1)]
      clear hs hn
      go_enter Tryd.func19, Tryd.ntmps19
      go_wp2_with (first
        | (go_at_call 47; (with_reducible refine z1.mono ?_); (rintro e w2 ⟨rfl, rfl⟩))
        | (go_at_call 47; (with_reducible refine z2.mono ?_); (rintro e w2 ⟨rfl, rfl⟩)))
      go_ret
      exact ⟨rfl, rfl⟩
  · rw [decide_eq_false hs] at z1
    rw [decide_eq_false (show ¬ Valid s n from fun e => hs e.1)]
    clear hs
    go_enter Tryd.func19, Tryd.ntmps19
    go_wp2_with (first
      | (go_at_call 47; (with_reducible refine z1.mono ?_); (rintro e w2 ⟨rfl, rfl⟩)))
    go_ret
    exact ⟨rfl, rfl⟩
theorem rfLeft_any (s n : Int) (w : World) : Calls Tryd.prog 21 #[.int .i64 s, .int .i64 n] w fun e w' => e = .returned (.int .i64 (left s n)) ∧ w = w' := by
  have z := rfValid_any s n w
  by_cases g : Valid s n
  · rw [decide_eq_true g] at z
    have e1 := left_def g
    obtain ⟨⟨s0, sM⟩, ⟨n0, nM⟩, g1, g2⟩ := g
    have w1 : IntKind.i64.wrap (n - s) = n - s := IntWalk.i64_in _ (by omega)
    have w2 : IntKind.i64.wrap (900 - (n - s)) = left s n := (IntWalk.i64_in _ (by omega)).trans e1.symm
    clear s0 sM n0 nM g1 g2 e1
    go_enter Tryd.func21, Tryd.ntmps21
    go_wp2_with (go_at_call 19; (with_reducible refine z.mono ?_); (rintro e w2 ⟨rfl, rfl⟩))
    go_ret
    exact ⟨rfl, rfl⟩
  · rw [decide_eq_false g] at z
    rw [left_no g]
    clear g
    go_enter Tryd.func21, Tryd.ntmps21
    go_wp2_with (go_at_call 19; (with_reducible refine z.mono ?_); (rintro e w2 ⟨rfl, rfl⟩))
    go_ret
    exact ⟨rfl, rfl⟩
set_option maxRecDepth 100000 in
theorem rfHolds_any (t f n : Int) (w : World) : Calls Tryd.prog 23 #[.agg #[.int .i64 t, .int .i64 f], .int .i64 n] w (Tlb (decide (Holds t f n)) w) := by
  obtain ⟨w1, hw1⟩ : ∃ w1, w1 = w.alloc (.cells #[.int .i64 t, .int .i64 f] 49) := ⟨_, rfl⟩
  have B1 : Below w.heap.size w w1 := by rw [hw1]; exact step_alloc (Below.refl _ w) _
  have b1 : BlkR 49 w1 w.heap.size (pmC t f) := by rw [hw1]; exact BlkR.new w (pmC t f) _
  have c0 : w1.cell? ⟨w.heap.size, 0, none⟩ = some (.int .i64 t) := b1.cell rfl
  have c1 : w1.cell? ⟨w.heap.size, 1, none⟩ = some (.int .i64 f) := b1.cell rfl
  have BB := Lib.hid B1
  have z1 := rfTime_any f w1
  have z2 := rfTime_any n w1
  by_cases g1 : t = -1
  · rw [holds_none g1]
    have l0 : (t == -1) = true := by simp [g1]
    clear b1 B1 g1 z1 z2
    rw [hw1] at c0 c1
    go_enter Tryd.func23, Tryd.ntmps23
    go_wp2
    go_ret
    exact ⟨rfl, hw1 ▸ BB.out⟩
  · have l0 : (t == -1) = false := by simp [g1]
    obtain ⟨r, hr⟩ : ∃ r, r = decide (Holds t f n) := ⟨_, rfl⟩
    rw [← hr]
    by_cases g : Time f
    · rw [decide_eq_true g] at z1
      by_cases g2 : Time n
      · rw [decide_eq_true g2] at z2
        have w1' : IntKind.i64.wrap (n - f) = n - f := IntWalk.i64_in _ (by unfold Time at g g2; omega)
        have FIN : Hid (r = decide (n - f < 1100)) := Lib.hid (hr.trans (holds_yes g1 ⟨g, g2⟩))
        clear b1 B1 g1 hr g g2
        rw [hw1] at c0 c1 z1 z2
        go_enter Tryd.func23, Tryd.ntmps23
        go_wp2_with (first
          | (go_at_call 47; (with_reducible refine z1.mono ?_); (rintro e w2 ⟨rfl, rfl⟩))
          | (go_at_call 47; (with_reducible refine z2.mono ?_); (rintro e w2 ⟨rfl, rfl⟩)))
        go_ret
        exact ⟨by rw [FIN.out]; rfl, hw1 ▸ BB.out⟩
      · rw [decide_eq_false g2] at z2
        have FIN : Hid (r = true) := Lib.hid (hr.trans (holds_far g1 fun e => g2 e.2))
        clear b1 B1 g1 hr g g2
        rw [hw1] at c0 c1 z1 z2
        go_enter Tryd.func23, Tryd.ntmps23
        go_wp2_with (first
          | (go_at_call 47; (with_reducible refine z1.mono ?_); (rintro e w2 ⟨rfl, rfl⟩))
          | (go_at_call 47; (with_reducible refine z2.mono ?_); (rintro e w2 ⟨rfl, rfl⟩)))
        go_ret
        exact ⟨by rw [FIN.out]; rfl, hw1 ▸ BB.out⟩
    · rw [decide_eq_false g] at z1
      have FIN : Hid (r = true) := Lib.hid (hr.trans (holds_far g1 fun e => g e.1))
      clear b1 B1 g1 hr g z2
      rw [hw1] at c0 c1 z1
      go_enter Tryd.func23, Tryd.ntmps23
      go_wp2_with (first
        | (go_at_call 47; (with_reducible refine z1.mono ?_); (rintro e w2 ⟨rfl, rfl⟩)))
      go_ret
      exact ⟨by rw [FIN.out]; rfl, hw1 ▸ BB.out⟩
theorem bars_dec2 (t f d n : Int) : decide (Bars t f d n) = (decide (Holds t f n) && (t != d || t == -2)) := by rw [bars_dec, Bool.or_comm]
set_option maxRecDepth 100000 in
theorem rfBars_any (t f d n : Int) (w : World) : Calls Tryd.prog 25 #[.agg #[.int .i64 t, .int .i64 f], .int .i64 d, .int .i64 n] w (Tlb (decide (Bars t f d n)) w) := by
  obtain ⟨w1, hw1⟩ : ∃ w1, w1 = w.alloc (.cells #[.int .i64 t, .int .i64 f] 49) := ⟨_, rfl⟩
  have B1 : Below w.heap.size w w1 := by rw [hw1]; exact step_alloc (Below.refl _ w) _
  have b1 : BlkR 49 w1 w.heap.size (pmC t f) := by rw [hw1]; exact BlkR.new w (pmC t f) _
  have z := rfHolds_any t f n w1
  have e := bars_dec2 t f d n
  obtain ⟨r, hr⟩ : ∃ r, r = decide (Holds t f n) := ⟨_, rfl⟩
  obtain ⟨q, hq⟩ : ∃ q, q = decide (Bars t f d n) := ⟨_, rfl⟩
  rw [← hr] at z e
  rw [← hq] at e ⊢
  have hx : w.heap.size < w1.heap.size := by rw [hw1]; simp
  have HS := Lib.hid (And.intro b1 (And.intro B1 hx))
  clear b1 B1 hr hq hx
  cases r with
  | false =>
    have FIN : Hid (q = false) := Lib.hid (e)
    clear e
    go_enter Tryd.func25, Tryd.ntmps25
    go_wp2_with (go_at_call 23; rw [← hw1]; (with_reducible refine z.mono ?_); (rintro e w2 ⟨rfl, B2⟩; have c2 := Lib.hid (step_trans HS.out.2.1 B2); clear B2))
    go_ret
    exact ⟨by rw [FIN.out]; rfl, c2.out⟩
  | true =>
    rw [Bool.true_and] at e
    by_cases g : t = d
    · have l0 : (t != d) = false := by simp [g]
      have FIN : Hid (q = (t == -2)) := Lib.hid (e.trans (by rw [l0]; rfl))
      clear e g
      go_enter Tryd.func25, Tryd.ntmps25
      go_wp2_with (go_at_call 23; rw [← hw1]; (with_reducible refine z.mono ?_); (rintro e w2 ⟨rfl, B2⟩; have c2 := Lib.hid (step_trans HS.out.2.1 B2); have b2 := HS.out.1.below B2 HS.out.2.2; have x0 := b2.cell (k := 0) (u := .int .i64 t) rfl; clear B2 b2))
      go_ret
      exact ⟨by rw [FIN.out]; rfl, c2.out⟩
    · have l0 : (t != d) = true := by simp [g]
      have FIN : Hid (q = true) := Lib.hid (e.trans (by rw [l0]; rfl))
      clear e g
      go_enter Tryd.func25, Tryd.ntmps25
      go_wp2_with (go_at_call 23; rw [← hw1]; (with_reducible refine z.mono ?_); (rintro e w2 ⟨rfl, B2⟩; have c2 := Lib.hid (step_trans HS.out.2.1 B2); have b2 := HS.out.1.below B2 HS.out.2.2; have x0 := b2.cell (k := 0) (u := .int .i64 t) rfl; clear B2 b2))
      go_ret
      exact ⟨by rw [FIN.out]; rfl, c2.out⟩
end Go.Proofs.YtljgjehecaiohaaDoor
