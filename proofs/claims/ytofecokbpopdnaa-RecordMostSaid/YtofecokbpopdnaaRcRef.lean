/-
  The document's records (tandemref17). Conditions: none.
-/
import Derived.Test.YtofecokbpopdnaaRcNext
namespace Go.Proofs.Ytofecokbpopdnaa
open Go.RowKit Rc

theorem rfNumber_any (n : Int) (w : World) : Calls Try.prog 25 #[.int .i64 n] w (Tls (decide (Num n)) w) := by
  have e : decide (Num n) = (decide (0 ≤ n) && decide (n ≤ 1099511627776)) := Bool.decide_and _ _
  by_cases l0 : n ≥ 0
  · have FIN : Hid (decide (Num n) = decide (n ≤ 1099511627776)) := Lib.hid (by rw [e, decide_eq_true (show 0 ≤ n from l0)]; rfl)
    clear e
    go_enter Try.func25, Try.ntmps25
    go_wp2
    go_ret
    exact ⟨by rw [FIN.out]; rfl, rfl⟩
  · have FIN : Hid (decide (Num n) = false) := Lib.hid (by rw [e, decide_eq_false (show ¬ 0 ≤ n from l0)]; rfl)
    clear e
    go_enter Try.func25, Try.ntmps25
    go_wp2
    go_ret
    exact ⟨by rw [FIN.out]; rfl, rfl⟩
set_option maxRecDepth 100000 in
theorem rfCheck_any (t n s : Int) (w : World) : Calls Try.prog 10 #[.agg #[.int .i64 t, .int .i64 n, .int .i64 s]] w (Tin (errN ⟨t, n, s⟩) w) := by
  obtain ⟨w1, W1⟩ := rc_new w t n s
  have hw1 := W1.eq
  obtain ⟨c0, c1, c2⟩ := rc_box W1.blk
  have z1 := rfNumber_any t w1
  have z2 := rfNumber_any n w1
  have BB := Lib.hid W1.fr
  clear W1
  by_cases h1 : Num t
  · rw [decide_eq_true h1] at z1
    by_cases h2 : Num n
    · rw [decide_eq_true h2] at z2
      by_cases h3 : Set3 s
      · rw [show errN ⟨t, n, s⟩ = 0 from if_pos ⟨h1, h2, h3⟩]
        have l1 : ¬ s < 1 := by unfold Set3 at h3; omega
        have l2 : ¬ s > 3 := by unfold Set3 at h3; omega
        clear h1 h2 h3
        go_enter Try.func10, Try.ntmps10
        go_wp2_with (first
          | (go_at_call 25; rw [← hw1]; clear hw1; (with_reducible refine z1.mono ?_); (rintro e w2 ⟨rfl, rfl⟩))
          | (go_at_call 25; (with_reducible refine z2.mono ?_); (rintro e w2 ⟨rfl, rfl⟩)))
        go_ret
        exact ⟨rfl, BB.out⟩
      · rw [show errN ⟨t, n, s⟩ = 2 from if_neg fun x => h3 x.2.2]
        by_cases l1 : s < 1
        · clear h1 h2 h3
          go_enter Try.func10, Try.ntmps10
          go_wp2_with (first
            | (go_at_call 25; rw [← hw1]; clear hw1; (with_reducible refine z1.mono ?_); (rintro e w2 ⟨rfl, rfl⟩))
            | (go_at_call 25; (with_reducible refine z2.mono ?_); (rintro e w2 ⟨rfl, rfl⟩)))
          go_ret
          exact ⟨rfl, BB.out⟩
        · have l2 : s > 3 := by unfold Set3 at h3; omega
          clear h1 h2 h3
          go_enter Try.func10, Try.ntmps10
          go_wp2_with (first
            | (go_at_call 25; rw [← hw1]; clear hw1; (with_reducible refine z1.mono ?_); (rintro e w2 ⟨rfl, rfl⟩))
            | (go_at_call 25; (with_reducible refine z2.mono ?_); (rintro e w2 ⟨rfl, rfl⟩)))
          go_ret
          exact ⟨rfl, BB.out⟩
    · rw [decide_eq_false h2] at z2
      rw [show errN ⟨t, n, s⟩ = 2 from if_neg fun x => h2 x.2.1]
      clear h1 h2
      go_enter Try.func10, Try.ntmps10
      go_wp2_with (first
        | (go_at_call 25; rw [← hw1]; clear hw1; (with_reducible refine z1.mono ?_); (rintro e w2 ⟨rfl, rfl⟩))
        | (go_at_call 25; (with_reducible refine z2.mono ?_); (rintro e w2 ⟨rfl, rfl⟩)))
      go_ret
      exact ⟨rfl, BB.out⟩
  · rw [decide_eq_false h1] at z1
    rw [show errN ⟨t, n, s⟩ = 2 from if_neg fun x => h1 x.1]
    clear h1
    go_enter Try.func10, Try.ntmps10
    go_wp2_with (first
      | (go_at_call 25; rw [← hw1]; clear hw1; (with_reducible refine z1.mono ?_); (rintro e w2 ⟨rfl, rfl⟩))
      | (go_at_call 25; (with_reducible refine z2.mono ?_); (rintro e w2 ⟨rfl, rfl⟩)))
    go_ret
    exact ⟨rfl, BB.out⟩
set_option maxRecDepth 100000 in
/-- P17.1 -/
theorem rfNewer_any (a b s c d u : Int) (w : World) : Calls Try.prog 12 #[.agg #[.int .i64 a, .int .i64 b, .int .i64 s], .agg #[.int .i64 c, .int .i64 d, .int .i64 u]] w (Tlb (decide (New ⟨a, b, s⟩ ⟨c, d, u⟩)) w) := by
  obtain ⟨w1, W1⟩ := rc_new w a b s
  obtain ⟨w2, W2⟩ := rc_new w1 c d u
  have hw1 := W1.eq
  have hw2 := W2.eq
  have s1 : w1.heap.size = w.heap.size + 1 := by rw [hw1]; simp
  obtain ⟨c0, c1, c2⟩ := rc_box (W1.blk.below W2.fr W1.blk.lt)
  obtain ⟨d0, d1, d2⟩ := rc_box W2.blk
  have BB := Lib.hid (step_trans W1.fr W2.fr)
  rw [s1] at d0 d1 d2
  rw [hw1] at hw2
  rw [hw2] at c0 c1 c2 d0 d1 d2 BB
  clear W1 W2 hw1 s1 hw2
  by_cases l1 : a > c
  · rw [decide_eq_true (show New ⟨a, b, s⟩ ⟨c, d, u⟩ from .inl l1)]
    go_enter Try.func12, Try.ntmps12
    go_wp2
    go_ret
    exact ⟨rfl, BB.out⟩
  · by_cases l2 : a = c
    · have l3 : (a == c) = true := by simp [l2]
      rw [show decide (New ⟨a, b, s⟩ ⟨c, d, u⟩) = decide (b > d) from decide_eq_decide.2 ⟨fun x => x.elim (fun y => absurd y l1) (fun y => y.2), fun x => .inr ⟨l2, x⟩⟩]
      clear l2
      go_enter Try.func12, Try.ntmps12
      go_wp2
      go_ret
      exact ⟨rfl, BB.out⟩
    · have l3 : (a == c) = false := by simp [l2]
      rw [decide_eq_false (show ¬ New ⟨a, b, s⟩ ⟨c, d, u⟩ from fun x => x.elim l1 (fun y => l2 y.1))]
      clear l2
      go_enter Try.func12, Try.ntmps12
      go_wp2
      go_ret
      exact ⟨rfl, BB.out⟩
set_option maxRecDepth 100000 in
/-- P17.1 -/
theorem rfHas_any (t n s d : Int) (w : World) : Calls Try.prog 14 #[.agg #[.int .i64 t, .int .i64 n, .int .i64 s], .int .i64 d] w (Tlb (decide (Has s d)) w) := by
  obtain ⟨w1, W1⟩ := rc_new w t n s
  have hw1 := W1.eq
  obtain ⟨c0, c1, c2⟩ := rc_box W1.blk
  have BB := Lib.hid W1.fr
  rw [hw1] at c0 c1 c2 BB
  clear W1 hw1
  by_cases g : d = 0
  · subst g
    by_cases h : Has s 0
    · have l := (has_0 s).symm.trans (decide_eq_true h)
      rw [decide_eq_true h]
      clear h
      go_enter Try.func14, Try.ntmps14
      go_wp2
      go_ret
      exact ⟨rfl, BB.out⟩
    · have l := (has_0 s).symm.trans (decide_eq_false h)
      rw [decide_eq_false h]
      clear h
      go_enter Try.func14, Try.ntmps14
      go_wp2
      go_ret
      exact ⟨rfl, BB.out⟩
  · have l0 : (d == 0) = false := by simp [g]
    by_cases g1 : d = 1
    · subst g1
      have FIN := Lib.hid (has_1 s)
      clear g
      go_enter Try.func14, Try.ntmps14
      go_wp2
      go_ret
      exact ⟨by rw [FIN.out]; rfl, BB.out⟩
    · have l1 : (d == 1) = false := by simp [g1]
      rw [decide_eq_false (show ¬ Has s d from fun e => e.elim (fun x => g x.1) (fun x => g1 x.1))]
      clear g g1
      go_enter Try.func14, Try.ntmps14
      go_wp2
      go_ret
      exact ⟨rfl, BB.out⟩
set_option maxRecDepth 100000 in
set_option maxHeartbeats 1000000 in
/-- P17.2 -/
theorem rfNext_any (a b s t u : Int) (w : World) : Calls Try.prog 19 #[.agg #[.int .i64 a, .int .i64 b, .int .i64 s], .int .i64 t, .int .i64 u] w (Nxp (nextV ⟨a, b, s⟩ t u) (nextE ⟨a, b, s⟩ t u) w) := by
  obtain ⟨w1, W⟩ := rc_new w a b s
  have hw1 := W.eq
  have W1 := Lib.hid (And.intro W.fr W.blk)
  have zc0 := fun wx => rfCheck_any a b s wx
  have z30 := fun wx => rfNumber_any t wx
  clear W
  by_cases h1 : Ok ⟨a, b, s⟩
  · rw [show errN ⟨a, b, s⟩ = 0 from if_pos h1] at zc0
    by_cases h2 : Set3 u
    · have k1 : ¬ u < 1 := by unfold Set3 at h2; omega
      have k2 : ¬ u > 3 := by unfold Set3 at h2; omega
      by_cases h3 : Num t
      · simp only [decide_eq_true h3] at z30
        by_cases h4 : t < a ∨ (t = a ∧ b = 1099511627776)
        · have e : nextE ⟨a, b, s⟩ t u = 9 := by unfold nextE; rw [if_neg (fun x => x ⟨h1, h2, h3⟩), if_pos h4]
          rw [show nextV ⟨a, b, s⟩ t u = ⟨0, 0, 0⟩ from if_pos (by rw [e]; decide), e]
          by_cases h5 : t < a
          · clear e h1 h2 h3 h4
            go_enter Try.func19, Try.ntmps19
            go_wp2_with (first
              | (rw [← hw1]; clear hw1; (with_reducible refine atWorld w1 ?_); refine wpList_allocRow (w := w1) recTy rfl rfl ?_; (intro w2 b2 B2 s2; have zc := zc0 w2; obtain ⟨x0, x1, x2⟩ := rc_box (W1.out.2.below B2 W1.out.2.lt); have q2 := Lib.hid (And.intro b2 (And.intro B2 s2)); clear b2 B2 s2))
              | (go_at_call 10; (with_reducible refine zc.mono ?_); (rintro e w3 ⟨rfl, B3⟩; have b1 := (W1.out.2.below q2.out.2.1 W1.out.2.lt).below B3 (Nat.lt_of_lt_of_le W1.out.2.lt q2.out.2.1.size); have b3 := q2.out.1.below B3 q2.out.1.lt; obtain ⟨x0, x1, x2⟩ := rc_box b1; have z3 := z30 w3; have q3 := Lib.hid (And.intro b3 (step_trans q2.out.2.1 B3)); clear b1 b3 B3))
              | (go_at_call 25; (with_reducible refine z3.mono ?_); (rintro e w9 ⟨rfl, rfl⟩))
              | ((with_reducible refine atWorld w3 ?_); refine wpList_storeRow (w := w3) recTy rfl (.tmp 6) (.tmp 40) rfl w1.heap.size (rcL 0 0 0) _ rfl rfl rfl rfl (by simp [rcL, Value.oneCell']) q3.out.1 ?_; (intro w4 b4 B4 s4 x4; have BF := Lib.hid (W1.out.1.trans ((q3.out.2.trans B4).mono W1.out.1.size)); have b4 := Lib.hid b4; clear B4 s4 x4)))
            exact bodyPost_ret (w := w4) (results_cell2 Try.results19 _ _ _ _ _ _ rfl rfl (loadRow recTy (by rfl) b4.out)) rfl ⟨rfl, BF.out⟩
          · have l1 : (t == a) = true := by simp; omega
            have l2 : (b == 1099511627776) = true := by simp; omega
            clear e h1 h2 h3 h4
            go_enter Try.func19, Try.ntmps19
            go_wp2_with (first
              | (rw [← hw1]; clear hw1; (with_reducible refine atWorld w1 ?_); refine wpList_allocRow (w := w1) recTy rfl rfl ?_; (intro w2 b2 B2 s2; have zc := zc0 w2; obtain ⟨x0, x1, x2⟩ := rc_box (W1.out.2.below B2 W1.out.2.lt); have q2 := Lib.hid (And.intro b2 (And.intro B2 s2)); clear b2 B2 s2))
              | (go_at_call 10; (with_reducible refine zc.mono ?_); (rintro e w3 ⟨rfl, B3⟩; have b1 := (W1.out.2.below q2.out.2.1 W1.out.2.lt).below B3 (Nat.lt_of_lt_of_le W1.out.2.lt q2.out.2.1.size); have b3 := q2.out.1.below B3 q2.out.1.lt; obtain ⟨x0, x1, x2⟩ := rc_box b1; have z3 := z30 w3; have q3 := Lib.hid (And.intro b3 (step_trans q2.out.2.1 B3)); clear b1 b3 B3))
              | (go_at_call 25; (with_reducible refine z3.mono ?_); (rintro e w9 ⟨rfl, rfl⟩))
              | ((with_reducible refine atWorld w3 ?_); refine wpList_storeRow (w := w3) recTy rfl (.tmp 6) (.tmp 40) rfl w1.heap.size (rcL 0 0 0) _ rfl rfl rfl rfl (by simp [rcL, Value.oneCell']) q3.out.1 ?_; (intro w4 b4 B4 s4 x4; have BF := Lib.hid (W1.out.1.trans ((q3.out.2.trans B4).mono W1.out.1.size)); have b4 := Lib.hid b4; clear B4 s4 x4)))
            exact bodyPost_ret (w := w4) (results_cell2 Try.results19 _ _ _ _ _ _ rfl rfl (loadRow recTy (by rfl) b4.out)) rfl ⟨rfl, BF.out⟩
        · have e : nextE ⟨a, b, s⟩ t u = 0 := by unfold nextE; rw [if_neg (fun x => x ⟨h1, h2, h3⟩), if_neg h4]
          have h5 : ¬ t < a := fun x => h4 (.inl x)
          by_cases h6 : t = a
          · have l1 : (t == a) = true := by simp [h6]
            have l2 : (b == 1099511627776) = false := by simp; omega
            have l3 : ¬ t > a := by omega
            obtain ⟨m, hm⟩ : ∃ m, m = b + 1 := ⟨_, rfl⟩
            have l4 : IntKind.i64.wrap (b + 1) = m := hm ▸ IntWalk.i64_in _ (by have hn : Num b := h1.2.1; unfold Num at hn; omega)
            rw [show nextV ⟨a, b, s⟩ t u = ⟨t, m, u⟩ from (if_neg (fun x => x e)).trans (by rw [if_pos h6, hm]), e]
            clear e h1 h2 h3 h4 h6 hm
            go_enter Try.func19, Try.ntmps19
            go_wp2_with (first
              | (rw [← hw1]; clear hw1; (with_reducible refine atWorld w1 ?_); refine wpList_allocRow (w := w1) recTy rfl rfl ?_; (intro w2 b2 B2 s2; have zc := zc0 w2; obtain ⟨x0, x1, x2⟩ := rc_box (W1.out.2.below B2 W1.out.2.lt); have q2 := Lib.hid (And.intro b2 (And.intro B2 s2)); clear b2 B2 s2))
              | (go_at_call 10; (with_reducible refine zc.mono ?_); (rintro e w3 ⟨rfl, B3⟩; have b1 := (W1.out.2.below q2.out.2.1 W1.out.2.lt).below B3 (Nat.lt_of_lt_of_le W1.out.2.lt q2.out.2.1.size); have b3 := q2.out.1.below B3 q2.out.1.lt; obtain ⟨x0, x1, x2⟩ := rc_box b1; have z3 := z30 w3; have q3 := Lib.hid (And.intro b3 (step_trans q2.out.2.1 B3)); clear b1 b3 B3))
              | (go_at_call 25; (with_reducible refine z3.mono ?_); (rintro e w9 ⟨rfl, rfl⟩))
              | ((with_reducible refine atWorld w3 ?_); refine wpList_storeRow (w := w3) recTy rfl (.tmp 6) (.tmp 50) rfl w1.heap.size (rcL t m u) _ rfl rfl rfl rfl (by simp [rcL, Value.oneCell']) q3.out.1 ?_; (intro w4 b4 B4 s4 x4; have BF := Lib.hid (W1.out.1.trans ((q3.out.2.trans B4).mono W1.out.1.size)); have b4 := Lib.hid b4; clear B4 s4 x4)))
            exact bodyPost_ret (w := w4) (results_cell2 Try.results19 _ _ _ _ _ _ rfl rfl (loadRow recTy (by rfl) b4.out)) rfl ⟨rfl, BF.out⟩
          · have l1 : (t == a) = false := by simp [h6]
            have l3 : t > a := by omega
            rw [show nextV ⟨a, b, s⟩ t u = ⟨t, 0, u⟩ from (if_neg (fun x => x e)).trans (if_neg h6), e]
            clear e h1 h2 h3 h4 h6
            go_enter Try.func19, Try.ntmps19
            go_wp2_with (first
              | (rw [← hw1]; clear hw1; (with_reducible refine atWorld w1 ?_); refine wpList_allocRow (w := w1) recTy rfl rfl ?_; (intro w2 b2 B2 s2; have zc := zc0 w2; obtain ⟨x0, x1, x2⟩ := rc_box (W1.out.2.below B2 W1.out.2.lt); have q2 := Lib.hid (And.intro b2 (And.intro B2 s2)); clear b2 B2 s2))
              | (go_at_call 10; (with_reducible refine zc.mono ?_); (rintro e w3 ⟨rfl, B3⟩; have b1 := (W1.out.2.below q2.out.2.1 W1.out.2.lt).below B3 (Nat.lt_of_lt_of_le W1.out.2.lt q2.out.2.1.size); have b3 := q2.out.1.below B3 q2.out.1.lt; obtain ⟨x0, x1, x2⟩ := rc_box b1; have z3 := z30 w3; have q3 := Lib.hid (And.intro b3 (step_trans q2.out.2.1 B3)); clear b1 b3 B3))
              | (go_at_call 25; (with_reducible refine z3.mono ?_); (rintro e w9 ⟨rfl, rfl⟩))
              | ((with_reducible refine atWorld w3 ?_); refine wpList_storeRow (w := w3) recTy rfl (.tmp 6) (.tmp 53) rfl w1.heap.size (rcL t 0 u) _ rfl rfl rfl rfl (by simp [rcL, Value.oneCell']) q3.out.1 ?_; (intro w4 b4 B4 s4 x4; have BF := Lib.hid (W1.out.1.trans ((q3.out.2.trans B4).mono W1.out.1.size)); have b4 := Lib.hid b4; clear B4 s4 x4)))
            exact bodyPost_ret (w := w4) (results_cell2 Try.results19 _ _ _ _ _ _ rfl rfl (loadRow recTy (by rfl) b4.out)) rfl ⟨rfl, BF.out⟩
      · simp only [decide_eq_false h3] at z30
        have e : nextE ⟨a, b, s⟩ t u = 2 := if_pos (fun x => h3 x.2.2)
        rw [show nextV ⟨a, b, s⟩ t u = ⟨0, 0, 0⟩ from if_pos (by rw [e]; decide), e]
        clear e h1 h2 h3
        go_enter Try.func19, Try.ntmps19
        go_wp2_with (first
          | (rw [← hw1]; clear hw1; (with_reducible refine atWorld w1 ?_); refine wpList_allocRow (w := w1) recTy rfl rfl ?_; (intro w2 b2 B2 s2; have zc := zc0 w2; obtain ⟨x0, x1, x2⟩ := rc_box (W1.out.2.below B2 W1.out.2.lt); have q2 := Lib.hid (And.intro b2 (And.intro B2 s2)); clear b2 B2 s2))
          | (go_at_call 10; (with_reducible refine zc.mono ?_); (rintro e w3 ⟨rfl, B3⟩; have b1 := (W1.out.2.below q2.out.2.1 W1.out.2.lt).below B3 (Nat.lt_of_lt_of_le W1.out.2.lt q2.out.2.1.size); have b3 := q2.out.1.below B3 q2.out.1.lt; obtain ⟨x0, x1, x2⟩ := rc_box b1; have z3 := z30 w3; have q3 := Lib.hid (And.intro b3 (step_trans q2.out.2.1 B3)); clear b1 b3 B3))
          | (go_at_call 25; (with_reducible refine z3.mono ?_); (rintro e w9 ⟨rfl, rfl⟩))
          | ((with_reducible refine atWorld w3 ?_); refine wpList_storeRow (w := w3) recTy rfl (.tmp 6) (.tmp 24) rfl w1.heap.size (rcL 0 0 0) _ rfl rfl rfl rfl (by simp [rcL, Value.oneCell']) q3.out.1 ?_; (intro w4 b4 B4 s4 x4; have BF := Lib.hid (W1.out.1.trans ((q3.out.2.trans B4).mono W1.out.1.size)); have b4 := Lib.hid b4; clear B4 s4 x4)))
        exact bodyPost_ret (w := w4) (results_cell2 Try.results19 _ _ _ _ _ _ rfl rfl (loadRow recTy (by rfl) b4.out)) rfl ⟨rfl, BF.out⟩
    · have e : nextE ⟨a, b, s⟩ t u = 2 := if_pos (fun x => h2 x.2.1)
      rw [show nextV ⟨a, b, s⟩ t u = ⟨0, 0, 0⟩ from if_pos (by rw [e]; decide), e]
      by_cases k1 : u < 1
      · clear e h1 h2
        go_enter Try.func19, Try.ntmps19
        go_wp2_with (first
          | (rw [← hw1]; clear hw1; (with_reducible refine atWorld w1 ?_); refine wpList_allocRow (w := w1) recTy rfl rfl ?_; (intro w2 b2 B2 s2; have zc := zc0 w2; obtain ⟨x0, x1, x2⟩ := rc_box (W1.out.2.below B2 W1.out.2.lt); have q2 := Lib.hid (And.intro b2 (And.intro B2 s2)); clear b2 B2 s2))
          | (go_at_call 10; (with_reducible refine zc.mono ?_); (rintro e w3 ⟨rfl, B3⟩; have b1 := (W1.out.2.below q2.out.2.1 W1.out.2.lt).below B3 (Nat.lt_of_lt_of_le W1.out.2.lt q2.out.2.1.size); have b3 := q2.out.1.below B3 q2.out.1.lt; obtain ⟨x0, x1, x2⟩ := rc_box b1; have z3 := z30 w3; have q3 := Lib.hid (And.intro b3 (step_trans q2.out.2.1 B3)); clear b1 b3 B3))
          | ((with_reducible refine atWorld w3 ?_); refine wpList_storeRow (w := w3) recTy rfl (.tmp 6) (.tmp 24) rfl w1.heap.size (rcL 0 0 0) _ rfl rfl rfl rfl (by simp [rcL, Value.oneCell']) q3.out.1 ?_; (intro w4 b4 B4 s4 x4; have BF := Lib.hid (W1.out.1.trans ((q3.out.2.trans B4).mono W1.out.1.size)); have b4 := Lib.hid b4; clear B4 s4 x4)))
        exact bodyPost_ret (w := w4) (results_cell2 Try.results19 _ _ _ _ _ _ rfl rfl (loadRow recTy (by rfl) b4.out)) rfl ⟨rfl, BF.out⟩
      · have k2 : u > 3 := by unfold Set3 at h2; omega
        clear e h1 h2
        go_enter Try.func19, Try.ntmps19
        go_wp2_with (first
          | (rw [← hw1]; clear hw1; (with_reducible refine atWorld w1 ?_); refine wpList_allocRow (w := w1) recTy rfl rfl ?_; (intro w2 b2 B2 s2; have zc := zc0 w2; obtain ⟨x0, x1, x2⟩ := rc_box (W1.out.2.below B2 W1.out.2.lt); have q2 := Lib.hid (And.intro b2 (And.intro B2 s2)); clear b2 B2 s2))
          | (go_at_call 10; (with_reducible refine zc.mono ?_); (rintro e w3 ⟨rfl, B3⟩; have b1 := (W1.out.2.below q2.out.2.1 W1.out.2.lt).below B3 (Nat.lt_of_lt_of_le W1.out.2.lt q2.out.2.1.size); have b3 := q2.out.1.below B3 q2.out.1.lt; obtain ⟨x0, x1, x2⟩ := rc_box b1; have z3 := z30 w3; have q3 := Lib.hid (And.intro b3 (step_trans q2.out.2.1 B3)); clear b1 b3 B3))
          | ((with_reducible refine atWorld w3 ?_); refine wpList_storeRow (w := w3) recTy rfl (.tmp 6) (.tmp 24) rfl w1.heap.size (rcL 0 0 0) _ rfl rfl rfl rfl (by simp [rcL, Value.oneCell']) q3.out.1 ?_; (intro w4 b4 B4 s4 x4; have BF := Lib.hid (W1.out.1.trans ((q3.out.2.trans B4).mono W1.out.1.size)); have b4 := Lib.hid b4; clear B4 s4 x4)))
        exact bodyPost_ret (w := w4) (results_cell2 Try.results19 _ _ _ _ _ _ rfl rfl (loadRow recTy (by rfl) b4.out)) rfl ⟨rfl, BF.out⟩
  · rw [show errN ⟨a, b, s⟩ = 2 from if_neg h1] at zc0
    have e : nextE ⟨a, b, s⟩ t u = 2 := if_pos (fun x => h1 x.1)
    rw [show nextV ⟨a, b, s⟩ t u = ⟨0, 0, 0⟩ from if_pos (by rw [e]; decide), e]
    clear e h1
    go_enter Try.func19, Try.ntmps19
    go_wp2_with (first
      | (rw [← hw1]; clear hw1; (with_reducible refine atWorld w1 ?_); refine wpList_allocRow (w := w1) recTy rfl rfl ?_; (intro w2 b2 B2 s2; have zc := zc0 w2; obtain ⟨x0, x1, x2⟩ := rc_box (W1.out.2.below B2 W1.out.2.lt); have q2 := Lib.hid (And.intro b2 (And.intro B2 s2)); clear b2 B2 s2))
      | (go_at_call 10; (with_reducible refine zc.mono ?_); (rintro e w3 ⟨rfl, B3⟩; have b1 := (W1.out.2.below q2.out.2.1 W1.out.2.lt).below B3 (Nat.lt_of_lt_of_le W1.out.2.lt q2.out.2.1.size); have b3 := q2.out.1.below B3 q2.out.1.lt; obtain ⟨x0, x1, x2⟩ := rc_box b1; have z3 := z30 w3; have q3 := Lib.hid (And.intro b3 (step_trans q2.out.2.1 B3)); clear b1 b3 B3))
      | ((with_reducible refine atWorld w3 ?_); refine wpList_storeRow (w := w3) recTy rfl (.tmp 6) (.tmp 24) rfl w1.heap.size (rcL 0 0 0) _ rfl rfl rfl rfl (by simp [rcL, Value.oneCell']) q3.out.1 ?_; (intro w4 b4 B4 s4 x4; have BF := Lib.hid (W1.out.1.trans ((q3.out.2.trans B4).mono W1.out.1.size)); have b4 := Lib.hid b4; clear B4 s4 x4)))
    exact bodyPost_ret (w := w4) (results_cell2 Try.results19 _ _ _ _ _ _ rfl rfl (loadRow recTy (by rfl) b4.out)) rfl ⟨rfl, BF.out⟩
end Go.Proofs.Ytofecokbpopdnaa
