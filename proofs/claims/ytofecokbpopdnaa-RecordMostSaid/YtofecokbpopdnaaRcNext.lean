/-
  The program's records: First, Next, May. Conditions: a set is an int of 64 bits.
-/
import Derived.Test.YtofecokbpopdnaaRcHas
namespace Go.Proofs.Ytofecokbpopdnaa
open Go.RowKit Rc

/-- a record and an error are told -/
def Nxp (r : R) (k : Int) (w : World) (e : Ending) (w' : World) : Prop := e = .returned (.tuple #[.agg #[.int .i64 r.t, .int .i64 r.n, .int .i64 r.s], .int .i64 k]) ∧ Below w.heap.size w w'
/-- a record is told -/
def Rcp (r : R) (w : World) (e : Ending) (w' : World) : Prop := e = .returned (.agg #[.int .i64 r.t, .int .i64 r.n, .int .i64 r.s]) ∧ Below w.heap.size w w'
theorem rcFirst_any (w : World) : Calls Try.prog 21 #[] w (Rcp ⟨0, 0, 3⟩ w) := by
  go_enter Try.func21, Try.ntmps21
  go_wp2
  exact bodyPost_ret (results_cell1 Try.results21 _ _ _ _ _ rfl (loadRow recTy (xs := rcL 0 0 3) (by rfl) (heap_alloc_new _ _))) rfl ⟨rfl, (Below.refl _ _).alloc (Nat.le_refl _) _⟩
set_option maxRecDepth 100000 in
set_option maxHeartbeats 1000000 in
/-- P17.2 -/
theorem rcNext_any (a b s t u : Int) (hs : I64 s) (hu : I64 u) (w : World) : Calls Try.prog 18 #[.agg #[.int .i64 a, .int .i64 b, .int .i64 s], .int .i64 t, .int .i64 u] w (Nxp (nextV ⟨a, b, s⟩ t u) (nextE ⟨a, b, s⟩ t u) w) := by
  obtain ⟨w1, W⟩ := rc_new w a b s
  have hw1 := W.eq
  have W1 := Lib.hid (And.intro W.fr W.blk)
  have zc0 := fun wx => rcCheck_any a b s hs wx
  have z20 := fun wx => isSet_any u hu wx
  have z30 := fun wx => isNumber_any t wx
  clear W
  by_cases h1 : Ok ⟨a, b, s⟩
  · rw [show errN ⟨a, b, s⟩ = 0 from if_pos h1] at zc0
    by_cases h2 : Set3 u
    · simp only [decide_eq_true h2] at z20
      by_cases h3 : Num t
      · simp only [decide_eq_true h3] at z30
        by_cases h4 : t < a ∨ (t = a ∧ b = 1099511627776)
        · have e : nextE ⟨a, b, s⟩ t u = 9 := by unfold nextE; rw [if_neg (fun x => x ⟨h1, h2, h3⟩), if_pos h4]
          rw [show nextV ⟨a, b, s⟩ t u = ⟨0, 0, 0⟩ from if_pos (by rw [e]; decide), e]
          by_cases h5 : t < a
          · clear e h1 h2 h3 h4 hs hu
            go_enter Try.func18, Try.ntmps18
            go_wp2_with (first
              | (rw [← hw1]; clear hw1; (with_reducible refine atWorld w1 ?_); refine wpList_allocRow (w := w1) recTy rfl rfl ?_; (intro w2 b2 B2 s2; have zc := zc0 w2; obtain ⟨x0, x1, x2⟩ := rc_box (W1.out.2.below B2 W1.out.2.lt); have q2 := Lib.hid (And.intro b2 (And.intro B2 s2)); clear b2 B2 s2))
              | (go_at_call 9; (with_reducible refine zc.mono ?_); (rintro e w3 ⟨rfl, B3⟩; have b1 := (W1.out.2.below q2.out.2.1 W1.out.2.lt).below B3 (Nat.lt_of_lt_of_le W1.out.2.lt q2.out.2.1.size); have b3 := q2.out.1.below B3 q2.out.1.lt; obtain ⟨x0, x1, x2⟩ := rc_box b1; have z2 := z20 w3; have z3 := z30 w3; have q3 := Lib.hid (And.intro b3 (step_trans q2.out.2.1 B3)); clear b1 b3 B3))
              | (go_at_call 24; (with_reducible refine z2.mono ?_); (rintro e w9 ⟨rfl, rfl⟩))
              | (go_at_call 23; (with_reducible refine z3.mono ?_); (rintro e w9 ⟨rfl, rfl⟩))
              | ((with_reducible refine atWorld w3 ?_); refine wpList_storeRow (w := w3) recTy rfl (.tmp 6) (.tmp 33) rfl w1.heap.size (rcL 0 0 0) _ rfl rfl rfl rfl (by simp [rcL, Value.oneCell']) q3.out.1 ?_; (intro w4 b4 B4 s4 x4; have BF := Lib.hid (W1.out.1.trans ((q3.out.2.trans B4).mono W1.out.1.size)); have b4 := Lib.hid b4; clear B4 s4 x4)))
            exact bodyPost_ret (w := w4) (results_cell2 Try.results18 _ _ _ _ _ _ rfl rfl (loadRow recTy (by rfl) b4.out)) rfl ⟨rfl, BF.out⟩
          · have l1 : (t == a) = true := by simp; omega
            have l2 : (b == 1099511627776) = true := by simp; omega
            clear e h1 h2 h3 h4 hs hu
            go_enter Try.func18, Try.ntmps18
            go_wp2_with (first
              | (rw [← hw1]; clear hw1; (with_reducible refine atWorld w1 ?_); refine wpList_allocRow (w := w1) recTy rfl rfl ?_; (intro w2 b2 B2 s2; have zc := zc0 w2; obtain ⟨x0, x1, x2⟩ := rc_box (W1.out.2.below B2 W1.out.2.lt); have q2 := Lib.hid (And.intro b2 (And.intro B2 s2)); clear b2 B2 s2))
              | (go_at_call 9; (with_reducible refine zc.mono ?_); (rintro e w3 ⟨rfl, B3⟩; have b1 := (W1.out.2.below q2.out.2.1 W1.out.2.lt).below B3 (Nat.lt_of_lt_of_le W1.out.2.lt q2.out.2.1.size); have b3 := q2.out.1.below B3 q2.out.1.lt; obtain ⟨x0, x1, x2⟩ := rc_box b1; have z2 := z20 w3; have z3 := z30 w3; have q3 := Lib.hid (And.intro b3 (step_trans q2.out.2.1 B3)); clear b1 b3 B3))
              | (go_at_call 24; (with_reducible refine z2.mono ?_); (rintro e w9 ⟨rfl, rfl⟩))
              | (go_at_call 23; (with_reducible refine z3.mono ?_); (rintro e w9 ⟨rfl, rfl⟩))
              | ((with_reducible refine atWorld w3 ?_); refine wpList_storeRow (w := w3) recTy rfl (.tmp 6) (.tmp 33) rfl w1.heap.size (rcL 0 0 0) _ rfl rfl rfl rfl (by simp [rcL, Value.oneCell']) q3.out.1 ?_; (intro w4 b4 B4 s4 x4; have BF := Lib.hid (W1.out.1.trans ((q3.out.2.trans B4).mono W1.out.1.size)); have b4 := Lib.hid b4; clear B4 s4 x4)))
            exact bodyPost_ret (w := w4) (results_cell2 Try.results18 _ _ _ _ _ _ rfl rfl (loadRow recTy (by rfl) b4.out)) rfl ⟨rfl, BF.out⟩
        · have e : nextE ⟨a, b, s⟩ t u = 0 := by unfold nextE; rw [if_neg (fun x => x ⟨h1, h2, h3⟩), if_neg h4]
          have h5 : ¬ t < a := fun x => h4 (.inl x)
          by_cases h6 : t = a
          · have l1 : (t == a) = true := by simp [h6]
            have l2 : (b == 1099511627776) = false := by simp; omega
            have l3 : ¬ t > a := by omega
            obtain ⟨m, hm⟩ : ∃ m, m = b + 1 := ⟨_, rfl⟩
            have l4 : IntKind.i64.wrap (b + 1) = m := hm ▸ IntWalk.i64_in _ (by have hn : Num b := h1.2.1; unfold Num at hn; omega)
            rw [show nextV ⟨a, b, s⟩ t u = ⟨t, m, u⟩ from (if_neg (fun x => x e)).trans (by rw [if_pos h6, hm]), e]
            clear e h1 h2 h3 h4 hs hu h6 hm
            go_enter Try.func18, Try.ntmps18
            go_wp2_with (first
              | (rw [← hw1]; clear hw1; (with_reducible refine atWorld w1 ?_); refine wpList_allocRow (w := w1) recTy rfl rfl ?_; (intro w2 b2 B2 s2; have zc := zc0 w2; obtain ⟨x0, x1, x2⟩ := rc_box (W1.out.2.below B2 W1.out.2.lt); have q2 := Lib.hid (And.intro b2 (And.intro B2 s2)); clear b2 B2 s2))
              | (go_at_call 9; (with_reducible refine zc.mono ?_); (rintro e w3 ⟨rfl, B3⟩; have b1 := (W1.out.2.below q2.out.2.1 W1.out.2.lt).below B3 (Nat.lt_of_lt_of_le W1.out.2.lt q2.out.2.1.size); have b3 := q2.out.1.below B3 q2.out.1.lt; obtain ⟨x0, x1, x2⟩ := rc_box b1; have z2 := z20 w3; have z3 := z30 w3; have q3 := Lib.hid (And.intro b3 (step_trans q2.out.2.1 B3)); clear b1 b3 B3))
              | (go_at_call 24; (with_reducible refine z2.mono ?_); (rintro e w9 ⟨rfl, rfl⟩))
              | (go_at_call 23; (with_reducible refine z3.mono ?_); (rintro e w9 ⟨rfl, rfl⟩))
              | ((with_reducible refine atWorld w3 ?_); refine wpList_storeRow (w := w3) recTy rfl (.tmp 6) (.tmp 47) rfl w1.heap.size (rcL t m u) _ rfl rfl rfl rfl (by simp [rcL, Value.oneCell']) q3.out.1 ?_; (intro w4 b4 B4 s4 x4; have BF := Lib.hid (W1.out.1.trans ((q3.out.2.trans B4).mono W1.out.1.size)); have b4 := Lib.hid b4; clear B4 s4 x4)))
            exact bodyPost_ret (w := w4) (results_cell2 Try.results18 _ _ _ _ _ _ rfl rfl (loadRow recTy (by rfl) b4.out)) rfl ⟨rfl, BF.out⟩
          · have l1 : (t == a) = false := by simp [h6]
            have l3 : t > a := by omega
            rw [show nextV ⟨a, b, s⟩ t u = ⟨t, 0, u⟩ from (if_neg (fun x => x e)).trans (if_neg h6), e]
            clear e h1 h2 h3 h4 hs hu h6
            go_enter Try.func18, Try.ntmps18
            go_wp2_with (first
              | (rw [← hw1]; clear hw1; (with_reducible refine atWorld w1 ?_); refine wpList_allocRow (w := w1) recTy rfl rfl ?_; (intro w2 b2 B2 s2; have zc := zc0 w2; obtain ⟨x0, x1, x2⟩ := rc_box (W1.out.2.below B2 W1.out.2.lt); have q2 := Lib.hid (And.intro b2 (And.intro B2 s2)); clear b2 B2 s2))
              | (go_at_call 9; (with_reducible refine zc.mono ?_); (rintro e w3 ⟨rfl, B3⟩; have b1 := (W1.out.2.below q2.out.2.1 W1.out.2.lt).below B3 (Nat.lt_of_lt_of_le W1.out.2.lt q2.out.2.1.size); have b3 := q2.out.1.below B3 q2.out.1.lt; obtain ⟨x0, x1, x2⟩ := rc_box b1; have z2 := z20 w3; have z3 := z30 w3; have q3 := Lib.hid (And.intro b3 (step_trans q2.out.2.1 B3)); clear b1 b3 B3))
              | (go_at_call 24; (with_reducible refine z2.mono ?_); (rintro e w9 ⟨rfl, rfl⟩))
              | (go_at_call 23; (with_reducible refine z3.mono ?_); (rintro e w9 ⟨rfl, rfl⟩))
              | ((with_reducible refine atWorld w3 ?_); refine wpList_storeRow (w := w3) recTy rfl (.tmp 6) (.tmp 41) rfl w1.heap.size (rcL t 0 u) _ rfl rfl rfl rfl (by simp [rcL, Value.oneCell']) q3.out.1 ?_; (intro w4 b4 B4 s4 x4; have BF := Lib.hid (W1.out.1.trans ((q3.out.2.trans B4).mono W1.out.1.size)); have b4 := Lib.hid b4; clear B4 s4 x4)))
            exact bodyPost_ret (w := w4) (results_cell2 Try.results18 _ _ _ _ _ _ rfl rfl (loadRow recTy (by rfl) b4.out)) rfl ⟨rfl, BF.out⟩
      · simp only [decide_eq_false h3] at z30
        have e : nextE ⟨a, b, s⟩ t u = 2 := if_pos (fun x => h3 x.2.2)
        rw [show nextV ⟨a, b, s⟩ t u = ⟨0, 0, 0⟩ from if_pos (by rw [e]; decide), e]
        clear e h1 h2 h3 hs hu
        go_enter Try.func18, Try.ntmps18
        go_wp2_with (first
          | (rw [← hw1]; clear hw1; (with_reducible refine atWorld w1 ?_); refine wpList_allocRow (w := w1) recTy rfl rfl ?_; (intro w2 b2 B2 s2; have zc := zc0 w2; obtain ⟨x0, x1, x2⟩ := rc_box (W1.out.2.below B2 W1.out.2.lt); have q2 := Lib.hid (And.intro b2 (And.intro B2 s2)); clear b2 B2 s2))
          | (go_at_call 9; (with_reducible refine zc.mono ?_); (rintro e w3 ⟨rfl, B3⟩; have b1 := (W1.out.2.below q2.out.2.1 W1.out.2.lt).below B3 (Nat.lt_of_lt_of_le W1.out.2.lt q2.out.2.1.size); have b3 := q2.out.1.below B3 q2.out.1.lt; obtain ⟨x0, x1, x2⟩ := rc_box b1; have z2 := z20 w3; have z3 := z30 w3; have q3 := Lib.hid (And.intro b3 (step_trans q2.out.2.1 B3)); clear b1 b3 B3))
          | (go_at_call 24; (with_reducible refine z2.mono ?_); (rintro e w9 ⟨rfl, rfl⟩))
          | (go_at_call 23; (with_reducible refine z3.mono ?_); (rintro e w9 ⟨rfl, rfl⟩))
          | ((with_reducible refine atWorld w3 ?_); refine wpList_storeRow (w := w3) recTy rfl (.tmp 6) (.tmp 18) rfl w1.heap.size (rcL 0 0 0) _ rfl rfl rfl rfl (by simp [rcL, Value.oneCell']) q3.out.1 ?_; (intro w4 b4 B4 s4 x4; have BF := Lib.hid (W1.out.1.trans ((q3.out.2.trans B4).mono W1.out.1.size)); have b4 := Lib.hid b4; clear B4 s4 x4)))
        exact bodyPost_ret (w := w4) (results_cell2 Try.results18 _ _ _ _ _ _ rfl rfl (loadRow recTy (by rfl) b4.out)) rfl ⟨rfl, BF.out⟩
    · simp only [decide_eq_false h2] at z20
      have e : nextE ⟨a, b, s⟩ t u = 2 := if_pos (fun x => h2 x.2.1)
      rw [show nextV ⟨a, b, s⟩ t u = ⟨0, 0, 0⟩ from if_pos (by rw [e]; decide), e]
      clear e h1 h2 hs hu
      go_enter Try.func18, Try.ntmps18
      go_wp2_with (first
        | (rw [← hw1]; clear hw1; (with_reducible refine atWorld w1 ?_); refine wpList_allocRow (w := w1) recTy rfl rfl ?_; (intro w2 b2 B2 s2; have zc := zc0 w2; obtain ⟨x0, x1, x2⟩ := rc_box (W1.out.2.below B2 W1.out.2.lt); have q2 := Lib.hid (And.intro b2 (And.intro B2 s2)); clear b2 B2 s2))
        | (go_at_call 9; (with_reducible refine zc.mono ?_); (rintro e w3 ⟨rfl, B3⟩; have b1 := (W1.out.2.below q2.out.2.1 W1.out.2.lt).below B3 (Nat.lt_of_lt_of_le W1.out.2.lt q2.out.2.1.size); have b3 := q2.out.1.below B3 q2.out.1.lt; obtain ⟨x0, x1, x2⟩ := rc_box b1; have z2 := z20 w3; have z3 := z30 w3; have q3 := Lib.hid (And.intro b3 (step_trans q2.out.2.1 B3)); clear b1 b3 B3))
        | (go_at_call 24; (with_reducible refine z2.mono ?_); (rintro e w9 ⟨rfl, rfl⟩))
        | ((with_reducible refine atWorld w3 ?_); refine wpList_storeRow (w := w3) recTy rfl (.tmp 6) (.tmp 18) rfl w1.heap.size (rcL 0 0 0) _ rfl rfl rfl rfl (by simp [rcL, Value.oneCell']) q3.out.1 ?_; (intro w4 b4 B4 s4 x4; have BF := Lib.hid (W1.out.1.trans ((q3.out.2.trans B4).mono W1.out.1.size)); have b4 := Lib.hid b4; clear B4 s4 x4)))
      exact bodyPost_ret (w := w4) (results_cell2 Try.results18 _ _ _ _ _ _ rfl rfl (loadRow recTy (by rfl) b4.out)) rfl ⟨rfl, BF.out⟩
  · rw [show errN ⟨a, b, s⟩ = 2 from if_neg h1] at zc0
    have e : nextE ⟨a, b, s⟩ t u = 2 := if_pos (fun x => h1 x.1)
    rw [show nextV ⟨a, b, s⟩ t u = ⟨0, 0, 0⟩ from if_pos (by rw [e]; decide), e]
    clear e h1 hs hu
    go_enter Try.func18, Try.ntmps18
    go_wp2_with (first
      | (rw [← hw1]; clear hw1; (with_reducible refine atWorld w1 ?_); refine wpList_allocRow (w := w1) recTy rfl rfl ?_; (intro w2 b2 B2 s2; have zc := zc0 w2; obtain ⟨x0, x1, x2⟩ := rc_box (W1.out.2.below B2 W1.out.2.lt); have q2 := Lib.hid (And.intro b2 (And.intro B2 s2)); clear b2 B2 s2))
      | (go_at_call 9; (with_reducible refine zc.mono ?_); (rintro e w3 ⟨rfl, B3⟩; have b1 := (W1.out.2.below q2.out.2.1 W1.out.2.lt).below B3 (Nat.lt_of_lt_of_le W1.out.2.lt q2.out.2.1.size); have b3 := q2.out.1.below B3 q2.out.1.lt; obtain ⟨x0, x1, x2⟩ := rc_box b1; have z2 := z20 w3; have z3 := z30 w3; have q3 := Lib.hid (And.intro b3 (step_trans q2.out.2.1 B3)); clear b1 b3 B3))
      | ((with_reducible refine atWorld w3 ?_); refine wpList_storeRow (w := w3) recTy rfl (.tmp 6) (.tmp 18) rfl w1.heap.size (rcL 0 0 0) _ rfl rfl rfl rfl (by simp [rcL, Value.oneCell']) q3.out.1 ?_; (intro w4 b4 B4 s4 x4; have BF := Lib.hid (W1.out.1.trans ((q3.out.2.trans B4).mono W1.out.1.size)); have b4 := Lib.hid b4; clear B4 s4 x4)))
    exact bodyPost_ret (w := w4) (results_cell2 Try.results18 _ _ _ _ _ _ rfl rfl (loadRow recTy (by rfl) b4.out)) rfl ⟨rfl, BF.out⟩
end Go.Proofs.Ytofecokbpopdnaa
