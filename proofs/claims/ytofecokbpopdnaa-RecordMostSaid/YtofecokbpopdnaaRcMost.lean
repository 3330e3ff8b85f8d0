/-
  The walk of RecordMost. Conditions: sets are ints of 64 bits.
-/
import Derived.Test.YtofecokbpopdnaaRcMost0
import Derived.Test.YtofecokbpopdnaaRcMem
namespace Go.Proofs.Ytofecokbpopdnaa
open Go.RowKit Rc

def three (x y z : R) : Nat → R
  | 0 => x
  | 1 => y
  | _ => z
theorem three_in {x y z : R} (h : In64 x.s ∧ In64 y.s ∧ In64 z.s) : ∀ i, i < 3 → I64 (three x y z i).s := fun i hi => by
  rcases lt3 hi with rfl | rfl | rfl
  · exact h.1
  · exact h.2.1
  · exact h.2.2

/-- what stands at the head of the law's loop -/
def MoRel (w : World) (A : R) (l : Nat → R) (hv ix : Value) (wr : World) : Prop := ∃ i : Nat, i ≤ 3 ∧ ix = .int .i64 (i : Int) ∧ hv = .int .i64 (cnt (hasIt A l) i : Int) ∧ Mo w w.heap.size (w.heap.size + 1) A l wr
set_option maxRecDepth 100000 in
set_option maxHeartbeats 8000000 in
theorem most_in {A : R} {l : Nat → R} {w : World} {nd vd : Nat} (hA : I64 A.s) (hl : ∀ i, i < 3 → I64 (l i).s) (h : Ok A) (hn : nd < 2) (hv : vd < 3) (hne : vd ≠ nd) (hh : ¬ Has A.s (nd : Int)) : Calls Try.prog 7 #[.agg #[.int .i64 A.t, .int .i64 A.n, .int .i64 A.s], .agg #[.int .i64 (l 0).t, .int .i64 (l 0).n, .int .i64 (l 0).s, .int .i64 (l 1).t, .int .i64 (l 1).n, .int .i64 (l 1).s, .int .i64 (l 2).t, .int .i64 (l 2).n, .int .i64 (l 2).s], .int .i64 (nd : Int), .int .i64 (vd : Int)] w (Tlb true w) := by
  have K := Mo.new w A l
  obtain ⟨y0, y1, y2⟩ := K.own
  have za := fun wx (K : Mo w w.heap.size (w.heap.size + 1) A l wx) => K.say (awake_any wx)
  have zc := fun wx (K : Mo w w.heap.size (w.heap.size + 1) A l wx) => K.num (rcCheck_any A.t A.n A.s hA wx)
  simp only [show errN ⟨A.t, A.n, A.s⟩ = 0 from if_pos h] at zc
  have zh := fun wx (K : Mo w w.heap.size (w.heap.size + 1) A l wx) => K.say (rcHas_any A.t A.n A.s nd wx)
  simp only [decide_eq_false hh] at zh
  have zw := fun i wx (K : Mo w w.heap.size (w.heap.size + 1) A l wx) => K.say (rcNewer_any (l i).t (l i).n (l i).s A.t A.n A.s wx)
  have zm := fun wx (K : Mo w w.heap.size (w.heap.size + 1) A l wx) => K.say (rcMay_any (l nd).t (l nd).n (l nd).s (l vd).t (l vd).n (l vd).s nd (hl nd (by omega)) (hl vd hv) wx)
  have l0 : ¬ (nd : Int) < 0 := by omega
  have l1 : ¬ (nd : Int) > 1 := by omega
  have l2 : ¬ (vd : Int) < 0 := by omega
  have l3 : ¬ (vd : Int) > 2 := by omega
  have l4 : ((vd : Int) == (nd : Int)) = false := by simp; omega
  have l5 : (nd : Int) < 3 := by omega
  have l6 : (vd : Int) < 3 := by omega
  have HM := Lib.hid (And.intro hh (And.intro (show nd < 3 by omega) (And.intro hv fun e : nd = vd => hne e.symm)))
  clear h hA hl hn hv hne hh
  go_enter Try.func7, Try.ntmps7
  go_wp2_with (first
    | (go_at_call 17; (with_reducible refine (za _ K).mono ?_); (rintro e w2 ⟨rfl, K⟩; obtain ⟨y0, y1, y2⟩ := K.own))
    | (go_at_call 9; (with_reducible refine (zc _ K).mono ?_); (rintro e w2 ⟨rfl, K⟩; obtain ⟨y0, y1, y2⟩ := K.own))
    | (go_at_call 13; (with_reducible refine (zh _ K).mono ?_); (rintro e w2 ⟨rfl, K⟩; obtain ⟨y0, y1, y2⟩ := K.own)))
  clear za zc zh
  go_loopw [10, 11] (fun hv ix wr => MoRel w A l hv ix wr) (fun _ ix _ => 4 - vI ix)
  case atStart => exact ⟨0, Nat.zero_le _, rfl, rfl, K⟩
  case round =>
    obtain ⟨i, hi, rfl, rfl, K⟩ := hrel
    obtain ⟨wa, hwa⟩ : ∃ wa, wa = wr := ⟨_, rfl⟩
    subst hwa
    by_cases hi3 : i = 3
    · subst hi3
      have lx : ¬ ((3 : Nat) : Int) < 3 := by omega
      obtain ⟨c, hc⟩ : ∃ c, c = cnt (hasIt A l) 3 := ⟨_, rfl⟩
      rw [← hc]
      have Kd := K.step (Below.refl _ wa).drew
      have S1 := And.intro Kd.own (Kd.at_ HM.out.2.1)
      have S2 := And.intro Kd.own (And.intro (Kd.at_ HM.out.2.1) (Kd.at_ HM.out.2.2.1))
      by_cases h2 : (c : Int) < 2
      · have HK := Lib.hid K
        clear K Kd hc hi S1 S2 zw zm
        go_wp2
        go_quiet (fail)
        go_wp2
        go_ret
        exact ⟨rfl, (HK.out.step (belowN (Below.refl _ wa) _)).fr⟩
      · have hd2 : decide ((c : Int) < 2) = false := decide_eq_false h2
        by_cases m1 : New (l nd) A
        · have z1 := zw nd _ Kd
          rw [decide_eq_true (show New ⟨(l nd).t, (l nd).n, (l nd).s⟩ ⟨A.t, A.n, A.s⟩ from m1)] at z1
          have HK := Lib.hid Kd
          clear K Kd hc hi S2 zw zm m1
          go_wp2
          refine wp_region_held_drew (S := (fun w' => (w'.cell? ⟨w.heap.size, 0, none⟩ = some (.int .i64 A.t) ∧ w'.cell? ⟨w.heap.size, 1, none⟩ = some (.int .i64 A.n) ∧ w'.cell? ⟨w.heap.size, 2, none⟩ = some (.int .i64 A.s)) ∧ (w'.cell? ⟨w.heap.size + 1, nd * 3, none⟩ = some (.int .i64 (l nd).t) ∧ w'.cell? ⟨w.heap.size + 1, nd * 3 + 1, none⟩ = some (.int .i64 (l nd).n) ∧ w'.cell? ⟨w.heap.size + 1, nd * 3 + 2, none⟩ = some (.int .i64 (l nd).s)))) (by kernel_rfl) S1 (fun hHeld => ?_)
          refine wpAnyH_take (i := 0) (v := ?_) rfl (by kernel_rfl) (by kernel_rfl) (by kernel_rfl) (fun _ _ _ h => h) (Or.inl ⟨by kernel_rfl, ?_⟩) (by assumption) ?_
          rotate_left
          · intro w hSw
            obtain ⟨⟨s0, s1, s2⟩, s3, s4, s5⟩ := hSw
            go_simp <;> with_reducible rfl
          simp only [Act.put]
          refine wpAnyH_take (i := 1) (v := ?_) rfl (by kernel_rfl) (by kernel_rfl) (by kernel_rfl) (fun _ _ _ h => h) (Or.inl ⟨by kernel_rfl, ?_⟩) (by assumption) ?_
          rotate_left
          · intro w hSw
            obtain ⟨⟨s0, s1, s2⟩, s3, s4, s5⟩ := hSw
            go_simp <;> with_reducible rfl
          simp only [Act.put]
          refine wpAnyH_take (i := 2) (v := ?_) rfl (by kernel_rfl) (by kernel_rfl) (by kernel_rfl) (fun _ _ _ h => h) (Or.inl ⟨by kernel_rfl, ?_⟩) (by assumption) ?_
          rotate_left
          · intro w hSw
            obtain ⟨⟨s0, s1, s2⟩, s3, s4, s5⟩ := hSw
            go_simp <;> with_reducible rfl
          simp only [Act.put]
          refine wpAnyH_take (i := 3) (v := ?_) rfl (by kernel_rfl) (by kernel_rfl) (by kernel_rfl) (fun _ _ _ h => h) (Or.inl ⟨by kernel_rfl, ?_⟩) (by assumption) ?_
          rotate_left
          · intro w hSw
            obtain ⟨⟨s0, s1, s2⟩, s3, s4, s5⟩ := hSw
            go_simp <;> with_reducible rfl
          simp only [Act.put]
          refine wpAnyH_take (i := 4) (v := ?_) rfl (by kernel_rfl) (by kernel_rfl) (by kernel_rfl) (fun _ _ _ h => h) (Or.inl ⟨by kernel_rfl, ?_⟩) (by assumption) ?_
          rotate_left
          · intro w hSw
            obtain ⟨⟨s0, s1, s2⟩, s3, s4, s5⟩ := hSw
            go_simp <;> with_reducible rfl
          simp only [Act.put]
          refine wpAnyH_take (i := 5) (v := ?_) rfl (by kernel_rfl) (by kernel_rfl) (by kernel_rfl) (fun _ _ _ h => h) (Or.inl ⟨by kernel_rfl, ?_⟩) (by assumption) ?_
          rotate_left
          · intro w hSw
            obtain ⟨⟨s0, s1, s2⟩, s3, s4, s5⟩ := hSw
            go_simp <;> with_reducible rfl
          simp only [Act.put]
          refine wpAnyH_take (i := 6) (v := ?_) rfl (by kernel_rfl) (by kernel_rfl) (by kernel_rfl) (fun _ _ _ h => h) (Or.inl ⟨by kernel_rfl, ?_⟩) (by assumption) ?_
          rotate_left
          · intro w hSw
            obtain ⟨⟨s0, s1, s2⟩, s3, s4, s5⟩ := hSw
            go_simp <;> with_reducible rfl
          simp only [Act.put]
          refine wpAnyH_ready (rs := [7]) (by kernel_rfl) (by simp) (AllReadyH.cons rfl (fun K hK => ?_) AllReadyH.nil)
          go_simp
          (go_at_call 11; (with_reducible refine z1.mono ?_); (rintro e w4 ⟨rfl, K4⟩))
          dsimp only
          refine hK.out _ _ (And.intro K4.own (K4.at_ HM.out.2.1)) (fun hHeld => ?_)
          clear hK K z1
          have HP := Lib.hid K4
          clear K4 hHeld
          refine wpAnyH_rest 8 rfl (by kernel_rfl) (by kernel_rfl) (fun N => (fun K => And.intro (Mo.own K) (Mo.at_ K HM.out.2.1)) (HP.out.step (belowN (Below.refl _ w4) N))) ?_
          simp only [List.drop_succ_cons, List.drop_zero]
          repeat (go_big_quiet_step (fail))
          refine wpQuiet_nil ?_
          intro _ hw'
          obtain ⟨nq, hw''⟩ := hw'
          subst hw''
          have B6 := Lib.hid (HP.out.step (belowN (Below.refl _ w4) nq)).fr
          go_wp2
          go_ret
          exact ⟨rfl, B6.out⟩
        · have z1 := zw nd _ Kd
          rw [decide_eq_false (show ¬ New ⟨(l nd).t, (l nd).n, (l nd).s⟩ ⟨A.t, A.n, A.s⟩ from m1)] at z1
          have z2 := zw vd
          by_cases m2 : New (l vd) A
          · rw [decide_eq_true (show New ⟨(l vd).t, (l vd).n, (l vd).s⟩ ⟨A.t, A.n, A.s⟩ from m2)] at z2
            clear K hc hi S1 zw zm m1 m2
            go_wp2
            go_region_held3 (fun w' => (w'.cell? ⟨w.heap.size, 0, none⟩ = some (.int .i64 A.t) ∧ w'.cell? ⟨w.heap.size, 1, none⟩ = some (.int .i64 A.n) ∧ w'.cell? ⟨w.heap.size, 2, none⟩ = some (.int .i64 A.s)) ∧ (w'.cell? ⟨w.heap.size + 1, nd * 3, none⟩ = some (.int .i64 (l nd).t) ∧ w'.cell? ⟨w.heap.size + 1, nd * 3 + 1, none⟩ = some (.int .i64 (l nd).n) ∧ w'.cell? ⟨w.heap.size + 1, nd * 3 + 2, none⟩ = some (.int .i64 (l nd).s)) ∧ (w'.cell? ⟨w.heap.size + 1, vd * 3, none⟩ = some (.int .i64 (l vd).t) ∧ w'.cell? ⟨w.heap.size + 1, vd * 3 + 1, none⟩ = some (.int .i64 (l vd).n) ∧ w'.cell? ⟨w.heap.size + 1, vd * 3 + 2, none⟩ = some (.int .i64 (l vd).s))) (first | exact S2 | assumption) (first
              | (go_at_call 11; first
                | ((with_reducible refine z1.mono ?_); (rintro e w7 ⟨rfl, K7⟩; have S7 := And.intro K7.own (And.intro (K7.at_ HM.out.2.1) (K7.at_ HM.out.2.2.1))))
                | ((with_reducible refine (z2 _ K7).mono ?_); (rintro e w8 ⟨rfl, K8⟩; have S8 := And.intro K8.own (And.intro (K8.at_ HM.out.2.1) (K8.at_ HM.out.2.2.1))))))
            go_wp2
            go_ret
            exact ⟨rfl, K8.fr⟩
          · rw [decide_eq_false (show ¬ New ⟨(l vd).t, (l vd).n, (l vd).s⟩ ⟨A.t, A.n, A.s⟩ from m2)] at z2
            have nm : ¬ May ⟨(l nd).t, (l nd).n, (l nd).s⟩ (nd : Int) ⟨(l vd).t, (l vd).n, (l vd).s⟩ := most_no HM.out.1 (by omega) HM.out.2.1 HM.out.2.2.1 HM.out.2.2.2 m1 m2
            simp only [decide_eq_false nm] at zm
            clear K hc hi S1 zw m1 m2 nm
            go_wp2
            go_region_held3 (fun w' => (w'.cell? ⟨w.heap.size, 0, none⟩ = some (.int .i64 A.t) ∧ w'.cell? ⟨w.heap.size, 1, none⟩ = some (.int .i64 A.n) ∧ w'.cell? ⟨w.heap.size, 2, none⟩ = some (.int .i64 A.s)) ∧ (w'.cell? ⟨w.heap.size + 1, nd * 3, none⟩ = some (.int .i64 (l nd).t) ∧ w'.cell? ⟨w.heap.size + 1, nd * 3 + 1, none⟩ = some (.int .i64 (l nd).n) ∧ w'.cell? ⟨w.heap.size + 1, nd * 3 + 2, none⟩ = some (.int .i64 (l nd).s)) ∧ (w'.cell? ⟨w.heap.size + 1, vd * 3, none⟩ = some (.int .i64 (l vd).t) ∧ w'.cell? ⟨w.heap.size + 1, vd * 3 + 1, none⟩ = some (.int .i64 (l vd).n) ∧ w'.cell? ⟨w.heap.size + 1, vd * 3 + 2, none⟩ = some (.int .i64 (l vd).s))) (first | exact S2 | assumption) (first
              | (go_at_call 11; first
                | ((with_reducible refine z1.mono ?_); (rintro e w7 ⟨rfl, K7⟩; have S7 := And.intro K7.own (And.intro (K7.at_ HM.out.2.1) (K7.at_ HM.out.2.2.1))))
                | ((with_reducible refine (z2 _ K7).mono ?_); (rintro e w8 ⟨rfl, K8⟩; have S8 := And.intro K8.own (And.intro (K8.at_ HM.out.2.1) (K8.at_ HM.out.2.2.1))))))
            go_wp2
            have K9 := K8.step (Below.refl _ w8).drew
            have S9 := And.intro K9.own (And.intro (K9.at_ HM.out.2.1) (K9.at_ HM.out.2.2.1))
            go_region_held3 (fun w' => (w'.cell? ⟨w.heap.size, 0, none⟩ = some (.int .i64 A.t) ∧ w'.cell? ⟨w.heap.size, 1, none⟩ = some (.int .i64 A.n) ∧ w'.cell? ⟨w.heap.size, 2, none⟩ = some (.int .i64 A.s)) ∧ (w'.cell? ⟨w.heap.size + 1, nd * 3, none⟩ = some (.int .i64 (l nd).t) ∧ w'.cell? ⟨w.heap.size + 1, nd * 3 + 1, none⟩ = some (.int .i64 (l nd).n) ∧ w'.cell? ⟨w.heap.size + 1, nd * 3 + 2, none⟩ = some (.int .i64 (l nd).s)) ∧ (w'.cell? ⟨w.heap.size + 1, vd * 3, none⟩ = some (.int .i64 (l vd).t) ∧ w'.cell? ⟨w.heap.size + 1, vd * 3 + 1, none⟩ = some (.int .i64 (l vd).n) ∧ w'.cell? ⟨w.heap.size + 1, vd * 3 + 2, none⟩ = some (.int .i64 (l vd).s))) (first | exact S9 | assumption) (first
              | (go_at_call 15; (with_reducible refine (zm _ K9).mono ?_); (rintro e w10 ⟨rfl, K10⟩; have S10 := And.intro K10.own (And.intro (K10.at_ HM.out.2.1) (K10.at_ HM.out.2.2.1)))))
            go_wp2
            go_ret
            exact ⟨rfl, K10.fr⟩
    · have lx : (i : Int) < 3 := by omega
      have hi' : i < 3 := by omega
      have hwi : IntKind.i64.wrap ((i : Int) + 1) = ((i + 1 : Nat) : Int) := (IntWalk.i64_in _ (by omega)).trans (by omega)
      obtain ⟨c, hc⟩ : ∃ c, c = cnt (hasIt A l) i := ⟨_, rfl⟩
      rw [← hc]
      have hcb : c ≤ i := hc ▸ cnt_le _ i
      have hwc : IntKind.i64.wrap ((c : Int) + 1) = ((c + 1 : Nat) : Int) := (IntWalk.i64_in _ (by omega)).trans (by omega)
      have eq := fun W => eq_rec (l i).t (l i).n (l i).s A.t A.n A.s W
      have c1 : hasIt A l i = true → cnt (hasIt A l) (i + 1) = c + 1 := fun e => by rw [hc]; simp [cnt, e]
      have c0 : hasIt A l i = false → cnt (hasIt A l) (i + 1) = c := fun e => by rw [hc]; simp [cnt, e]
      have HI := Lib.hid (And.intro hi' (And.intro c1 c0))
      clear c1 c0 hc hcb hi hi3
      by_cases q : eqR (l i) A = true
      · rw [show eqR ⟨(l i).t, (l i).n, (l i).s⟩ ⟨A.t, A.n, A.s⟩ = true from q] at eq
        have FIN := Lib.hid (HI.out.2.1 (show hasIt A l i = true by unfold hasIt; rw [q]; rfl))
        obtain ⟨y0, y1, y2⟩ := K.own
        obtain ⟨x0, x1, x2⟩ := K.at_ hi'
        have HK := Lib.hid K
        clear K q hi' zw zm
        go_wp2
        go_quiet (fail)
        go_wp2
        exact ⟨⟨i + 1, HI.out.1, rfl, by rw [FIN.out]; rfl, HK.out.step (belowN (Below.refl _ wa) _)⟩, by have := HI.out.1; simp [vI]; omega⟩
      · have q : eqR (l i) A = false := by simpa using q
        rw [show eqR ⟨(l i).t, (l i).n, (l i).s⟩ ⟨A.t, A.n, A.s⟩ = false from q] at eq
        have Kd := K.step (Below.refl _ wa).drew
        have S1 := And.intro Kd.own (Kd.at_ hi')
        have z1 := zw i _ Kd
        by_cases m : New (l i) A
        · rw [decide_eq_true (show New ⟨(l i).t, (l i).n, (l i).s⟩ ⟨A.t, A.n, A.s⟩ from m)] at z1
          have FIN := Lib.hid (HI.out.2.1 (show hasIt A l i = true by unfold hasIt; rw [q, decide_eq_true m]; rfl))
          clear K Kd q hi' zw zm m
          go_wp2
          go_region_held3 (fun w' => (w'.cell? ⟨w.heap.size, 0, none⟩ = some (.int .i64 A.t) ∧ w'.cell? ⟨w.heap.size, 1, none⟩ = some (.int .i64 A.n) ∧ w'.cell? ⟨w.heap.size, 2, none⟩ = some (.int .i64 A.s)) ∧ (w'.cell? ⟨w.heap.size + 1, i * 3, none⟩ = some (.int .i64 (l i).t) ∧ w'.cell? ⟨w.heap.size + 1, i * 3 + 1, none⟩ = some (.int .i64 (l i).n) ∧ w'.cell? ⟨w.heap.size + 1, i * 3 + 2, none⟩ = some (.int .i64 (l i).s))) (first | exact S1 | assumption) (first
            | (go_at_call 11; (with_reducible refine z1.mono ?_); (rintro e w7 ⟨rfl, K7⟩; have S7 := And.intro K7.own (K7.at_ HI.out.1))))
          go_wp2
          exact ⟨⟨i + 1, HI.out.1, rfl, by rw [FIN.out]; rfl, K7⟩, by have := HI.out.1; simp [vI]; omega⟩
        · rw [decide_eq_false (show ¬ New ⟨(l i).t, (l i).n, (l i).s⟩ ⟨A.t, A.n, A.s⟩ from m)] at z1
          have FIN := Lib.hid (HI.out.2.2 (show hasIt A l i = false by unfold hasIt; rw [q, decide_eq_false m]; rfl))
          clear K Kd q hi' zw zm m
          go_wp2
          go_region_held3 (fun w' => (w'.cell? ⟨w.heap.size, 0, none⟩ = some (.int .i64 A.t) ∧ w'.cell? ⟨w.heap.size, 1, none⟩ = some (.int .i64 A.n) ∧ w'.cell? ⟨w.heap.size, 2, none⟩ = some (.int .i64 A.s)) ∧ (w'.cell? ⟨w.heap.size + 1, i * 3, none⟩ = some (.int .i64 (l i).t) ∧ w'.cell? ⟨w.heap.size + 1, i * 3 + 1, none⟩ = some (.int .i64 (l i).n) ∧ w'.cell? ⟨w.heap.size + 1, i * 3 + 2, none⟩ = some (.int .i64 (l i).s))) (first | exact S1 | assumption) (first
            | (go_at_call 11; (with_reducible refine z1.mono ?_); (rintro e w7 ⟨rfl, K7⟩; have S7 := And.intro K7.own (K7.at_ HI.out.1))))
          go_wp2
          exact ⟨⟨i + 1, HI.out.1, rfl, by rw [FIN.out], K7⟩, by have := HI.out.1; simp [vI]; omega⟩
theorem rcMost_any (A : R) (l : Nat → R) (n v : Int) (hA : I64 A.s) (hl : ∀ i, i < 3 → I64 (l i).s) (w : World) : Calls Try.prog 7 #[.agg #[.int .i64 A.t, .int .i64 A.n, .int .i64 A.s], .agg #[.int .i64 (l 0).t, .int .i64 (l 0).n, .int .i64 (l 0).s, .int .i64 (l 1).t, .int .i64 (l 1).n, .int .i64 (l 1).s, .int .i64 (l 2).t, .int .i64 (l 2).n, .int .i64 (l 2).s], .int .i64 n, .int .i64 v] w (Tlb true w) := by
  by_cases h : Ok A
  · by_cases h0 : n < 0
    · exact most_n0 hA h h0
    by_cases h1 : n > 1
    · exact most_n1 hA h h0 h1
    by_cases h2 : v < 0
    · exact most_v0 hA h h0 h1 h2
    by_cases h3 : v > 2
    · exact most_v1 hA h h0 h1 h2 h3
    by_cases h4 : v = n
    · exact most_eq hA h h0 h1 h2 h3 (by simp [h4])
    by_cases h5 : Has A.s n
    · exact most_has hA h h0 h1 h2 h3 (by simp [h4]) h5
    obtain ⟨nd, rfl⟩ : ∃ k : Nat, n = (k : Int) := ⟨n.toNat, by omega⟩
    obtain ⟨vd, rfl⟩ : ∃ k : Nat, v = (k : Int) := ⟨v.toNat, by omega⟩
    exact most_in hA hl h (by omega) (by omega) (by omega) h5
  · exact most_bad hA h
end Go.Proofs.Ytofecokbpopdnaa
