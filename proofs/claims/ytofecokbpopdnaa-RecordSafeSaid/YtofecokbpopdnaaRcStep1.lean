/-
  RecordSafe: a step of kind 1: the primary lets another one keep its record. Conditions: none.
-/
import Derived.Test.YtofecokbpopdnaaRcStep0
namespace Go.Proofs.Ytofecokbpopdnaa
open Go.RowKit Rc

set_option maxRecDepth 100000 in
set_option maxHeartbeats 4000000 in
theorem step1 {w0 w : World} {g i : Nat} {r : Nat → R} {h : Nat → Bool} {p t : Int} {no sa : Bool} (K : Wm w0 g r h p t no sa w) (I : Inv i r h p t no sa) (hi : i < 200) (a b c : Int) (kw : IntKind.i64.wrap (a.tmod 6 + 6) = a.tmod 6 + 6) (kt : (a.tmod 6 + 6).tmod 6 = 1) :
    Calls Try.prog 22 #[.pointer (some ⟨g, 0, none⟩), .agg #[.int .i64 a, .int .i64 b, .int .i64 c]] w (StpP w0 g (i + 1)) := by
  obtain ⟨nd, hnd, en⟩ := and_one b
  obtain ⟨vt, hvt, vw, ve⟩ := mod_nat c 3 3 rfl (by decide) (by decide)
  obtain ⟨w1, hw1⟩ : ∃ w1, w1 = w.alloc (.cells #[.int .i64 a, .int .i64 b, .int .i64 c] 46) := ⟨_, rfl⟩
  have K1 : Wm w0 g r h p t no sa w1 := by rw [hw1]; exact K.step (step_alloc (Below.refl _ w) _)
  have b1 : BlkR 46 w1 w.heap.size [.int .i64 a, .int .i64 b, .int .i64 c] := by rw [hw1]; exact BlkR.new w [.int .i64 a, .int .i64 b, .int .i64 c] _
  have y0 := b1.cell (k := 0) (u := .int .i64 a) rfl
  have y1 := b1.cell (k := 1) (u := .int .i64 b) rfl
  have y2 := b1.cell (k := 2) (u := .int .i64 c) rfl
  have H1 := Lib.hid (And.intro K1 b1)
  have HI := Lib.hid (And.intro I hi)
  have HN := Lib.hid (And.intro hnd hvt)
  have ln : (nd : Int) < 3 := by omega
  have ln2 : (nd : Int) < 2 := by omega
  have lv : (vt : Int) < 3 := by omega
  rw [hw1] at y0 y1 y2
  clear K K1 b1 I hi hnd hvt
  go_enter Try.func22, Try.ntmps22
  go_wp2
  go_quiet (fail)
  obtain ⟨w5, h5⟩ : ∃ w5, w5 = (w.alloc (.cells #[.int .i64 a, .int .i64 b, .int .i64 c] 46)).drewN nq := ⟨_, rfl⟩
  have K5 : Wm w0 g r h p t no sa w5 := by rw [h5, ← hw1]; exact H1.out.1.step (belowN (Below.refl _ w1) nq)
  have x0 : w5.cell? ⟨w.heap.size, 0, none⟩ = some (.int .i64 a) := by rw [h5]; exact y0
  rw [← h5]
  clear h5 y0 y1 y2 hw1 H1 en vw ve
  obtain ⟨c11, c12, c13, c14⟩ := K5.own
  rcases HI.out.1.pp with e | ⟨q, hq, e⟩
  · subst e
    have HK := Lib.hid K5
    clear K5
    go_wp2
    go_ret
    exact ⟨rfl, _, _, _, _, _, _, HK.out, HI.out.1.stay⟩
  · subst e
    have l1 : (q : Int) ≥ 0 := by omega
    have l2 : (q : Int) < 3 := by omega
    have l2' : (q : Int) < 2 := by omega
    have HQ := Lib.hid hq
    have H3 := Lib.hid (show q < 3 by omega)
    obtain ⟨a0, a1, a2⟩ := K5.rec3 H3.out
    by_cases e : vt = q
    · have l5 : ((vt : Int) != (q : Int)) = false := by simp [e]
      have HK := Lib.hid K5
      clear K5 hq e
      go_wp2
      go_ret
      exact ⟨rfl, _, _, _, _, _, _, HK.out, HI.out.1.stay⟩
    · have l5 : ((vt : Int) != (q : Int)) = true := by simp; omega
      have K5d := K5.step (Below.refl _ w5).drew
      obtain ⟨⟨f0, f1, f2⟩, b0, b1, b2⟩ := K5d.two H3.out HN.out.2
      have S0 := K5d.two H3.out HN.out.2
      have zm := rcNewer_any (r q).t (r q).n (r q).s (r vt).t (r vt).n (r vt).s w5.drew
      have HK := Lib.hid K5d
      by_cases m : New (r q) (r vt)
      · rw [decide_eq_true (show New ⟨(r q).t, (r q).n, (r q).s⟩ ⟨(r vt).t, (r vt).n, (r vt).s⟩ from m)] at zm
        have FIN := Lib.hid (HI.out.1.note hq rfl HN.out.2 e)
        have EV := Lib.hid (show vt * 3 + 3 ≤ 15 by have := HN.out.2; omega)
        have EQ := Lib.hid (fun (e' : q = vt) => e e'.symm)
        clear K5 K5d hq e m
        go_wp2
        go_region_held3 (fun w' => (w'.cell? ⟨g, q * 3, none⟩ = some (.int .i64 (r q).t) ∧ w'.cell? ⟨g, q * 3 + 1, none⟩ = some (.int .i64 (r q).n) ∧ w'.cell? ⟨g, q * 3 + 2, none⟩ = some (.int .i64 (r q).s)) ∧ (w'.cell? ⟨g, vt * 3, none⟩ = some (.int .i64 (r vt).t) ∧ w'.cell? ⟨g, vt * 3 + 1, none⟩ = some (.int .i64 (r vt).n) ∧ w'.cell? ⟨g, vt * 3 + 2, none⟩ = some (.int .i64 (r vt).s))) (first | exact S0 | assumption) (first
          | (go_at_call 11; (with_reducible refine zm.mono ?_); (rintro e w7 ⟨rfl, B7⟩; have K7 := HK.out.step B7; have S7 := K7.two H3.out HN.out.2; obtain ⟨d11, d12, d13, d14⟩ := K7.own; have K7 := Lib.hid K7; clear B7)))
        obtain ⟨wd, hwd⟩ : ∃ wd, wd = { w7 with drawn := w7.drawn + 1 } := ⟨_, rfl⟩
        have Kd : Wm w0 g r h q t no sa wd := by rw [hwd]; exact K7.out.step (Below.refl _ w7).drew
        obtain ⟨⟨g0, g1, g2⟩, k0, k1, k2⟩ := Kd.two H3.out HN.out.2
        have bd := Kd.blk
        have HD := Lib.hid Kd
        clear Kd
        go_wp2
        refine region_tail 11 (by kernel_rfl) (by kernel_rfl) wd hwd ?_
        clear hwd
        simp only [List.take_succ_cons, List.take_zero, List.drop_succ_cons, List.drop_zero]
        repeat still_step
        refine wpStill_nil ?_
        go_wp2_with (first
          | ((with_reducible refine atWorld wd ?_); refine wpList_putRow (w := wd) recTy rfl (.tmp 130) (.tmp 127) rfl (vt * 3) (rcL (r q).t (r q).n (r q).s) (wdC r h q t no sa) rfl rfl rfl EV.out (by simp [rcL, Value.oneCell']) bd ?_; (intro w8 b8 B8 s8 x8; have K8 := Lib.hid (HD.out.put b8 (wd_rec (r q) HN.out.2) B8); clear b8 B8 s8 x8)))
        obtain ⟨we, hwe⟩ : ∃ we, we = { w8 with drawn := w8.drawn + 1 } := ⟨_, rfl⟩
        have Ke : Wm w0 g (updR r vt (r q)) h q t no sa we := by rw [hwe]; exact K8.out.step (Below.refl _ w8).drew
        obtain ⟨⟨g0, g1, g2⟩, k0, k1, k2⟩ := Ke.two H3.out HN.out.2
        obtain ⟨d11, d12, d13, d14⟩ := Ke.own
        rw [updR_far r _ EQ.out] at g0 g1 g2
        rw [updR_same] at k0 k1 k2
        have e1 := fun W => show (binOp .eql 23 (.agg #[.int .i64 (r q).t, .int .i64 (r q).n, .int .i64 (r q).s]) (.agg #[.int .i64 (r q).t, .int .i64 (r q).n, .int .i64 (r q).s])).run Try.prog W = .ok (.bool true) W from by rw [eq_rec, (eqR_iff _ _).2 rfl]
        have be := Ke.blk
        have HE := Lib.hid Ke
        clear Ke
        cases no with
        | true =>
          refine region_tail 22 (by kernel_rfl) (by kernel_rfl) we hwe ?_
          clear hwe
          simp only [List.take_succ_cons, List.take_zero, List.drop_succ_cons, List.drop_zero]
          iterate 5 (refine wpStill_do (by kernel_rfl) (fun K hK => ?_); go_simp; refine hK _ ?_; clear hK K)
          refine wpStill_do_skip 13 (.bool true) (by kernel_rfl) (by go_simp) _ rfl (by kernel_rfl) (by kernel_rfl) ?_
          simp only [List.drop_succ_cons, List.drop_zero, Act.put, List.setIfInBounds_toArray, List.set_cons_succ, List.set_cons_zero]
          iterate 3 (refine wpStill_do (by kernel_rfl) (fun K hK => ?_); go_simp; refine hK _ ?_; clear hK K)
          refine wpStill_nil ?_
          go_wp2_with (first
            | ((with_reducible refine atWorld we ?_); refine wpList_storeCell (w := we) rfl 4 (.tmp 152) (.tmp 150) rfl (.bool true) rfl rfl be (show 13 < 15 by decide) (by kernel_rfl) rfl ?_; (intro w9 b9 B9 s9 x9; have K9 := Lib.hid (HE.out.no_ b9 rfl B9); clear b9 B9 s9 x9)))
          go_ret
          exact ⟨rfl, _, _, _, _, _, _, K9.out, FIN.out⟩
        | false =>
          refine region_tail 22 (by kernel_rfl) (by kernel_rfl) we hwe ?_
          clear hwe
          simp only [List.take_succ_cons, List.take_zero, List.drop_succ_cons, List.drop_zero]
          iterate 22 (refine wpStill_do (by kernel_rfl) (fun K hK => ?_); go_simp; refine hK _ ?_; clear hK K)
          refine wpStill_nil ?_
          go_wp2_with (first
            | ((with_reducible refine atWorld we ?_); refine wpList_storeCell (w := we) rfl 4 (.tmp 152) (.tmp 150) rfl (.bool true) rfl rfl be (show 13 < 15 by decide) (by kernel_rfl) rfl ?_; (intro w9 b9 B9 s9 x9; have K9 := Lib.hid (HE.out.no_ b9 rfl B9); clear b9 B9 s9 x9)))
          go_ret
          exact ⟨rfl, _, _, _, _, _, _, K9.out, FIN.out⟩
      · rw [decide_eq_false (show ¬ New ⟨(r q).t, (r q).n, (r q).s⟩ ⟨(r vt).t, (r vt).n, (r vt).s⟩ from m)] at zm
        have FIN := Lib.hid (HI.out.1.noted hq rfl HN.out.2 e m)
        have ER := Lib.hid (HI.out.1.same_rec rfl HN.out.2 m)
        clear K5 K5d hq e m
        go_wp2
        go_region_held3 (fun w' => (w'.cell? ⟨g, q * 3, none⟩ = some (.int .i64 (r q).t) ∧ w'.cell? ⟨g, q * 3 + 1, none⟩ = some (.int .i64 (r q).n) ∧ w'.cell? ⟨g, q * 3 + 2, none⟩ = some (.int .i64 (r q).s)) ∧ (w'.cell? ⟨g, vt * 3, none⟩ = some (.int .i64 (r vt).t) ∧ w'.cell? ⟨g, vt * 3 + 1, none⟩ = some (.int .i64 (r vt).n) ∧ w'.cell? ⟨g, vt * 3 + 2, none⟩ = some (.int .i64 (r vt).s))) (first | exact S0 | assumption) (first
          | (go_at_call 11; (with_reducible refine zm.mono ?_); (rintro e w7 ⟨rfl, B7⟩; have K7 := HK.out.step B7; have S7 := K7.two H3.out HN.out.2; obtain ⟨d11, d12, d13, d14⟩ := K7.own; have K7 := Lib.hid K7; clear B7)))
        go_wp2
        obtain ⟨we, hwe⟩ : ∃ we, we = { w7 with drawn := w7.drawn + 1 } := ⟨_, rfl⟩
        have Ke : Wm w0 g (r) h q t no sa we := by rw [hwe]; exact K7.out.step (Below.refl _ w7).drew
        obtain ⟨⟨g0, g1, g2⟩, k0, k1, k2⟩ := Ke.two H3.out HN.out.2
        obtain ⟨d11, d12, d13, d14⟩ := Ke.own
        rw [ER.out] at k0 k1 k2
        have e1 := fun W => show (binOp .eql 23 (.agg #[.int .i64 (r q).t, .int .i64 (r q).n, .int .i64 (r q).s]) (.agg #[.int .i64 (r q).t, .int .i64 (r q).n, .int .i64 (r q).s])).run Try.prog W = .ok (.bool true) W from by rw [eq_rec, (eqR_iff _ _).2 rfl]
        have be := Ke.blk
        have HE := Lib.hid Ke
        clear Ke
        cases no with
        | true =>
          refine region_tail 22 (by kernel_rfl) (by kernel_rfl) we hwe ?_
          clear hwe
          simp only [List.take_succ_cons, List.take_zero, List.drop_succ_cons, List.drop_zero]
          iterate 5 (refine wpStill_do (by kernel_rfl) (fun K hK => ?_); go_simp; refine hK _ ?_; clear hK K)
          refine wpStill_do_skip 13 (.bool true) (by kernel_rfl) (by go_simp) _ rfl (by kernel_rfl) (by kernel_rfl) ?_
          simp only [List.drop_succ_cons, List.drop_zero, Act.put, List.setIfInBounds_toArray, List.set_cons_succ, List.set_cons_zero]
          iterate 3 (refine wpStill_do (by kernel_rfl) (fun K hK => ?_); go_simp; refine hK _ ?_; clear hK K)
          refine wpStill_nil ?_
          go_wp2_with (first
            | ((with_reducible refine atWorld we ?_); refine wpList_storeCell (w := we) rfl 4 (.tmp 152) (.tmp 150) rfl (.bool true) rfl rfl be (show 13 < 15 by decide) (by kernel_rfl) rfl ?_; (intro w9 b9 B9 s9 x9; have K9 := Lib.hid (HE.out.no_ b9 rfl B9); clear b9 B9 s9 x9)))
          go_ret
          exact ⟨rfl, _, _, _, _, _, _, K9.out, FIN.out⟩
        | false =>
          refine region_tail 22 (by kernel_rfl) (by kernel_rfl) we hwe ?_
          clear hwe
          simp only [List.take_succ_cons, List.take_zero, List.drop_succ_cons, List.drop_zero]
          iterate 22 (refine wpStill_do (by kernel_rfl) (fun K hK => ?_); go_simp; refine hK _ ?_; clear hK K)
          refine wpStill_nil ?_
          go_wp2_with (first
            | ((with_reducible refine atWorld we ?_); refine wpList_storeCell (w := we) rfl 4 (.tmp 152) (.tmp 150) rfl (.bool true) rfl rfl be (show 13 < 15 by decide) (by kernel_rfl) rfl ?_; (intro w9 b9 B9 s9 x9; have K9 := Lib.hid (HE.out.no_ b9 rfl B9); clear b9 B9 s9 x9)))
          go_ret
          exact ⟨rfl, _, _, _, _, _, _, K9.out, FIN.out⟩
end Go.Proofs.Ytofecokbpopdnaa
