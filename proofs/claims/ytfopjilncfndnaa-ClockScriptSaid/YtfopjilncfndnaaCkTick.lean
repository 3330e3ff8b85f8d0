/-
  Clocks: New, and Tick. Conditions: none.
-/
import Derived.Test.YtfopjilncfndnaaCkCalls
import Derived.WalkMore
namespace Go.Proofs.Ytfopjilncfndnaa
open Go.RowKit Ck

theorem btw_ok {t : T3} (h : Btw 0 M t) : (0 ≤ t.a ∧ t.a ≤ 1099511627776) ∧ (0 ≤ t.b ∧ t.b ≤ 1099511627776) ∧ (0 ≤ t.c ∧ t.c ≤ 1099511627776) := h
section
variable {w w' : World} {b : Nat} {s : S}
/-- what stands while a tick is checked: none of the first x parts is below 0; err: whether one is too much -/
def Chk (s : S) (by_ : T3) (x E : Int) : Prop :=
  (0 < x → 0 ≤ by_.a) ∧ (1 < x → 0 ≤ by_.b) ∧ (2 < x → 0 ≤ by_.c) ∧
  (E = 8 ∧ ((0 < x ∧ M - s.t.a < by_.a) ∨ (1 < x ∧ M - s.t.b < by_.b) ∨ (2 < x ∧ M - s.t.c < by_.c)) ∨ E = 0 ∧ ¬ ((0 < x ∧ M - s.t.a < by_.a) ∨ (1 < x ∧ M - s.t.b < by_.b) ∨ (2 < x ∧ M - s.t.c < by_.c)))
theorem Chk.end_ {t : T3} {E : Int} (h : Chk s t 3 E) : s.tickE t = E := by
  obtain ⟨h1, h2, h3, h4⟩ := h
  unfold S.tickE
  rw [if_neg (by unfold Ck.Neg; omega)]
  rcases h4 with ⟨rfl, h4⟩ | ⟨rfl, h4⟩
  · rw [if_pos (by unfold Full; omega)]
  · rw [if_neg (by unfold Full; omega)]
theorem tickE_neg {t : T3} (h : t.a < 0 ∨ t.b < 0 ∨ t.c < 0) : s.tickE t = 5 := by
  unfold S.tickE
  rw [if_pos (show Ck.Neg t from h)]
set_option maxRecDepth 100000 in
set_option maxHeartbeats 1000000 in
theorem ckFault_any (h : CkAt w b s) (t : T3) : Calls Try.prog 20 #[.pointer (some ⟨b, 0, none⟩), .agg (t3Cells t).toArray] w fun e w' => e = .returned (.int .i64 (s.tickE t)) ∧ Below w.heap.size w w' := by
  obtain ⟨w1, hw1⟩ : ∃ w1, w1 = w.alloc (.cells (t3Cells t).toArray 38) := ⟨_, rfl⟩
  have B1 : Below w.heap.size w w1 := by rw [hw1]; exact step_alloc (Below.refl _ w) _
  have b1 : BlkR 38 w1 w.heap.size (t3Cells t) := by rw [hw1]; exact BlkR.new w _ _
  have h1 := h.step B1
  obtain ⟨_, c1, c2, c3, _, _⟩ := ck_cells h1.blk
  obtain ⟨⟨r1, r2⟩, ⟨r3, r4⟩, ⟨r5, r6⟩⟩ := btw_ok h1.ok
  have HS := Lib.hid b1
  have BB := Lib.hid B1
  have hs : ∀ w, (sizeOf 3).run Try.prog w = .ok 1 w := fun w => by kernel_rfl
  have i0 := idx3 Try.underlying38 Try.underlying3 hs t 0 t.a rfl 0 rfl
  have i1 := idx3 Try.underlying38 Try.underlying3 hs t 1 t.b rfl 1 rfl
  have i2 := idx3 Try.underlying38 Try.underlying3 hs t 2 t.c rfl 2 rfl
  obtain ⟨xs, hxs⟩ : ∃ xs, xs = t3Cells t := ⟨_, rfl⟩
  have HX := Lib.hid hxs
  rw [← hxs] at hw1 i0 i1 i2 ⊢
  have HE := Lib.hid (show ∀ E, Chk s t 3 E → s.tickE t = E from fun E h => h.end_)
  have HN := Lib.hid (show (t.a < 0 ∨ t.b < 0 ∨ t.c < 0) → s.tickE t = 5 from tickE_neg)
  obtain ⟨R, hR⟩ : ∃ R, R = s.tickE t := ⟨_, rfl⟩
  rw [← hR] at HE HN ⊢
  clear hxs b1 B1 h h1 hs hR
  go_enter Try.func20, Try.ntmps20
  go_wp2
  rw [← hw1]
  clear hw1
  go_step3
  go_wp2
  go_step3
  go_wp2_with (refine wpList_loadRow (w := w1) info_times rfl (.tmp 3) rfl w.heap.size 0 xs rfl (by rw [HX.out]; rfl) (rangeOf (by rw [HX.out]; exact HS.out)) ?_)
  go_loop [5, 9] (fun ev ix => ∃ x E : Int, (x = 0 ∨ x = 1 ∨ x = 2 ∨ x = 3) ∧ ix = .int .i64 x ∧ ev = .int .i64 E ∧ Chk s t x E) (fun _ ix => 3 - vI ix)
  case atStart => exact ⟨0, 0, .inl rfl, rfl, rfl, by unfold Chk; omega⟩
  case round =>
    obtain ⟨x, E, hx, rfl, rfl, hk⟩ := hrel
    rcases hx with rfl | rfl | rfl | rfl
    · have HK := Lib.hid hk
      clear hk
      by_cases hn : t.a < 0
      · have HF := Lib.hid hn
        go_wp2
        go_ret
        exact ⟨by rw [HN.out (.inl HF.out)]; rfl, BB.out⟩
      · have hn' := hn
        by_cases hf : 1099511627776 - s.t.a < t.a
        · go_wp2
          exact ⟨⟨1, 8, .inr (.inl rfl), rfl, rfl, by have := HK.out; unfold Chk M at this ⊢; omega⟩, by decide⟩
        · go_wp2
          exact ⟨⟨1, E, .inr (.inl rfl), rfl, rfl, by have := HK.out; unfold Chk M at this ⊢; omega⟩, by decide⟩
    · have HK := Lib.hid hk
      clear hk
      by_cases hn : t.b < 0
      · have HF := Lib.hid hn
        go_wp2
        go_ret
        exact ⟨by rw [HN.out (.inr (.inl HF.out))]; rfl, BB.out⟩
      · have hn' := hn
        by_cases hf : 1099511627776 - s.t.b < t.b
        · go_wp2
          exact ⟨⟨2, 8, .inr (.inr (.inl rfl)), rfl, rfl, by have := HK.out; unfold Chk M at this ⊢; omega⟩, by decide⟩
        · go_wp2
          exact ⟨⟨2, E, .inr (.inr (.inl rfl)), rfl, rfl, by have := HK.out; unfold Chk M at this ⊢; omega⟩, by decide⟩
    · have HK := Lib.hid hk
      clear hk
      by_cases hn : t.c < 0
      · have HF := Lib.hid hn
        go_wp2
        go_ret
        exact ⟨by rw [HN.out (.inr (.inr HF.out))]; rfl, BB.out⟩
      · have hn' := hn
        by_cases hf : 1099511627776 - s.t.c < t.c
        · go_wp2
          exact ⟨⟨3, 8, .inr (.inr (.inr rfl)), rfl, rfl, by have := HK.out; unfold Chk M at this ⊢; omega⟩, by decide⟩
        · go_wp2
          exact ⟨⟨3, E, .inr (.inr (.inr rfl)), rfl, rfl, by have := HK.out; unfold Chk M at this ⊢; omega⟩, by decide⟩
    · have HK := Lib.hid hk
      clear hk
      go_wp2
      go_ret
      exact ⟨by rw [HE.out _ HK.out]; rfl, BB.out⟩
/-- the clocks while the first x parts were added -/
def pt (t by_ : T3) (x : Int) : T3 := ⟨if 0 < x then t.a + by_.a else t.a, if 1 < x then t.b + by_.b else t.b, if 2 < x then t.c + by_.c else t.c⟩
theorem pt_0 (t u : T3) : pt t u 0 = t := rfl
theorem pt_3 (t u : T3) : pt t u 3 = t.plus u := rfl
theorem pt_set {b : Nat} {t u : T3} {kept : Bool} {n : Nat} {k : Nat} {j v : Int} (hj : j = k) (hv : (t3Cells (t.plus u))[k]? = some (.int .i64 v)) : (ckC b (pt t u j) kept n).set (1 + k) (.int .i64 v) = ckC b (pt t u (j + 1)) kept n := by
  subst hj
  match k with
  | 0 => simp [t3Cells] at hv; subst hv; rfl
  | 1 => simp [t3Cells] at hv; subst hv; rfl
  | 2 => simp [t3Cells] at hv; subst hv; rfl
  | k + 3 => simp [t3Cells] at hv
def OneB (b : Nat) (j : Nat) : Prop := j = b
theorem ck_set {t : T3} {kept : Bool} {n : Nat} (r : BlkR 40 w b (ckC b t kept n)) (k : Nat) (v : Value) : BlkR 40 (w.setCell ⟨b, k, none⟩ v) b ((ckC b t kept n).set k v) ∧ Frame (OneB b) w (w.setCell ⟨b, k, none⟩ v) :=
  ⟨r.set_ k v, ⟨rfl, rfl, rfl, by simp, fun j _ hj => Below.heap_setCell w ⟨b, k, none⟩ v j hj⟩⟩
/-- what a tick that is refused leaves -/
theorem CkAt.same (h : CkAt w b s) {t : T3} (he : s.tickE t ≠ 0) (B : Below w.heap.size w w') : CkAt w' b (s.tick t) ∧ Frame (OneB b) w w' := by
  unfold S.tick
  rw [if_neg he]
  exact ⟨h.step B, Frame.of_below B⟩
set_option maxRecDepth 100000 in
theorem ckTick_no (h : CkAt w b s) (t : T3) (he : s.tickE t ≠ 0) : Calls Try.prog 11 #[.pointer (some ⟨b, 0, none⟩), .agg (t3Cells t).toArray] w fun e w' => e = .returned (.int .i64 (s.tickE t)) ∧ CkAt w' b (s.tick t) ∧ Frame (OneB b) w w' := by
  obtain ⟨w1, hw1⟩ : ∃ w1, w1 = w.alloc (.cells (t3Cells t).toArray 22) := ⟨_, rfl⟩
  have B1 : Below w.heap.size w w1 := by rw [hw1]; exact step_alloc (Below.refl _ w) _
  have b1 : BlkR 22 w1 w.heap.size (t3Cells t) := by rw [hw1]; exact BlkR.new w _ _
  have h1 := h.step B1
  have zm := ckMade_yes b w1 (ck_cells h1.blk).1
  have zf := ckFault_any h1 t
  have HS := Lib.hid b1
  have BB := Lib.hid B1
  have HH := Lib.hid h
  have HE := Lib.hid he
  have ne : (s.tickE t == 0) = false := by simpa using he
  have ne2 : (s.tickE t != 0) = true := by simpa using he
  obtain ⟨xs, hxs⟩ : ∃ xs, xs = t3Cells t := ⟨_, rfl⟩
  have HX := Lib.hid hxs
  rw [← hxs] at hw1 zf ⊢
  obtain ⟨R, hR⟩ : ∃ R, R = s.tickE t := ⟨_, rfl⟩
  rw [← hR] at zf ne ne2 ⊢
  clear hxs b1 B1 h h1 hR he
  go_enter Try.func11, Try.ntmps11
  go_wp2_with fail
  rw [← hw1]
  clear hw1
  go_wp2_with (first
    | (go_at_call 19; (with_reducible refine zm.mono ?_); (rintro e w2 ⟨rfl, rfl⟩))
    | (refine wpList_loadRow (w := w1) info_t3 rfl (.tmp 3) rfl w.heap.size 0 xs rfl (by rw [HX.out]; rfl) (rangeOf (by rw [HX.out]; exact HS.out)) ?_)
    | (go_at_call 20; (with_reducible refine zf.mono ?_); (rintro e w2 ⟨rfl, B2⟩)))
  go_ret
  exact ⟨rfl, HH.out.same HE.out (step_trans BB.out B2)⟩
theorem ck_end {p : T3} {kept k2 : Bool} {n : Nat} {x : Int} (hx : x = (n : Int) + 1) (r : BlkR 40 w b (ckC b p kept n)) : BlkR 40 ((w.setCell ⟨b, 4, none⟩ (.bool (!k2))).setCell ⟨b, 5, none⟩ (.int .i64 x)) b (ckC b p k2 (n + 1)) ∧ Frame (OneB b) w ((w.setCell ⟨b, 4, none⟩ (.bool (!k2))).setCell ⟨b, 5, none⟩ (.int .i64 x)) := by
  subst hx
  have h := (r.set_ 4 (.bool (!k2))).set_ 5 (.int .i64 ((n : Int) + 1))
  refine ⟨h, ⟨rfl, rfl, rfl, by simp, fun j _ hj => ?_⟩⟩
  rw [Below.heap_setCell _ ⟨b, 5, none⟩ _ j hj, Below.heap_setCell w ⟨b, 4, none⟩ _ j hj]
/-- what stands in the loop of a tick -/
def TkRel (w : World) (b : Nat) (s : S) (t : T3) (ix : Value) (wr : World) : Prop := ∃ x : Int, (x = 0 ∨ x = 1 ∨ x = 2 ∨ x = 3) ∧ ix = .int .i64 x ∧ BlkR 40 wr b (ckC b (pt s.t t x) s.kept s.n) ∧ Frame (OneB b) w wr ∧ BlkR 22 wr w.heap.size (t3Cells t)
set_option maxRecDepth 100000 in
set_option maxHeartbeats 1000000 in
theorem ckTick_ok (h : CkAt w b s) (t : T3) (he : s.tickE t = 0) (hn : s.n ≤ 4611686018427387904) : Calls Try.prog 11 #[.pointer (some ⟨b, 0, none⟩), .agg (t3Cells t).toArray] w fun e w' => e = .returned (.int .i64 0) ∧ CkAt w' b (s.tick t) ∧ Frame (OneB b) w w' := by
  have hbg : w.heap.size ≠ b := by have := h.blk.lt; omega
  obtain ⟨w1, hw1⟩ : ∃ w1, w1 = w.alloc (.cells (t3Cells t).toArray 22) := ⟨_, rfl⟩
  have B1 : Below w.heap.size w w1 := by rw [hw1]; exact step_alloc (Below.refl _ w) _
  have b1 : BlkR 22 w1 w.heap.size (t3Cells t) := by rw [hw1]; exact BlkR.new w _ _
  have h1 := h.step B1
  have zm := ckMade_yes b w1 (ck_cells h1.blk).1
  have zf := ckFault_any h1 t
  rw [he] at zf
  have HS := Lib.hid b1
  have BB := Lib.hid B1
  have HA := Lib.hid h1
  have hok := S.tick_ok h.ok (b := t)
  obtain ⟨⟨r1, r2⟩, ⟨r3, r4⟩, ⟨r5, r6⟩⟩ := btw_ok h1.ok
  obtain ⟨hn0, hf0⟩ := tickE_0.1 he
  unfold Ck.Neg at hn0
  unfold Full M at hf0
  have r7 : 0 ≤ t.a ∧ s.t.a + t.a ≤ 1099511627776 := by omega
  have r8 : 0 ≤ t.b ∧ s.t.b + t.b ≤ 1099511627776 := by omega
  have r9 : 0 ≤ t.c ∧ s.t.c + t.c ≤ 1099511627776 := by omega
  clear hn0 hf0
  have hst : s.tick t = s.go t := by unfold S.tick; rw [if_pos he]
  rw [hst] at hok ⊢
  have HO := Lib.hid hok
  have zb : ∀ wy, Calls Try.prog 18 #[.agg (t3Cells t).toArray, .int .i64 90, .int .i64 110] wy fun e w' => e = .returned (.bool (decide (Btw 90 110 t))) ∧ Below wy.heap.size wy w' := fun wy => areFrom_any t 90 110 (by decide) wy
  have hs : ∀ w, (sizeOf 3).run Try.prog w = .ok 1 w := fun w => by kernel_rfl
  have i0 := idx3 Try.underlying22 Try.underlying3 hs t 0 t.a rfl 0 rfl
  have i1 := idx3 Try.underlying22 Try.underlying3 hs t 1 t.b rfl 1 rfl
  have i2 := idx3 Try.underlying22 Try.underlying3 hs t 2 t.c rfl 2 rfl
  obtain ⟨xs, hxs⟩ : ∃ xs, xs = t3Cells t := ⟨_, rfl⟩
  have HX := Lib.hid hxs
  rw [← hxs] at hw1 zf i0 i1 i2 zb ⊢
  have n1 : IntKind.i64.wrap ((s.n : Int) + 1) = (s.n : Int) + 1 := IntWalk.i64_in _ (by omega)
  have HN := Lib.hid hn
  clear hxs b1 B1 h h1 he hs hok hst hn
  go_enter Try.func11, Try.ntmps11
  go_wp2_with fail
  rw [← hw1]
  clear hw1
  go_wp2_with (first
    | (go_at_call 19; (with_reducible refine zm.mono ?_); (rintro e w2 ⟨rfl, rfl⟩))
    | ((with_reducible refine atWorld w1 ?_); refine wpList_loadRow (w := w1) info_t3 rfl (.tmp 3) rfl w.heap.size 0 xs rfl (by rw [HX.out]; rfl) (rangeOf (by rw [HX.out]; exact HS.out)) ?_)
    | (go_at_call 20; (with_reducible refine zf.mono ?_); (rintro e w2 ⟨rfl, B2⟩; have b2 := Lib.hid (HS.out.below B2 HS.out.lt); have h2 := Lib.hid (HA.out.step B2); have C2 := Lib.hid (step_trans BB.out B2); clear B2))
    | ((with_reducible refine atWorld w2 ?_); refine wpList_loadRow (w := w2) info_t3 rfl (.tmp 3) rfl w.heap.size 0 xs rfl (by rw [HX.out]; rfl) (rangeOf (by rw [HX.out]; exact b2.out)) ?_))
  go_loopw [18] (fun ix wr => TkRel w b s t ix wr) (fun ix _ => 3 - vI ix)
  case atStart => exact ⟨0, .inl rfl, rfl, h2.out.blk, Frame.of_below C2.out, b2.out⟩
  case round =>
    obtain ⟨x, hx, rfl, r, F, g2⟩ := hrel
    obtain ⟨wd, hwd⟩ : ∃ wd, wd = { wr with drawn := wr.drawn + 1 } := ⟨_, rfl⟩
    have FD : Hid (Frame (OneB b) w wd) := Lib.hid (by rw [hwd]; exact ⟨F.os, F.tape, F.output, F.size, F.block⟩)
    have rd : BlkR 40 wd b (ckC b (pt s.t t x) s.kept s.n) := by rw [hwd]; exact r
    have gd : BlkR 22 wd w.heap.size (t3Cells t) := by rw [hwd]; exact g2
    have glt := gd.lt
    have HF := Lib.hid F
    clear F
    rcases hx with rfl | rfl | rfl | rfl
    · have hw : IntKind.i64.wrap (s.t.a + t.a) = s.t.a + t.a := IntWalk.i64_in _ (by omega)
      have y : wd.cell? ⟨b, 1, none⟩ = some (.int .i64 s.t.a) := rd.cell rfl
      have z := rd.frozen 1
      obtain ⟨q1, q2⟩ := ck_set rd 1 (.int .i64 (s.t.a + t.a))
      rw [pt_set (k := 0) (j := 0) (u := t) (v := s.t.a + t.a) rfl rfl] at q1
      have Q1 := Lib.hid q1
      have Q2 := Lib.hid (FD.out.trans q2 fun j e => .inl e)
      have Q3 := Lib.hid (((q2.block _ (by omega) hbg).trans gd : BlkR 22 _ w.heap.size (t3Cells t)))
      clear rd gd q1 q2 r g2
      go_wp2
      refine region_tail 11 (by kernel_rfl) (by kernel_rfl) wd hwd ?_
      clear hwd
      simp only [List.take_succ_cons, List.take_zero, List.drop_succ_cons, List.drop_zero]
      repeat still_step
      refine wpStill_nil ?_
      go_wp2
      exact ⟨⟨1, .inr (.inl rfl), rfl, Q1.out, Q2.out, Q3.out⟩, by decide⟩
    · have hw : IntKind.i64.wrap (s.t.b + t.b) = s.t.b + t.b := IntWalk.i64_in _ (by omega)
      have y : wd.cell? ⟨b, 2, none⟩ = some (.int .i64 s.t.b) := rd.cell rfl
      have z := rd.frozen 2
      obtain ⟨q1, q2⟩ := ck_set rd 2 (.int .i64 (s.t.b + t.b))
      rw [pt_set (k := 1) (j := 1) (u := t) (v := s.t.b + t.b) rfl rfl] at q1
      have Q1 := Lib.hid q1
      have Q2 := Lib.hid (FD.out.trans q2 fun j e => .inl e)
      have Q3 := Lib.hid (((q2.block _ (by omega) hbg).trans gd : BlkR 22 _ w.heap.size (t3Cells t)))
      clear rd gd q1 q2 r g2
      go_wp2
      refine region_tail 11 (by kernel_rfl) (by kernel_rfl) wd hwd ?_
      clear hwd
      simp only [List.take_succ_cons, List.take_zero, List.drop_succ_cons, List.drop_zero]
      repeat still_step
      refine wpStill_nil ?_
      go_wp2
      exact ⟨⟨2, .inr (.inr (.inl rfl)), rfl, Q1.out, Q2.out, Q3.out⟩, by decide⟩
    · have hw : IntKind.i64.wrap (s.t.c + t.c) = s.t.c + t.c := IntWalk.i64_in _ (by omega)
      have y : wd.cell? ⟨b, 3, none⟩ = some (.int .i64 s.t.c) := rd.cell rfl
      have z := rd.frozen 3
      obtain ⟨q1, q2⟩ := ck_set rd 3 (.int .i64 (s.t.c + t.c))
      rw [pt_set (k := 2) (j := 2) (u := t) (v := s.t.c + t.c) rfl rfl] at q1
      have Q1 := Lib.hid q1
      have Q2 := Lib.hid (FD.out.trans q2 fun j e => .inl e)
      have Q3 := Lib.hid (((q2.block _ (by omega) hbg).trans gd : BlkR 22 _ w.heap.size (t3Cells t)))
      clear rd gd q1 q2 r g2
      go_wp2
      refine region_tail 11 (by kernel_rfl) (by kernel_rfl) wd hwd ?_
      clear hwd
      simp only [List.take_succ_cons, List.take_zero, List.drop_succ_cons, List.drop_zero]
      repeat still_step
      refine wpStill_nil ?_
      go_wp2
      exact ⟨⟨3, .inr (.inr (.inr rfl)), rfl, Q1.out, Q2.out, Q3.out⟩, by decide⟩
    · rw [pt_3] at rd r
      obtain ⟨D, hD⟩ : ∃ D, D = decide (Btw 90 110 t) := ⟨_, rfl⟩
      rw [← hD] at zb
      have HG := Lib.hid (show s.go t = ⟨s.t.plus t, s.kept && D, s.n + 1⟩ by unfold S.go; rw [← hD])
      have HR := Lib.hid r
      have HX2 := Lib.hid (show BlkR 22 wr w.heap.size xs by rw [HX.out]; exact g2)
      obtain ⟨_, _, _, _, c4, c5⟩ := ck_cells r
      have f4 := r.frozen 4
      have f5 := r.frozen 5
      clear rd gd hwd g2 r hD FD b2 h2 C2
      cases hk : s.kept
      · rw [hk] at c4
        have HK := Lib.hid hk
        clear hk
        have e0 := Lib.hid ((ck_end (x := (s.n : Int) + 1) (k2 := false) rfl HR.out))
        go_wp2
        go_ret
        refine ⟨rfl, ⟨?_, HO.out⟩, HF.out.trans e0.out.2 fun j e => .inl e⟩
        rw [HG.out, HK.out, Bool.false_and]
        exact e0.out.1
      · rw [hk] at c4
        have HK := Lib.hid hk
        clear hk
        have zb3 : Calls Try.prog 18 #[.agg #[.int .i64 t.a, .int .i64 t.b, .int .i64 t.c], .int .i64 90, .int .i64 110] wr fun e w' => e = .returned (.bool D) ∧ Below wr.heap.size wr w' := by
          have := zb wr
          rw [HX.out] at this
          exact this
        have x0 : wr.cell? ⟨w.heap.size, 0, none⟩ = some (.int .i64 t.a) := HX2.out.cell (by rw [HX.out]; rfl)
        have x1 : wr.cell? ⟨w.heap.size, 1, none⟩ = some (.int .i64 t.b) := HX2.out.cell (by rw [HX.out]; rfl)
        have x2 : wr.cell? ⟨w.heap.size, 2, none⟩ = some (.int .i64 t.c) := HX2.out.cell (by rw [HX.out]; rfl)
        clear zb
        go_wp2_with (first
          | (go_at_call 18; (with_reducible refine zb3.mono ?_); (rintro e w4 ⟨rfl, B4⟩; have r4 := HR.out.below B4 HR.out.lt; have e4 := Lib.hid (ck_end (x := (s.n : Int) + 1) (k2 := D) rfl r4); obtain ⟨_, _, _, _, d4, d5⟩ := ck_cells r4; have g4 := r4.frozen 4; have g5 := r4.frozen 5; have B4 := Lib.hid B4; clear r4)))
        go_ret
        refine ⟨rfl, ⟨?_, HO.out⟩, (HF.out.trans (Frame.of_below (F := OneB b) B4.out) fun j e => .inl e).trans e4.out.2 fun j e => .inl e⟩
        rw [HG.out, HK.out, Bool.true_and]
        exact e4.out.1
/-- a tick -/
theorem ckTick_any (h : CkAt w b s) (t : T3) (hn : s.n ≤ 4611686018427387904) : Calls Try.prog 11 #[.pointer (some ⟨b, 0, none⟩), .agg (t3Cells t).toArray] w fun e w' => e = .returned (.int .i64 (s.tickE t)) ∧ CkAt w' b (s.tick t) ∧ Frame (OneB b) w w' := by
  by_cases he : s.tickE t = 0
  · have := ckTick_ok h t he hn
    rw [he]
    exact this
  · exact ckTick_no h t he
set_option maxRecDepth 100000 in
theorem ckNew_no (t : T3) (he : ¬ Btw 0 M t) (w : World) : Calls Try.prog 8 #[.agg (t3Cells t).toArray] w fun e w' => e = .returned (.tuple #[.pointer none, .int .i64 5]) ∧ Below w.heap.size w w' := by
  obtain ⟨w1, hw1⟩ : ∃ w1, w1 = w.alloc (.cells (t3Cells t).toArray 22) := ⟨_, rfl⟩
  have B1 : Below w.heap.size w w1 := by rw [hw1]; exact step_alloc (Below.refl _ w) _
  have b1 : BlkR 22 w1 w.heap.size (t3Cells t) := by rw [hw1]; exact BlkR.new w _ _
  have HS := Lib.hid b1
  have BB := Lib.hid B1
  have zb : Calls Try.prog 18 #[.agg (t3Cells t).toArray, .int .i64 0, .int .i64 1099511627776] w1 fun e w' => e = .returned (.bool false) ∧ Below w1.heap.size w1 w' := by
    have := areFrom_any t 0 1099511627776 (by decide) w1
    rwa [decide_eq_false (show ¬ Btw 0 1099511627776 t from he)] at this
  obtain ⟨xs, hxs⟩ : ∃ xs, xs = t3Cells t := ⟨_, rfl⟩
  have HX := Lib.hid hxs
  rw [← hxs] at hw1 zb ⊢
  clear hxs b1 B1 he
  go_enter Try.func8, Try.ntmps8
  go_wp2_with (first
    | ((with_reducible refine atWorld (w.alloc (.cells xs.toArray 22)) ?_); rw [← hw1]; clear hw1; refine wpList_loadRow (w := w1) info_t3 rfl (.tmp 1) rfl w.heap.size 0 xs rfl (by rw [HX.out]; rfl) (rangeOf (by rw [HX.out]; exact HS.out)) ?_)
    | (go_at_call 18; (with_reducible refine zb.mono ?_); (rintro e w2 ⟨rfl, B2⟩)))
  go_ret2
  exact ⟨rfl, step_trans BB.out B2⟩
/-- new clocks at g -/
def NewPost (t : T3) (w : World) (e : Ending) (w' : World) : Prop := ∃ g, e = .returned (.tuple #[.pointer (some ⟨g, 0, none⟩), .int .i64 0]) ∧ CkAt w' g (new t) ∧ w.heap.size ≤ g ∧ Below w.heap.size w w'
set_option maxRecDepth 100000 in
theorem ckNew_yes (t : T3) (he : Btw 0 M t) (w : World) : Calls Try.prog 8 #[.agg (t3Cells t).toArray] w (NewPost t w) := by
  obtain ⟨w1, hw1⟩ : ∃ w1, w1 = w.alloc (.cells (t3Cells t).toArray 22) := ⟨_, rfl⟩
  have B1 : Below w.heap.size w w1 := by rw [hw1]; exact step_alloc (Below.refl _ w) _
  have b1 : BlkR 22 w1 w.heap.size (t3Cells t) := by rw [hw1]; exact BlkR.new w _ _
  have HS := Lib.hid b1
  have BB := Lib.hid B1
  have HE := Lib.hid he
  have zb : Calls Try.prog 18 #[.agg (t3Cells t).toArray, .int .i64 0, .int .i64 1099511627776] w1 fun e w' => e = .returned (.bool true) ∧ Below w1.heap.size w1 w' := by
    have := areFrom_any t 0 1099511627776 (by decide) w1
    rwa [decide_eq_true (show Btw 0 1099511627776 t from he)] at this
  obtain ⟨xs, hxs⟩ : ∃ xs, xs = t3Cells t := ⟨_, rfl⟩
  have HX := Lib.hid hxs
  rw [← hxs] at hw1 zb ⊢
  clear hxs b1 B1 he
  go_enter Try.func8, Try.ntmps8
  go_wp2_with (first
    | ((with_reducible refine atWorld (w.alloc (.cells xs.toArray 22)) ?_); rw [← hw1]; clear hw1; refine wpList_loadRow (w := w1) info_t3 rfl (.tmp 1) rfl w.heap.size 0 xs rfl (by rw [HX.out]; rfl) (rangeOf (by rw [HX.out]; exact HS.out)) ?_)
    | (go_at_call 18; (with_reducible refine zb.mono ?_); (rintro e w2 ⟨rfl, B2⟩; have x := HS.out.below B2 HS.out.lt; have x0 := x.cell (k := 0) rfl; have x1 := x.cell (k := 1) rfl; have x2 := x.cell (k := 2) rfl; have C2 := Lib.hid (step_trans BB.out B2); clear x B2)))
  go_ret2
  exact ⟨w2.heap.size, rfl, ⟨BlkR.new w2 (ckC w2.heap.size t true 0) _, HE.out⟩, C2.out.size, step_alloc C2.out _⟩
end
end Go.Proofs.Ytfopjilncfndnaa
