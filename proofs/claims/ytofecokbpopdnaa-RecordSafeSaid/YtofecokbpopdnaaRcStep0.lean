/-
  RecordSafe: a step of kind 0: a data node stands. Conditions: none.
-/
import Derived.Test.YtofecokbpopdnaaRcWd
namespace Go.Proofs.Ytofecokbpopdnaa
open Go.RowKit Rc

/-- what a step leaves -/
def StpP (w0 : World) (g i : Nat) (e : Ending) (w' : World) : Prop := e = .returned (.bool true) ∧ ∃ (r : Nat → R) (h : Nat → Bool) (p t : Int) (no sa : Bool), Wm w0 g r h p t no sa w' ∧ Inv i r h p t no sa
theorem Rc.Inv.set64 {i : Nat} {r : Nat → R} {h : Nat → Bool} {p t : Int} {no sa : Bool} (I : Inv i r h p t no sa) {k : Nat} (hk : k < 3) : I64 (r k).s := by
  have := (I.ok k hk).2.2.2.2
  unfold Set3 at this
  unfold I64
  omega
theorem wrap_1p {q : Nat} (hq : q < 2) : IntKind.i64.wrap (1 + (q : Int)) = 1 + (q : Int) := IntWalk.i64_in _ (by omega)
theorem wrap_1m {q : Nat} (hq : q < 2) : IntKind.i64.wrap (1 - (q : Int)) = ((1 - q : Nat) : Int) := (IntWalk.i64_in _ (by omega)).trans (by omega)
section
variable {w0 w w' : World} {g k : Nat} {r : Nat → R} {h : Nat → Bool} {p t : Int} {no sa : Bool}
theorem Wm.two (K : Wm w0 g r h p t no sa w) {i j : Nat} (hi : i < 3) (hj : j < 3) : (w.cell? ⟨g, i * 3, none⟩ = some (.int .i64 (r i).t) ∧ w.cell? ⟨g, i * 3 + 1, none⟩ = some (.int .i64 (r i).n) ∧ w.cell? ⟨g, i * 3 + 2, none⟩ = some (.int .i64 (r i).s)) ∧ (w.cell? ⟨g, j * 3, none⟩ = some (.int .i64 (r j).t) ∧ w.cell? ⟨g, j * 3 + 1, none⟩ = some (.int .i64 (r j).n) ∧ w.cell? ⟨g, j * 3 + 2, none⟩ = some (.int .i64 (r j).s)) := ⟨K.rec3 hi, K.rec3 hj⟩
theorem Wm.p_ (K : Wm w0 g r h p t no sa w) {xs : List Value} {p' : Int} (b : BlkR 43 w' g xs) (e : xs = (wdC r h p t no sa).set 11 (.int .i64 p')) (B : Below g w w') : Wm w0 g r h p' t no sa w' := K.put b e B
theorem Wm.t_ (K : Wm w0 g r h p t no sa w) {xs : List Value} {t' : Int} (b : BlkR 43 w' g xs) (e : xs = (wdC r h p t no sa).set 12 (.int .i64 t')) (B : Below g w w') : Wm w0 g r h p t' no sa w' := K.put b e B
theorem Wm.no_ (K : Wm w0 g r h p t no sa w) {xs : List Value} {x : Bool} (b : BlkR 43 w' g xs) (e : xs = (wdC r h p t no sa).set 13 (.bool x)) (B : Below g w w') : Wm w0 g r h p t x sa w' := K.put b e B
theorem Wm.sa_ (K : Wm w0 g r h p t no sa w) {xs : List Value} {x : Bool} (b : BlkR 43 w' g xs) (e : xs = (wdC r h p t no sa).set 14 (.bool x)) (B : Below g w w') : Wm w0 g r h p t no x w' := K.put b e B
end
set_option maxRecDepth 100000 in
set_option maxHeartbeats 4000000 in
theorem step0 {w0 w : World} {g i : Nat} {r : Nat → R} {h : Nat → Bool} {p t : Int} {no sa : Bool} (K : Wm w0 g r h p t no sa w) (I : Inv i r h p t no sa) (hi : i < 200) (a b c : Int) (kw : IntKind.i64.wrap (a.tmod 6 + 6) = a.tmod 6 + 6) (kt : (a.tmod 6 + 6).tmod 6 = 0) :
    Calls Try.prog 22 #[.pointer (some ⟨g, 0, none⟩), .agg #[.int .i64 a, .int .i64 b, .int .i64 c]] w (StpP w0 g (i + 1)) := by
  obtain ⟨nd, hnd, en⟩ := and_one b
  obtain ⟨vt, hvt, vw, ve⟩ := mod_nat c 3 3 rfl (by decide) (by decide)
  obtain ⟨w1, hw1⟩ : ∃ w1, w1 = w.alloc (.cells #[.int .i64 a, .int .i64 b, .int .i64 c] 46) := ⟨_, rfl⟩
  have K1 : Wm w0 g r h p t no sa w1 := by rw [hw1]; exact K.step (step_alloc (Below.refl _ w) _)
  have b1 : BlkR 46 w1 w.heap.size [.int .i64 a, .int .i64 b, .int .i64 c] := by rw [hw1]; exact BlkR.new w [.int .i64 a, .int .i64 b, .int .i64 c] _
  have y0 := b1.cell (k := 0) (u := .int .i64 a) rfl
  have y1 := b1.cell (k := 1) (u := .int .i64 b) rfl
  have y2 := b1.cell (k := 2) (u := .int .i64 c) rfl
  have H1 := Lib.hid (And.intro K1 b1)
  have HI := Lib.hid (And.intro I hi)
  have HN := Lib.hid (And.intro hnd hvt)
  have ln : (nd : Int) < 3 := by omega
  have ln2 : (nd : Int) < 2 := by omega
  have lv : (vt : Int) < 3 := by omega
  rw [hw1] at y0 y1 y2
  clear K K1 b1 I hi hnd hvt
  go_enter Try.func22, Try.ntmps22
  go_wp2
  go_quiet (fail)
  obtain ⟨w5, h5⟩ : ∃ w5, w5 = (w.alloc (.cells #[.int .i64 a, .int .i64 b, .int .i64 c] 46)).drewN nq := ⟨_, rfl⟩
  have K5 : Wm w0 g r h p t no sa w5 := by rw [h5, ← hw1]; exact H1.out.1.step (belowN (Below.refl _ w1) nq)
  have x0 : w5.cell? ⟨w.heap.size, 0, none⟩ = some (.int .i64 a) := by rw [h5]; exact y0
  rw [← h5]
  clear h5 y0 y1 y2 hw1 H1 en vw ve
  obtain ⟨c11, c12, c13, c14⟩ := K5.own
  by_cases e : vt = nd
  · have l0 : ((vt : Int) == (nd : Int)) = true := by simp [e]
    have HK := Lib.hid K5
    clear K5 e
    go_wp2
    go_quiet (fail)
    go_wp2
    go_ret
    exact ⟨rfl, _, _, _, _, _, _, HK.out.step (belowN (Below.refl _ w5) _), HI.out.1.stay⟩
  · have l0 : ((vt : Int) == (nd : Int)) = false := by simp; omega
    have hn3 : nd < 3 := by have := HN.out.1; omega
    have K5d := K5.step (Below.refl _ w5).drew
    obtain ⟨⟨a0, a1, a2⟩, b0, b1, b2⟩ := K5d.two hn3 HN.out.2
    have S0 := K5d.two hn3 HN.out.2
    have zm := rcMay_any (r nd).t (r nd).n (r nd).s (r vt).t (r vt).n (r vt).s nd (HI.out.1.set64 hn3) (HI.out.1.set64 HN.out.2) w5.drew
    have HK := Lib.hid (And.intro K5d (And.intro e hn3))
    clear K5 K5d e hn3
    by_cases m : May ⟨(r nd).t, (r nd).n, (r nd).s⟩ (nd : Int) ⟨(r vt).t, (r vt).n, (r vt).s⟩
    · rw [decide_eq_true m] at zm
      have HH := Lib.hid (HI.out.1.may HN.out.1 HN.out.2 HK.out.2.1 m)
      clear m
      go_wp2
      go_region_held3 (fun w' => (w'.cell? ⟨g, nd * 3, none⟩ = some (.int .i64 (r nd).t) ∧ w'.cell? ⟨g, nd * 3 + 1, none⟩ = some (.int .i64 (r nd).n) ∧ w'.cell? ⟨g, nd * 3 + 2, none⟩ = some (.int .i64 (r nd).s)) ∧ (w'.cell? ⟨g, vt * 3, none⟩ = some (.int .i64 (r vt).t) ∧ w'.cell? ⟨g, vt * 3 + 1, none⟩ = some (.int .i64 (r vt).n) ∧ w'.cell? ⟨g, vt * 3 + 2, none⟩ = some (.int .i64 (r vt).s))) (first | exact S0 | assumption) (first
        | (go_at_call 15; (with_reducible refine zm.mono ?_); (rintro e w7 ⟨rfl, B7⟩; have K7 := HK.out.1.step B7; have S7 := K7.two HK.out.2.2 HN.out.2; obtain ⟨d11, d12, d13, d14⟩ := K7.own; have b7 := K7.blk; have K7 := Lib.hid K7; clear B7)))
      obtain ⟨t1, ht1⟩ : ∃ t1, t1 = t + 1 := ⟨_, rfl⟩
      have wt : IntKind.i64.wrap (t + 1) = t1 := (IntWalk.i64_in _ (by have := HI.out.1.t0; have := HI.out.2; omega)).trans ht1.symm
      have HT := Lib.hid ht1
      clear ht1
      go_wp2_with (first
        | ((with_reducible refine atWorld w7 ?_); refine wpList_storeCell (w := w7) rfl 3 (.tmp 70) (.tmp 68) rfl (.int .i64 (nd : Int)) rfl rfl b7 (show 11 < 15 by decide) (by kernel_rfl) rfl ?_; (intro w8 b8 B8 s8 x8; have K8 := K7.out.p_ b8 rfl B8; obtain ⟨d11, d12, d13, d14⟩ := K8.own; have b8 := K8.blk; have K8 := Lib.hid K8; clear B8 s8 x8))
        | ((with_reducible refine atWorld w8 ?_); refine wpList_storeCell (w := w8) rfl 3 (.tmp 77) (.tmp 75) rfl (.int .i64 t1) rfl rfl b8 (show 12 < 15 by decide) (by kernel_rfl) rfl ?_; (intro w9 b9 B9 s9 x9; have K9 := K8.out.t_ b9 rfl B9; obtain ⟨d11, d12, d13, d14⟩ := K9.own; have b9 := K9.blk; have K9 := Lib.hid K9; clear B9 s9 x9))
        | ((with_reducible refine atWorld w9 ?_); refine wpList_storeCell (w := w9) rfl 4 (.tmp 80) (.const (.bool false)) rfl (.bool false) rfl rfl b9 (show 14 < 15 by decide) (by kernel_rfl) rfl ?_; (intro w10 b10 B10 s10 x10; have K10 := K9.out.sa_ b10 rfl B10; have d15 := K10.has2 HN.out.1; rw [HH.out] at d15; obtain ⟨d16, d17, d18⟩ := K10.rec3 HK.out.2.2; have zs := set_any (s := (r nd).s) (x := ⟨t + 1, 0, (r nd).s⟩) K10 HN.out.1 rfl (HI.out.1.set64 HK.out.2.2) (HI.out.1.set64 HK.out.2.2) (by rw [HT.out]; exact (HI.out.1.next0 HI.out.2 HK.out.2.2).1) (by rw [HT.out]; exact (HI.out.1.next0 HI.out.2 HK.out.2.2).2); clear K10 B10 s10 x10))
        | (go_at_call 29; (with_reducible refine zs.mono ?_); (rintro e w11 ⟨rfl, K11⟩; have K11 := Lib.hid K11)))
      go_ret
      exact ⟨rfl, _, _, _, _, _, _, K11.out, HT.out ▸ HI.out.1.stand HN.out.1 HH.out⟩
    · rw [decide_eq_false m] at zm
      clear m
      go_wp2
      go_region_held3 (fun w' => (w'.cell? ⟨g, nd * 3, none⟩ = some (.int .i64 (r nd).t) ∧ w'.cell? ⟨g, nd * 3 + 1, none⟩ = some (.int .i64 (r nd).n) ∧ w'.cell? ⟨g, nd * 3 + 2, none⟩ = some (.int .i64 (r nd).s)) ∧ (w'.cell? ⟨g, vt * 3, none⟩ = some (.int .i64 (r vt).t) ∧ w'.cell? ⟨g, vt * 3 + 1, none⟩ = some (.int .i64 (r vt).n) ∧ w'.cell? ⟨g, vt * 3 + 2, none⟩ = some (.int .i64 (r vt).s))) (first | exact S0 | assumption) (first
        | (go_at_call 15; (with_reducible refine zm.mono ?_); (rintro e w7 ⟨rfl, B7⟩; have K7 := HK.out.1.step B7; have S7 := K7.two HK.out.2.2 HN.out.2; have K7 := Lib.hid K7; clear B7)))
      go_wp2
      go_ret
      exact ⟨rfl, _, _, _, _, _, _, K7.out, HI.out.1.stay⟩
end Go.Proofs.Ytofecokbpopdnaa
