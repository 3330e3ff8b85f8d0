/-
  RecordSafe: a step of kind 3: the other one is made the same. Conditions: none.
-/
import Derived.Test.YtofecokbpopdnaaRcStep0
namespace Go.Proofs.Ytofecokbpopdnaa
open Go.RowKit Rc

set_option maxRecDepth 100000 in
set_option maxHeartbeats 4000000 in
theorem step3 {w0 w : World} {g i : Nat} {r : Nat → R} {h : Nat → Bool} {p t : Int} {no sa : Bool} (K : Wm w0 g r h p t no sa w) (I : Inv i r h p t no sa) (hi : i < 200) (a b c : Int) (kw : IntKind.i64.wrap (a.tmod 6 + 6) = a.tmod 6 + 6) (kt : (a.tmod 6 + 6).tmod 6 = 3) :
    Calls Try.prog 22 #[.pointer (some ⟨g, 0, none⟩), .agg #[.int .i64 a, .int .i64 b, .int .i64 c]] w (StpP w0 g (i + 1)) := by
  obtain ⟨nd, hnd, en⟩ := and_one b
  obtain ⟨vt, hvt, vw, ve⟩ := mod_nat c 3 3 rfl (by decide) (by decide)
  obtain ⟨w1, hw1⟩ : ∃ w1, w1 = w.alloc (.cells #[.int .i64 a, .int .i64 b, .int .i64 c] 46) := ⟨_, rfl⟩
  have K1 : Wm w0 g r h p t no sa w1 := by rw [hw1]; exact K.step (step_alloc (Below.refl _ w) _)
  have b1 : BlkR 46 w1 w.heap.size [.int .i64 a, .int .i64 b, .int .i64 c] := by rw [hw1]; exact BlkR.new w [.int .i64 a, .int .i64 b, .int .i64 c] _
  have y0 := b1.cell (k := 0) (u := .int .i64 a) rfl
  have y1 := b1.cell (k := 1) (u := .int .i64 b) rfl
  have y2 := b1.cell (k := 2) (u := .int .i64 c) rfl
  have H1 := Lib.hid (And.intro K1 b1)
  have HI := Lib.hid (And.intro I hi)
  have HN := Lib.hid (And.intro hnd hvt)
  have ln : (nd : Int) < 3 := by omega
  have ln2 : (nd : Int) < 2 := by omega
  have lv : (vt : Int) < 3 := by omega
  rw [hw1] at y0 y1 y2
  clear K K1 b1 I hi hnd hvt
  go_enter Try.func22, Try.ntmps22
  go_wp2
  go_quiet (fail)
  obtain ⟨w5, h5⟩ : ∃ w5, w5 = (w.alloc (.cells #[.int .i64 a, .int .i64 b, .int .i64 c] 46)).drewN nq := ⟨_, rfl⟩
  have K5 : Wm w0 g r h p t no sa w5 := by rw [h5, ← hw1]; exact H1.out.1.step (belowN (Below.refl _ w1) nq)
  have x0 : w5.cell? ⟨w.heap.size, 0, none⟩ = some (.int .i64 a) := by rw [h5]; exact y0
  rw [← h5]
  clear h5 y0 y1 y2 hw1 H1 en vw ve
  obtain ⟨c11, c12, c13, c14⟩ := K5.own
  rcases HI.out.1.pp with e | ⟨q, hq, e⟩
  · subst e
    have HK := Lib.hid K5
    clear K5
    go_wp2
    go_ret
    exact ⟨rfl, _, _, _, _, _, _, HK.out, HI.out.1.stay⟩
  · subst e
    have l1 : (q : Int) ≥ 0 := by omega
    have l2 : (q : Int) < 2 := by omega
    have l6 := wrap_1m hq
    have l7 : ((1 - q : Nat) : Int) < 2 := by omega
    have l8 : (0 : Int) ≤ ((1 - q : Nat) : Int) := by omega
    have lk := Lib.hid (show 9 + (1 - q) < 15 by omega)
    obtain ⟨wd, hwd⟩ : ∃ wd, wd = { w5 with drawn := w5.drawn + 1 } := ⟨_, rfl⟩
    have Kd : Wm w0 g r h q t no sa wd := by rw [hwd]; exact K5.step (Below.refl _ w5).drew
    have d9 := Kd.has2 hq
    have HQ := Lib.hid hq
    have HK := Lib.hid Kd
    have bd := Kd.blk
    obtain ⟨m, hm⟩ : ∃ m, m = 1 - q := ⟨_, rfl⟩
    have HM := Lib.hid hm
    rw [← hm] at l6 l7 l8 lk
    clear K5 Kd hq hm
    go_wp2
    refine region_tail 12 (by kernel_rfl) (by kernel_rfl) wd hwd ?_
    clear hwd
    simp only [List.take_succ_cons, List.take_zero, List.drop_succ_cons, List.drop_zero]
    repeat still_step
    refine wpStill_nil ?_
    go_wp2_with (first
      | ((with_reducible refine atWorld wd ?_); refine wpList_storeCell (w := wd) rfl 4 (.tmp 199) (.tmp 196) rfl (.bool (h q)) rfl rfl bd lk.out (by kernel_rfl) rfl ?_; (intro w8 b8 B8 s8 x8; have K8 := HK.out.put b8 (by rw [HM.out]; exact wd_has (h q) (by have := HQ.out; omega)) B8; obtain ⟨d11, d12, d13, d14⟩ := K8.own; have b8 := K8.blk; have K8 := Lib.hid K8; clear B8 s8 x8))
      | ((with_reducible refine atWorld w8 ?_); refine wpList_storeCell (w := w8) rfl 4 (.tmp 202) (.const (.bool true)) rfl (.bool true) rfl rfl b8 (show 14 < 15 by decide) (by kernel_rfl) rfl ?_; (intro w9 b9 B9 s9 x9; have K9 := Lib.hid (K8.out.sa_ b9 rfl B9); clear b9 B9 s9 x9)))
    go_ret
    exact ⟨rfl, _, _, _, _, _, _, K9.out, HI.out.1.same HQ.out rfl⟩
end Go.Proofs.Ytofecokbpopdnaa
