/-
  RecordSafe: a step of kind 4: it goes on alone. Conditions: none.
-/
import Derived.Test.YtofecokbpopdnaaRcStep0
namespace Go.Proofs.Ytofecokbpopdnaa
open Go.RowKit Rc

set_option maxRecDepth 100000 in
set_option maxHeartbeats 4000000 in
theorem step4 {w0 w : World} {g i : Nat} {r : Nat → R} {h : Nat → Bool} {p t : Int} {no sa : Bool} (K : Wm w0 g r h p t no sa w) (I : Inv i r h p t no sa) (hi : i < 200) (a b c : Int) (kw : IntKind.i64.wrap (a.tmod 6 + 6) = a.tmod 6 + 6) (kt : (a.tmod 6 + 6).tmod 6 = 4) :
    Calls Try.prog 22 #[.pointer (some ⟨g, 0, none⟩), .agg #[.int .i64 a, .int .i64 b, .int .i64 c]] w (StpP w0 g (i + 1)) := by
  obtain ⟨nd, hnd, en⟩ := and_one b
  obtain ⟨vt, hvt, vw, ve⟩ := mod_nat c 3 3 rfl (by decide) (by decide)
  obtain ⟨w1, hw1⟩ : ∃ w1, w1 = w.alloc (.cells #[.int .i64 a, .int .i64 b, .int .i64 c] 46) := ⟨_, rfl⟩
  have K1 : Wm w0 g r h p t no sa w1 := by rw [hw1]; exact K.step (step_alloc (Below.refl _ w) _)
  have b1 : BlkR 46 w1 w.heap.size [.int .i64 a, .int .i64 b, .int .i64 c] := by rw [hw1]; exact BlkR.new w [.int .i64 a, .int .i64 b, .int .i64 c] _
  have y0 := b1.cell (k := 0) (u := .int .i64 a) rfl
  have y1 := b1.cell (k := 1) (u := .int .i64 b) rfl
  have y2 := b1.cell (k := 2) (u := .int .i64 c) rfl
  have H1 := Lib.hid (And.intro K1 b1)
  have HI := Lib.hid (And.intro I hi)
  have HN := Lib.hid (And.intro hnd hvt)
  have ln : (nd : Int) < 3 := by omega
  have ln2 : (nd : Int) < 2 := by omega
  have lv : (vt : Int) < 3 := by omega
  rw [hw1] at y0 y1 y2
  clear K K1 b1 I hi hnd hvt
  go_enter Try.func22, Try.ntmps22
  go_wp2
  go_quiet (fail)
  obtain ⟨w5, h5⟩ : ∃ w5, w5 = (w.alloc (.cells #[.int .i64 a, .int .i64 b, .int .i64 c] 46)).drewN nq := ⟨_, rfl⟩
  have K5 : Wm w0 g r h p t no sa w5 := by rw [h5, ← hw1]; exact H1.out.1.step (belowN (Below.refl _ w1) nq)
  have x0 : w5.cell? ⟨w.heap.size, 0, none⟩ = some (.int .i64 a) := by rw [h5]; exact y0
  rw [← h5]
  clear h5 y0 y1 y2 hw1 H1 en vw ve
  obtain ⟨c11, c12, c13, c14⟩ := K5.own
  rcases HI.out.1.pp with e | ⟨q, hq, e⟩
  · subst e
    have HK := Lib.hid K5
    clear K5
    go_wp2
    go_ret
    exact ⟨rfl, _, _, _, _, _, _, HK.out, HI.out.1.stay⟩
  · subst e
    have l1 : (q : Int) ≥ 0 := by omega
    have l2 : (q : Int) < 3 := by omega
    have l2' : (q : Int) < 2 := by omega
    have HQ := Lib.hid hq
    have H3 := Lib.hid (show q < 3 by omega)
    obtain ⟨a0, a1, a2⟩ := K5.rec3 H3.out
    by_cases e : (r q).s = 3
    · have l5 : ((r q).s == 3) = true := by simp [e]
      have l4 := wrap_1p hq
      have s3 : Set3 (1 + (q : Int)) := by unfold Set3; omega
      have zs := set_any (s := 1 + (q : Int)) (x := ⟨t, (r q).n + 1, 1 + (q : Int)⟩) K5 hq rfl (HI.out.1.set64 H3.out) (i64_3 (by omega)) (HI.out.1.nextp HI.out.2 hq rfl s3).1 (HI.out.1.nextp HI.out.2 hq rfl s3).2
      have FIN := Lib.hid (HI.out.1.set hq rfl s3 (HI.out.1.both hq rfl e))
      clear K5 hq e s3
      go_wp2_with (go_at_call 29; (with_reducible refine zs.mono ?_); (rintro e w11 ⟨rfl, K11⟩; have K11 := Lib.hid K11))
      go_ret
      exact ⟨rfl, _, _, _, _, _, _, K11.out, FIN.out⟩
    · have l5 : ((r q).s == 3) = false := by simp [e]
      have HK := Lib.hid K5
      clear K5 hq e
      go_wp2
      go_ret
      exact ⟨rfl, _, _, _, _, _, _, HK.out, HI.out.1.stay⟩
end Go.Proofs.Ytofecokbpopdnaa
