/-
  The walks of RecordTells and RecordNexts. Conditions: sets are ints of 64 bits.
-/
import Derived.Test.YtofecokbpopdnaaRcLaw
namespace Go.Proofs.Ytofecokbpopdnaa
open Go.RowKit Rc

set_option maxRecDepth 100000 in
set_option maxHeartbeats 1000000 in
theorem rcTells_any (a b s c d u n : Int) (hs : I64 s) (hu : I64 u) (w : World) : Calls Try.prog 3 #[.agg #[.int .i64 a, .int .i64 b, .int .i64 s], .agg #[.int .i64 c, .int .i64 d, .int .i64 u], .int .i64 n] w (Tlb true w) := by
  have K := Bx2.new w a b s c d u
  have Kd := K.step (Below.refl _ _).drew
  obtain ⟨y0, y1, y2, y3, y4, y5⟩ := K.cc
  obtain ⟨d0, d1, d2, d3, d4, d5⟩ := Kd.cc
  have z1 := fun wx (K : Bx2 w w.heap.size (w.heap.size + 1) a b s c d u wx) => K.num (rcCheck_any a b s hs wx)
  have z2 := fun wx (K : Bx2 w w.heap.size (w.heap.size + 1) a b s c d u wx) => K.num (rfCheck_any a b s wx)
  have z3 := fun wx (K : Bx2 w w.heap.size (w.heap.size + 1) a b s c d u wx) => K.say (rcNewer_any a b s c d u wx)
  have z4 := fun wx (K : Bx2 w w.heap.size (w.heap.size + 1) a b s c d u wx) => K.say (rfNewer_any a b s c d u wx)
  have z5 := fun wx (K : Bx2 w w.heap.size (w.heap.size + 1) a b s c d u wx) => K.say (rcHas_any a b s n wx)
  have z6 := fun wx (K : Bx2 w w.heap.size (w.heap.size + 1) a b s c d u wx) => K.say (rfHas_any a b s n wx)
  have z7 := fun wx (K : Bx2 w w.heap.size (w.heap.size + 1) a b s c d u wx) => K.say (rcMay_any a b s c d u n hs hu wx)
  have z8 := fun wx (K : Bx2 w w.heap.size (w.heap.size + 1) a b s c d u wx) => K.say (rfMay_any a b s c d u n wx)
  have z9 := fun wx (K : Bx2 w w.heap.size (w.heap.size + 1) a b s c d u wx) => K.say (awake_any wx)
  obtain ⟨k, hk⟩ : ∃ k, k = errN ⟨a, b, s⟩ := ⟨_, rfl⟩
  obtain ⟨r1, h1⟩ : ∃ r, r = decide (New ⟨a, b, s⟩ ⟨c, d, u⟩) := ⟨_, rfl⟩
  obtain ⟨r2, h2⟩ : ∃ r, r = decide (Has s n) := ⟨_, rfl⟩
  obtain ⟨r3, h3⟩ : ∃ r, r = decide (May ⟨a, b, s⟩ n ⟨c, d, u⟩) := ⟨_, rfl⟩
  simp only [← hk] at z1 z2
  simp only [← h1] at z3 z4
  simp only [← h2] at z5 z6
  simp only [← h3] at z7 z8
  clear hk h1 h2 h3 hs hu
  go_enter Try.func3, Try.ntmps3
  go_wp2
  go_region_held3 (fun w' => w'.cell? ⟨w.heap.size, 0, none⟩ = some (.int .i64 a) ∧ w'.cell? ⟨w.heap.size, 1, none⟩ = some (.int .i64 b) ∧ w'.cell? ⟨w.heap.size, 2, none⟩ = some (.int .i64 s) ∧ w'.cell? ⟨w.heap.size + 1, 0, none⟩ = some (.int .i64 c) ∧ w'.cell? ⟨w.heap.size + 1, 1, none⟩ = some (.int .i64 d) ∧ w'.cell? ⟨w.heap.size + 1, 2, none⟩ = some (.int .i64 u)) (first | exact ⟨d0, d1, d2, d3, d4, d5⟩ | assumption) (first
    | (go_at_call 9; (with_reducible refine (z1 _ Kd).mono ?_); (rintro e w2 ⟨rfl, Kd⟩; obtain ⟨d0, d1, d2, d3, d4, d5⟩ := Kd.cc))
    | (go_at_call 10; (with_reducible refine (z2 _ Kd).mono ?_); (rintro e w2 ⟨rfl, Kd⟩; obtain ⟨d0, d1, d2, d3, d4, d5⟩ := Kd.cc))
    | (go_at_call 11; (with_reducible refine (z3 _ Kd).mono ?_); (rintro e w2 ⟨rfl, Kd⟩; obtain ⟨d0, d1, d2, d3, d4, d5⟩ := Kd.cc))
    | (go_at_call 12; (with_reducible refine (z4 _ Kd).mono ?_); (rintro e w2 ⟨rfl, Kd⟩; obtain ⟨d0, d1, d2, d3, d4, d5⟩ := Kd.cc))
    | (go_at_call 13; (with_reducible refine (z5 _ Kd).mono ?_); (rintro e w2 ⟨rfl, Kd⟩; obtain ⟨d0, d1, d2, d3, d4, d5⟩ := Kd.cc))
    | (go_at_call 14; (with_reducible refine (z6 _ Kd).mono ?_); (rintro e w2 ⟨rfl, Kd⟩; obtain ⟨d0, d1, d2, d3, d4, d5⟩ := Kd.cc)))
  go_wp2
  have Kd := Kd.step (Below.refl _ _).drew
  obtain ⟨d0, d1, d2, d3, d4, d5⟩ := Kd.cc
  go_region_held3 (fun w' => w'.cell? ⟨w.heap.size, 0, none⟩ = some (.int .i64 a) ∧ w'.cell? ⟨w.heap.size, 1, none⟩ = some (.int .i64 b) ∧ w'.cell? ⟨w.heap.size, 2, none⟩ = some (.int .i64 s) ∧ w'.cell? ⟨w.heap.size + 1, 0, none⟩ = some (.int .i64 c) ∧ w'.cell? ⟨w.heap.size + 1, 1, none⟩ = some (.int .i64 d) ∧ w'.cell? ⟨w.heap.size + 1, 2, none⟩ = some (.int .i64 u)) (first | exact ⟨d0, d1, d2, d3, d4, d5⟩ | assumption) (first
    | (go_at_call 15; (with_reducible refine (z7 _ Kd).mono ?_); (rintro e w2 ⟨rfl, Kd⟩; obtain ⟨d0, d1, d2, d3, d4, d5⟩ := Kd.cc))
    | (go_at_call 16; (with_reducible refine (z8 _ Kd).mono ?_); (rintro e w2 ⟨rfl, Kd⟩; obtain ⟨d0, d1, d2, d3, d4, d5⟩ := Kd.cc))
    | (go_at_call 17; (with_reducible refine (z9 _ Kd).mono ?_); (rintro e w2 ⟨rfl, Kd⟩; obtain ⟨d0, d1, d2, d3, d4, d5⟩ := Kd.cc)))
  go_wp2
  go_ret
  exact ⟨rfl, Kd.fr⟩
theorem Nxp.step {r : R} {k : Int} {w0 w w' : World} {e : Ending} (h : Nxp r k w e w') (B : Below w0.heap.size w0 w) : e = .returned (.tuple #[.agg #[.int .i64 r.t, .int .i64 r.n, .int .i64 r.s], .int .i64 k]) ∧ Below w0.heap.size w0 w' := ⟨h.1, step_trans B h.2⟩
set_option maxRecDepth 100000 in
set_option maxHeartbeats 1000000 in
theorem rcNexts_any (a b s t u : Int) (hs : I64 s) (hu : I64 u) (w : World) : Calls Try.prog 4 #[.agg #[.int .i64 a, .int .i64 b, .int .i64 s], .int .i64 t, .int .i64 u] w (Tlb true w) := by
  obtain ⟨w1, W1⟩ := rc_new w a b s
  have hw1 := W1.eq
  obtain ⟨c0, c1, c2⟩ := rc_box W1.blk
  have z1 := rcNext_any a b s t u hs hu w1
  have z2 := fun wx => rfNext_any a b s t u wx
  obtain ⟨r, hr⟩ : ∃ r, r = nextV ⟨a, b, s⟩ t u := ⟨_, rfl⟩
  obtain ⟨k, hk⟩ : ∃ k, k = nextE ⟨a, b, s⟩ t u := ⟨_, rfl⟩
  simp only [← hr, ← hk] at z1 z2
  obtain ⟨x, y, z⟩ := r
  have WW := Lib.hid (And.intro W1.fr W1.blk)
  have e1 := fun W => show (binOp .eql 23 (.agg #[.int .i64 x, .int .i64 y, .int .i64 z]) (.agg #[.int .i64 x, .int .i64 y, .int .i64 z])).run Try.prog W = .ok (.bool true) W from by rw [eq_rec, (eqR_iff _ _).2 rfl]
  clear hs hu W1 hr hk
  go_enter Try.func4, Try.ntmps4
  go_wp2_with (first
    | (go_at_call 18; rw [← hw1]; clear hw1; (with_reducible refine z1.mono ?_); (rintro e w2 ⟨rfl, B2⟩; have C2 := Lib.hid (step_trans WW.out.1 B2); have q2 := Lib.hid (WW.out.2.below B2 WW.out.2.lt); clear B2))
    | ((with_reducible refine atWorld w2 ?_); refine wpList_allocRow (w := w2) recTy rfl rfl ?_; (intro w3 b3 B3 s3; have b3 := Lib.hid b3; have q3 := Lib.hid (And.intro B3 s3); clear B3 s3))
    | ((with_reducible refine atWorld w3 ?_); refine wpList_storeRow (w := w3) recTy rfl (.tmp 7) (.tmp 16) rfl w2.heap.size (rcL x y z) _ rfl rfl rfl rfl (by simp [rcL, Value.oneCell']) b3.out ?_; (intro w4 b4 B4 s4 x4; have D4 := Lib.hid (q3.out.1.trans B4); have g4 := Lib.hid (show w2.heap.size < w4.heap.size by have := q3.out.2; omega); have b4 := Lib.hid b4; have a4 := q2.out.below D4.out q2.out.lt; obtain ⟨c0, c1, c2⟩ := rc_box a4; have z2 := z2 w4; clear a4 B4 s4 x4))
    | (go_at_call 19; (with_reducible refine z2.mono ?_); (rintro e w5 ⟨rfl, B5⟩; have b5 := Lib.hid (b4.out.below B5 g4.out); have D5 := Lib.hid (D4.out.trans (B5.mono (Nat.le_of_lt g4.out))); clear B5))
    | ((with_reducible refine atWorld w5 ?_); refine wpList_allocRow (w := w5) recTy rfl rfl ?_; (intro w6 b6 B6 s6; have b6 := Lib.hid b6; have q6 := Lib.hid (And.intro B6 s6); clear B6 s6))
    | ((with_reducible refine atWorld w6 ?_); refine wpList_storeRow (w := w6) recTy rfl (.tmp 9) (.tmp 23) rfl w5.heap.size (rcL x y z) _ rfl rfl rfl rfl (by simp [rcL, Value.oneCell']) b6.out ?_; (intro w7 b7 B7 s7 x7; have D7 := Lib.hid (q6.out.1.trans B7); obtain ⟨u0, u1, u2⟩ := rc_box b7; have a7 := b5.out.below D7.out b5.out.lt; obtain ⟨v0, v1, v2⟩ := rc_box a7; have F7 := Lib.hid (step_trans (C2.out.trans (D5.out.mono C2.out.size)) D7.out); have z3 := awake_any w7; clear a7 b7 B7 s7 x7))
    | (go_at_call 17; (with_reducible refine z3.mono ?_); (rintro e w8 ⟨rfl, B8⟩; have F8 := Lib.hid (step_trans F7.out B8); clear B8)))
  go_ret
  exact ⟨rfl, F8.out⟩
end Go.Proofs.Ytofecokbpopdnaa
