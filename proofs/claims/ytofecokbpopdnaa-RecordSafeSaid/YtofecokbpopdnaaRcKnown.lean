/-
  The walk of RecordKnown. Conditions: none.
-/
import Derived.Test.YtofecokbpopdnaaRcLaw
namespace Go.Proofs.Ytofecokbpopdnaa
open Go.RowKit Rc

theorem Bx1.nxt {w0 w : World} {g : Nat} {a b s : Int} (K : Bx1 w0 g a b s w) {F : FuncId} {args : Array Value} {r : R} {k : Int} (z : Calls Try.prog F args w (Nxp r k w)) : Calls Try.prog F args w fun e w' => e = .returned (.tuple #[.agg #[.int .i64 r.t, .int .i64 r.n, .int .i64 r.s], .int .i64 k]) ∧ Bx1 w0 g a b s w' := z.mono fun _ _ ⟨x, y⟩ => ⟨x, K.step y⟩
set_option maxRecDepth 100000 in
set_option maxHeartbeats 2000000 in
theorem rcKnown_any (w : World) : Calls Try.prog 5 #[] w (Tlb true w) := by
  have zn := fun wx => show Calls Try.prog 18 #[.agg #[.int .i64 1, .int .i64 4, .int .i64 3], .int .i64 5, .int .i64 2] wx (Nxp ⟨5, 0, 2⟩ 0 wx) from by
    have := rcNext_any 1 4 3 5 2 (i64_3 (by decide)) (i64_3 (by decide)) wx
    rwa [show nextE ⟨1, 4, 3⟩ 5 2 = 0 by decide, show nextV ⟨1, 4, 3⟩ 5 2 = ⟨5, 0, 2⟩ by rfl] at this
  have zp := fun (wx : World) g (K : Bx1 w g 5 0 2 wx) => show Calls Try.prog 18 #[.agg #[.int .i64 1, .int .i64 4, .int .i64 3], .int .i64 0, .int .i64 1] wx fun e w' => e = .returned (.tuple #[.agg #[.int .i64 0, .int .i64 0, .int .i64 0], .int .i64 9]) ∧ Bx1 w g 5 0 2 w' from by
    have := rcNext_any 1 4 3 0 1 (i64_3 (by decide)) (i64_3 (by decide)) wx
    rw [show nextE ⟨1, 4, 3⟩ 0 1 = 9 by decide, show nextV ⟨1, 4, 3⟩ 0 1 = ⟨0, 0, 0⟩ by rfl] at this
    exact K.nxt this
  have zo := fun a b s (wx : World) g (K : Bx1 w g 5 0 2 wx) => K.rcd (of_any a b s wx)
  have zw := fun (wx : World) g (K : Bx1 w g 5 0 2 wx) => show Calls Try.prog 11 #[.agg #[.int .i64 1, .int .i64 9, .int .i64 3], .agg #[.int .i64 1, .int .i64 9, .int .i64 1]] wx fun e w' => e = .returned (.bool false) ∧ Bx1 w g 5 0 2 w' from K.say (rcNewer_any 1 9 3 1 9 1 wx)
  have za := fun (wx : World) g (K : Bx1 w g 5 0 2 wx) => K.say (awake_any wx)
  have m1 := fun (wx : World) g (K : Bx1 w g 5 0 2 wx) => show Calls Try.prog 15 #[.agg #[.int .i64 1, .int .i64 4, .int .i64 3], .int .i64 0, .agg #[.int .i64 1, .int .i64 5, .int .i64 2]] wx fun e w' => e = .returned (.bool false) ∧ Bx1 w g 5 0 2 w' from K.say (rcMay_any 1 4 3 1 5 2 0 (i64_3 (by decide)) (i64_3 (by decide)) wx)
  have m2 := fun (wx : World) g (K : Bx1 w g 5 0 2 wx) => show Calls Try.prog 15 #[.agg #[.int .i64 1, .int .i64 5, .int .i64 1], .int .i64 0, .agg #[.int .i64 1, .int .i64 4, .int .i64 2]] wx fun e w' => e = .returned (.bool true) ∧ Bx1 w g 5 0 2 w' from K.say (rcMay_any 1 5 1 1 4 2 0 (i64_3 (by decide)) (i64_3 (by decide)) wx)
  have m3 := fun (wx : World) g (K : Bx1 w g 5 0 2 wx) => show Calls Try.prog 15 #[.agg #[.int .i64 1, .int .i64 4, .int .i64 2], .int .i64 0, .agg #[.int .i64 0, .int .i64 0, .int .i64 3]] wx fun e w' => e = .returned (.bool false) ∧ Bx1 w g 5 0 2 w' from K.say (rcMay_any 1 4 2 0 0 3 0 (i64_3 (by decide)) (i64_3 (by decide)) wx)
  have e1 := fun W => show (binOp .eql 23 (.agg #[.int .i64 5, .int .i64 0, .int .i64 2]) (.agg #[.int .i64 5, .int .i64 0, .int .i64 2])).run Try.prog W = .ok (.bool true) W from eq_rec 5 0 2 5 0 2 W
  have zo0 := of_any 1 4 3 w
  go_enter Try.func5, Try.ntmps5
  go_wp2_with (first
    | (go_at_call 20; first
      | ((with_reducible refine zo0.mono ?_); (rintro e w1 ⟨rfl, B1⟩; clear zo0; have z1 := zn w1; have C1 := Lib.hid B1; clear B1))
      | ((with_reducible refine (zo _ _ _ _ _ K).mono ?_); (rintro e wy ⟨rfl, K⟩; obtain ⟨y0, y1, y2⟩ := K.cc)))
    | (go_at_call 18; first
      | ((with_reducible refine z1.mono ?_); (rintro e w2 ⟨rfl, B2⟩; clear z1; have C2 := Lib.hid (step_trans C1.out B2); clear B2))
      | ((with_reducible refine (zp _ _ K).mono ?_); (rintro e w6 ⟨rfl, K⟩; obtain ⟨y0, y1, y2⟩ := K.cc)))
    | ((with_reducible refine atWorld w2 ?_); refine wpList_allocRow (w := w2) recTy rfl rfl ?_; (intro w3 b3 B3 s3; have b3 := Lib.hid b3; have C3 := Lib.hid B3; clear B3 s3))
    | ((with_reducible refine atWorld w3 ?_); refine wpList_storeRow (w := w3) recTy rfl (.tmp 1) (.tmp 9) rfl w2.heap.size (rcL 5 0 2) _ rfl rfl rfl rfl (by simp [rcL, Value.oneCell']) b3.out ?_; (intro w4 b4 B4 s4 x4; have K : Bx1 w w2.heap.size 5 0 2 w4 := ⟨C2.out.trans ((C3.out.trans B4).mono C2.out.size), b4⟩; obtain ⟨y0, y1, y2⟩ := K.cc; clear b4 B4 s4 x4))
    | ((with_reducible refine atWorld w6 ?_); refine wpList_allocRow (w := w6) recTy rfl rfl ?_; (intro w7 b7 B7 s7; have b7 := Lib.hid b7; have C7 := Lib.hid B7; have K6 := K; clear B7 s7))
    | ((with_reducible refine atWorld w7 ?_); refine wpList_storeRow (w := w7) recTy rfl (.tmp 3) (.tmp 14) rfl w6.heap.size (rcL 0 0 0) _ rfl rfl rfl rfl (by simp [rcL, Value.oneCell']) b7.out ?_; (intro w8 b8 B8 s8 x8; have K := K6.step (C7.out.trans B8); obtain ⟨y0, y1, y2⟩ := K.cc; clear b8 B8 s8 x8 K6))
    | (go_at_call 15; first
      | ((with_reducible refine (m1 _ _ K).mono ?_); (rintro e wy ⟨rfl, K⟩; obtain ⟨y0, y1, y2⟩ := K.cc))
      | ((with_reducible refine (m2 _ _ K).mono ?_); (rintro e wy ⟨rfl, K⟩; obtain ⟨y0, y1, y2⟩ := K.cc))
      | ((with_reducible refine (m3 _ _ K).mono ?_); (rintro e wy ⟨rfl, K⟩; obtain ⟨y0, y1, y2⟩ := K.cc))))
  have Kd := K.step (Below.refl _ _).drew
  obtain ⟨d0, d1, d2⟩ := Kd.cc
  go_region_held3 (fun w' => w'.cell? ⟨w2.heap.size, 0, none⟩ = some (.int .i64 5) ∧ w'.cell? ⟨w2.heap.size, 1, none⟩ = some (.int .i64 0) ∧ w'.cell? ⟨w2.heap.size, 2, none⟩ = some (.int .i64 2)) (first | exact ⟨d0, d1, d2⟩ | assumption) (first
    | (go_at_call 20; (with_reducible refine (zo _ _ _ _ _ Kd).mono ?_); (rintro e wy ⟨rfl, Kd⟩; obtain ⟨d0, d1, d2⟩ := Kd.cc))
    | (go_at_call 11; (with_reducible refine (zw _ _ Kd).mono ?_); (rintro e wy ⟨rfl, Kd⟩; obtain ⟨d0, d1, d2⟩ := Kd.cc))
    | (go_at_call 17; (with_reducible refine (za _ _ Kd).mono ?_); (rintro e wy ⟨rfl, Kd⟩; obtain ⟨d0, d1, d2⟩ := Kd.cc)))
  go_wp2
  go_ret
  exact ⟨rfl, Kd.fr⟩
end Go.Proofs.Ytofecokbpopdnaa
