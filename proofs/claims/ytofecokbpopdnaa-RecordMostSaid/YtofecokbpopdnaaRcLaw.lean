/-
  A record in a variable of its own, and calls beside it; the laws' of and awake; RecordTells, RecordNexts. Conditions: sets are ints of 64 bits.
-/
import Derived.Test.YtofecokbpopdnaaRcEq
namespace Go.Proofs.Ytofecokbpopdnaa
open Go.RowKit Rc

/-- since w0: a record at g -/
structure Bx1 (w0 : World) (g : Nat) (a b s : Int) (w : World) : Prop where
  fr : Below w0.heap.size w0 w
  b1 : BlkR 23 w g (rcL a b s)
section
variable {w0 w w' : World} {g h : Nat} {a b s c d u : Int}
theorem Bx1.step (K : Bx1 w0 g a b s w) (B : Below w.heap.size w w') : Bx1 w0 g a b s w' := ⟨step_trans K.fr B, K.b1.below B K.b1.lt⟩
theorem Bx1.cc (K : Bx1 w0 g a b s w) : w.cell? ⟨g, 0, none⟩ = some (.int .i64 a) ∧ w.cell? ⟨g, 1, none⟩ = some (.int .i64 b) ∧ w.cell? ⟨g, 2, none⟩ = some (.int .i64 s) := ⟨K.b1.cell rfl, K.b1.cell rfl, K.b1.cell rfl⟩
theorem Bx1.say (K : Bx1 w0 g a b s w) {F : FuncId} {args : Array Value} {x : Bool} (z : Calls Try.prog F args w (Tlb x w)) : Calls Try.prog F args w fun e w' => e = .returned (.bool x) ∧ Bx1 w0 g a b s w' := z.mono fun _ _ ⟨x, y⟩ => ⟨x, K.step y⟩
theorem Bx1.rcd (K : Bx1 w0 g a b s w) {F : FuncId} {args : Array Value} {r : R} (z : Calls Try.prog F args w (Rcp r w)) : Calls Try.prog F args w fun e w' => e = .returned (.agg #[.int .i64 r.t, .int .i64 r.n, .int .i64 r.s]) ∧ Bx1 w0 g a b s w' := z.mono fun _ _ ⟨x, y⟩ => ⟨x, K.step y⟩
end
set_option maxRecDepth 100000 in
theorem of_any (a b s : Int) (w : World) : Calls Try.prog 20 #[.int .i64 a, .int .i64 b, .int .i64 s] w (Rcp ⟨a, b, s⟩ w) := by
  go_enter Try.func20, Try.ntmps20
  go_wp2
  exact bodyPost_ret (results_cell1 Try.results20 _ _ _ _ _ rfl (loadRow recTy (xs := rcL a b s) (by rfl) (heap_alloc_new _ _))) rfl ⟨rfl, (Below.refl _ _).alloc (Nat.le_refl _) _⟩
theorem i64_3 {s : Int} (h : s = 1 ∨ s = 2 ∨ s = 3) : I64 s := by unfold I64; omega
set_option maxRecDepth 100000 in
set_option maxHeartbeats 1000000 in
theorem awake_any (w : World) : Calls Try.prog 17 #[] w (Tlb true w) := by
  have zn := fun wx => show Calls Try.prog 18 #[.agg #[.int .i64 1, .int .i64 4, .int .i64 3], .int .i64 1, .int .i64 1] wx (Nxp ⟨1, 5, 1⟩ 0 wx) from by
    have := rcNext_any 1 4 3 1 1 (i64_3 (by decide)) (i64_3 (by decide)) wx
    rwa [show nextE ⟨1, 4, 3⟩ 1 1 = 0 by decide, show nextV ⟨1, 4, 3⟩ 1 1 = ⟨1, 5, 1⟩ by rfl] at this
  have zo := fun a b s (wx : World) g (K : Bx1 w g 1 5 1 wx) => K.rcd (of_any a b s wx)
  have zw := fun (wx : World) g (K : Bx1 w g 1 5 1 wx) => show Calls Try.prog 11 #[.agg #[.int .i64 2, .int .i64 0, .int .i64 1], .agg #[.int .i64 1, .int .i64 9, .int .i64 3]] wx fun e w' => e = .returned (.bool true) ∧ Bx1 w g 1 5 1 w' from K.say (rcNewer_any 2 0 1 1 9 3 wx)
  have zf := fun (wx : World) g (K : Bx1 w g 1 5 1 wx) => K.rcd (rcFirst_any wx)
  have zm := fun (wx : World) g (K : Bx1 w g 1 5 1 wx) => show Calls Try.prog 15 #[.agg #[.int .i64 1, .int .i64 4, .int .i64 3], .int .i64 0, .agg #[.int .i64 1, .int .i64 4, .int .i64 3]] wx fun e w' => e = .returned (.bool true) ∧ Bx1 w g 1 5 1 w' from K.say (rcMay_any 1 4 3 1 4 3 0 (i64_3 (by decide)) (i64_3 (by decide)) wx)
  have e1 := fun W => show (binOp .eql 23 (.agg #[.int .i64 1, .int .i64 5, .int .i64 1]) (.agg #[.int .i64 1, .int .i64 5, .int .i64 1])).run Try.prog W = .ok (.bool true) W from eq_rec 1 5 1 1 5 1 W
  have e2 := fun W => show (binOp .eql 23 (.agg #[.int .i64 0, .int .i64 0, .int .i64 3]) (.agg #[.int .i64 0, .int .i64 0, .int .i64 3])).run Try.prog W = .ok (.bool true) W from eq_rec 0 0 3 0 0 3 W
  have zo0 := of_any 1 4 3 w
  go_enter Try.func17, Try.ntmps17
  go_wp2_with (first
    | (go_at_call 20; (with_reducible refine zo0.mono ?_); (rintro e w1 ⟨rfl, B1⟩; have z1 := zn w1; have C1 := Lib.hid B1; clear B1))
    | (go_at_call 18; (with_reducible refine z1.mono ?_); (rintro e w2 ⟨rfl, B2⟩; have C2 := Lib.hid (step_trans C1.out B2); clear B2))
    | ((with_reducible refine atWorld w2 ?_); refine wpList_allocRow (w := w2) recTy rfl rfl ?_; (intro w3 b3 B3 s3; have b3 := Lib.hid b3; have C3 := Lib.hid B3; clear B3 s3))
    | ((with_reducible refine atWorld w3 ?_); refine wpList_storeRow (w := w3) recTy rfl (.tmp 1) (.tmp 6) rfl w2.heap.size (rcL 1 5 1) _ rfl rfl rfl rfl (by simp [rcL, Value.oneCell']) b3.out ?_; (intro w4 b4 B4 s4 x4; have K : Bx1 w w2.heap.size 1 5 1 w4 := ⟨C2.out.trans ((C3.out.trans B4).mono C2.out.size), b4⟩; obtain ⟨y0, y1, y2⟩ := K.cc; have Kd := K.step (Below.refl _ w4).drew; obtain ⟨d0, d1, d2⟩ := Kd.cc; clear b4 B4 s4 x4)))
  go_region_held3 (fun w' => w'.cell? ⟨w2.heap.size, 0, none⟩ = some (.int .i64 1) ∧ w'.cell? ⟨w2.heap.size, 1, none⟩ = some (.int .i64 5) ∧ w'.cell? ⟨w2.heap.size, 2, none⟩ = some (.int .i64 1)) (first | exact ⟨d0, d1, d2⟩ | assumption) (first
    | (go_at_call 20; (with_reducible refine (zo _ _ _ _ _ Kd).mono ?_); (rintro e wy ⟨rfl, Kd⟩; obtain ⟨d0, d1, d2⟩ := Kd.cc))
    | (go_at_call 11; (with_reducible refine (zw _ _ Kd).mono ?_); (rintro e wy ⟨rfl, Kd⟩; obtain ⟨d0, d1, d2⟩ := Kd.cc))
    | (go_at_call 21; (with_reducible refine (zf _ _ Kd).mono ?_); (rintro e wy ⟨rfl, Kd⟩; obtain ⟨d0, d1, d2⟩ := Kd.cc))
    | (go_at_call 15; (with_reducible refine (zm _ _ Kd).mono ?_); (rintro e wy ⟨rfl, Kd⟩; obtain ⟨d0, d1, d2⟩ := Kd.cc)))
  go_wp2
  go_ret
  exact ⟨rfl, Kd.fr⟩
end Go.Proofs.Ytofecokbpopdnaa
