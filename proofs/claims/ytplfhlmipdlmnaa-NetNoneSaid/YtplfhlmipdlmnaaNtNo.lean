/-
  A net that is nil, or that nobody made: what the program's calls do. Conditions: none.
-/
import Derived.Test.YtplfhlmipdlmnaaNtCall3
namespace Go.Proofs.Ytplfhlmipdlmnaa
open Go.RowKit Nt

def NoNet (w : World) (p : Value) : Prop := p = .pointer none ∨ ∃ g, p = .pointer (some ⟨g, 0, none⟩) ∧ w.cell? ⟨g, 0, none⟩ = some (.pointer none)
theorem NoNet.step {w w' : World} {p : Value} (h : NoNet w p) (B : Below w.heap.size w w') : NoNet w' p := by
  rcases h with h | ⟨g, h, h0⟩
  · exact .inl h
  · exact .inr ⟨g, h, (B.cell (p := ⟨g, 0, none⟩) (World.block_lt_of_cell? w _ h0)).trans h0⟩
theorem ntMade_none (w : World) (p : Value) (h : NoNet w p) : Calls Try.prog 36 #[p] w fun e w' => e = .returned (.bool false) ∧ w = w' := by
  rcases h with rfl | ⟨g, rfl, h0⟩
  · exact ntMade_nil w
  · exact ntMade_no g w h0
section
variable {w : World} {p : Value} (h : NoNet w p)
include h
set_option maxRecDepth 100000 in
theorem ntCount_no : Calls Try.prog 12 #[p] w fun e w' => e = .returned (.int .i64 0) ∧ w = w' := by
  have zm := ntMade_none w p h
  clear h
  go_enter Try.func12, Try.ntmps12
  go_wp2_with (go_at_call 36; refine zm.mono ?_; (rintro e w1 ⟨rfl, rfl⟩))
  go_ret
  exact ⟨rfl, rfl⟩
set_option maxRecDepth 100000 in
theorem ntLost_no : Calls Try.prog 13 #[p] w fun e w' => e = .returned (.int .i64 0) ∧ w = w' := by
  have zm := ntMade_none w p h
  clear h
  go_enter Try.func13, Try.ntmps13
  go_wp2_with (go_at_call 36; refine zm.mono ?_; (rintro e w1 ⟨rfl, rfl⟩))
  go_ret
  exact ⟨rfl, rfl⟩
set_option maxRecDepth 100000 in
theorem ntIsCut_no (i j : Int) : Calls Try.prog 14 #[p, .int .i64 i, .int .i64 j] w fun e w' => e = .returned (.bool false) ∧ w = w' := by
  have zm := ntMade_none w p h
  clear h
  go_enter Try.func14, Try.ntmps14
  go_wp2_with (go_at_call 36; refine zm.mono ?_; (rintro e w1 ⟨rfl, rfl⟩))
  go_ret
  exact ⟨rfl, rfl⟩
set_option maxRecDepth 100000 in
theorem ntFault_no (i : Int) : Calls Try.prog 42 #[p, .int .i64 i] w fun e w' => e = .returned (.int .i64 1) ∧ w = w' := by
  have zm := ntMade_none w p h
  clear h
  go_enter Try.func42, Try.ntmps42
  go_wp2_with (go_at_call 36; refine zm.mono ?_; (rintro e w1 ⟨rfl, rfl⟩))
  go_ret
  exact ⟨rfl, rfl⟩
set_option maxRecDepth 100000 in
theorem ntSend_no (i j : Int) (v : Value) : Calls Try.prog 17 #[p, .int .i64 i, .int .i64 j, v] w fun e w' => e = .returned (.int .i64 1) ∧ w = w' := by
  have zm := ntMade_none w p h
  clear h
  go_enter Try.func17, Try.ntmps17
  go_wp2_with (go_at_call 36; refine zm.mono ?_; (rintro e w1 ⟨rfl, rfl⟩))
  go_ret
  exact ⟨rfl, rfl⟩
set_option maxRecDepth 100000 in
theorem ntCut_no (i j : Int) (x : Bool) : Calls Try.prog 23 #[p, .int .i64 i, .int .i64 j, .bool x] w fun e w' => e = .returned (.int .i64 1) ∧ w = w' := by
  have zm := ntMade_none w p h
  clear h
  go_enter Try.func23, Try.ntmps23
  go_wp2_with (go_at_call 36; refine zm.mono ?_; (rintro e w1 ⟨rfl, rfl⟩))
  go_ret
  exact ⟨rfl, rfl⟩
set_option maxRecDepth 100000 in
theorem ntClear_no : Calls Try.prog 24 #[p] w fun e w' => e = .returned (.int .i64 1) ∧ w = w' := by
  have zm := ntMade_none w p h
  clear h
  go_enter Try.func24, Try.ntmps24
  go_wp2_with (go_at_call 36; refine zm.mono ?_; (rintro e w1 ⟨rfl, rfl⟩))
  go_ret
  exact ⟨rfl, rfl⟩
set_option maxRecDepth 100000 in
theorem ntDrop_no (i : Int) : Calls Try.prog 22 #[p, .int .i64 i] w fun e w' => e = .returned (.int .i64 1) ∧ w = w' := by
  have zf := ntFault_no h i
  clear h
  go_enter Try.func22, Try.ntmps22
  go_wp2_with (go_at_call 42; (with_reducible refine zf.mono ?_); (rintro e w2 ⟨rfl, rfl⟩))
  go_ret
  exact ⟨rfl, rfl⟩
set_option maxRecDepth 100000 in
theorem ntLook_no (i : Int) : Calls Try.prog 19 #[p, .int .i64 i] w fun e w' => e = .returned (.tuple #[.agg pkZ.toArray, .int .i64 1]) ∧ Below w.heap.size w w' := by
  have zf := fun w1 (B : Below w.heap.size w w1) => ntFault_no (h.step B) i
  clear h
  go_enter Try.func19, Try.ntmps19
  go_wp2_with (first
    | ((with_reducible refine atWorld w ?_); refine wpList_allocRow (w := w) info_pk rfl rfl ?_; (intro w1 b1 B1 s1; have z1 := zf w1 B1; have b1 := Lib.hid b1; replace s1 := Lib.hid s1))
    | (go_at_call 42; (with_reducible refine z1.mono ?_); (rintro e w2 ⟨rfl, rfl⟩))
    | ((with_reducible refine atWorld w1 ?_); refine wpList_storeRow (w := w1) info_pk rfl (.tmp 4) (.tmp 13) rfl w.heap.size pkZ pkZ rfl rfl rfl rfl pkZ_one b1.out ?_; (intro w9 b9 B9 s9 k9; have b9 := Lib.hid b9; replace s9 := Lib.hid s9)))
  have b9 := b9.out
  exact bodyPost_ret (w := w9) (results_cell2 Try.results19 _ _ _ _ _ _ rfl rfl (loadRow info_pk (by rfl) b9)) rfl ⟨rfl, B1.trans B9⟩
set_option maxRecDepth 100000 in
theorem ntDeliver_no (i : Int) : Calls Try.prog 20 #[p, .int .i64 i] w fun e w' => e = .returned (.tuple #[.agg pkZ.toArray, .int .i64 1]) ∧ Below w.heap.size w w' := by
  have zl := fun w1 (B : Below w.heap.size w w1) => ntLook_no (h.step B) i
  clear h
  go_enter Try.func20, Try.ntmps20
  go_wp2_with (first
    | ((with_reducible refine atWorld w ?_); refine wpList_allocRow (w := w) info_pk rfl rfl ?_; (intro w1 b1 B1 s1; have z1 := zl w1 B1; have b1 := Lib.hid b1; replace s1 := Lib.hid s1))
    | (go_at_call 19; (with_reducible refine z1.mono ?_); (rintro e w2 ⟨rfl, B2⟩; have C2 := step_trans B1 B2; have b2 := Lib.hid (b1.out.below B2 b1.out.lt)))
    | ((with_reducible refine atWorld w2 ?_); refine wpList_allocRow (w := w2) info_pk rfl rfl ?_; (intro w3 b3 B3 s3; have b3 := Lib.hid b3; replace s3 := Lib.hid s3))
    | ((with_reducible refine atWorld w3 ?_); refine wpList_storeRow (w := w3) info_pk rfl (.tmp 6) (.tmp 12) rfl w2.heap.size pkZ pkZ rfl rfl rfl rfl pkZ_one b3.out ?_; (intro w4 b4 B4 s4 k4; have D4 := B3.trans B4; have C4 := step_trans C2 D4; have b5 := Lib.hid (b2.out.below D4 b2.out.lt); have b4 := Lib.hid b4; replace s4 := Lib.hid s4; clear k4))
    | ((with_reducible refine atWorld w4 ?_); refine wpList_loadRow (w := w4) info_pk rfl (.tmp 6) rfl w2.heap.size 0 pkZ rfl rfl (rangeOf b4.out) ?_)
    | ((with_reducible refine atWorld w4 ?_); refine wpList_storeRow (w := w4) info_pk rfl (.tmp 4) (.tmp 21) rfl w.heap.size pkZ pkZ rfl rfl rfl rfl pkZ_one b5.out ?_; (intro w9 b9 B9 s9 k9; have b9 := Lib.hid b9; replace s9 := Lib.hid s9)))
  have b9 := b9.out
  exact bodyPost_ret (w := w9) (results_cell2 Try.results20 _ _ _ _ _ _ rfl rfl (loadRow info_pk (by rfl) b9)) rfl ⟨rfl, C4.trans B9⟩
set_option maxRecDepth 100000 in
theorem ntDouble_no (i : Int) : Calls Try.prog 18 #[p, .int .i64 i] w fun e w' => e = .returned (.int .i64 1) ∧ Below w.heap.size w w' := by
  have z1 := ntLook_no h i
  clear h
  go_enter Try.func18, Try.ntmps18
  go_wp2_with (first
    | (go_at_call 19; (with_reducible refine z1.mono ?_); (rintro e w2 ⟨rfl, B2⟩))
    | ((with_reducible refine atWorld w2 ?_); refine wpList_allocRow (w := w2) info_pk rfl rfl ?_; (intro w3 b3 B3 s3; have b3 := Lib.hid b3; replace s3 := Lib.hid s3))
    | ((with_reducible refine atWorld w3 ?_); refine wpList_storeRow (w := w3) info_pk rfl (.tmp 5) (.tmp 11) rfl w2.heap.size pkZ pkZ rfl rfl rfl rfl pkZ_one b3.out ?_; (intro w4 b4 B4 s4 k4; have D4 := step_trans B2 (B3.trans B4); have b4 := Lib.hid b4; replace s4 := Lib.hid s4; clear k4)))
  go_ret
  exact ⟨rfl, D4⟩
end
end Go.Proofs.Ytplfhlmipdlmnaa
