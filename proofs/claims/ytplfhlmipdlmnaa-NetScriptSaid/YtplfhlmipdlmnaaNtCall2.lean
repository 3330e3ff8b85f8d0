/-
  A net's calls: Deliver, Drop, Double, Clear, Cut, Send. Conditions: the net was made; how many were lost is a number far from the greatest.
-/
import Derived.Test.YtplfhlmipdlmnaaNtCalls
namespace Go.Proofs.Ytplfhlmipdlmnaa
open Go.RowKit Nt

section
variable {w : World} {b : Nat} {F : Nat → Prop} {s : N}
/-- the k-th one, with bytes of its own; and it is no longer on its way -/
def DelPost (p : Pk) (w : World) (b : Nat) (F : Nat → Prop) (s : N) (e : Ending) (w' : World) : Prop := ∃ A c, e = .returned (.tuple #[.agg (pkCells ⟨p, A, c⟩).toArray, .int .i64 0]) ∧ c ≤ 9223372036854775807 ∧ Whole w' w.heap.size A c p.b ∧ TakePost w b F s w'
set_option maxRecDepth 100000 in
theorem deliver_no (h : NetAt w b F s) (i : Int) (hi : s.has i = false) : Calls Try.prog 20 #[.pointer (some ⟨b, 0, none⟩), .int .i64 i] w fun e w' => e = .returned (.tuple #[.agg pkZ.toArray, .int .i64 5]) ∧ Below w.heap.size w w' := by
  have zl := fun w1 (B : Below w.heap.size w w1) => look_no (h.step B) i hi
  clear h hi
  go_enter Try.func20, Try.ntmps20
  go_wp2_with (first
    | ((with_reducible refine atWorld w ?_); refine wpList_allocRow (w := w) info_pk rfl rfl ?_; (intro w1 b1 B1 s1; have z1 := zl w1 B1; have b1 := Lib.hid b1; replace s1 := Lib.hid s1))
    | (go_at_call 19; (with_reducible refine z1.mono ?_); (rintro e w2 ⟨rfl, B2⟩; have C2 := step_trans B1 B2; have b2 := Lib.hid (b1.out.below B2 b1.out.lt)))
    | ((with_reducible refine atWorld w2 ?_); refine wpList_allocRow (w := w2) info_pk rfl rfl ?_; (intro w3 b3 B3 s3; have b3 := Lib.hid b3; replace s3 := Lib.hid s3))
    | ((with_reducible refine atWorld w3 ?_); refine wpList_storeRow (w := w3) info_pk rfl (.tmp 6) (.tmp 12) rfl w2.heap.size pkZ pkZ rfl rfl rfl rfl pkZ_one b3.out ?_; (intro w4 b4 B4 s4 k4; have D4 := B3.trans B4; have C4 := step_trans C2 D4; have b5 := Lib.hid (b2.out.below D4 b2.out.lt); have b4 := Lib.hid b4; replace s4 := Lib.hid s4; clear k4))
    | ((with_reducible refine atWorld w4 ?_); refine wpList_loadRow (w := w4) info_pk rfl (.tmp 6) rfl w2.heap.size 0 pkZ rfl rfl (rangeOf b4.out) ?_)
    | ((with_reducible refine atWorld w4 ?_); refine wpList_storeRow (w := w4) info_pk rfl (.tmp 4) (.tmp 21) rfl w.heap.size pkZ pkZ rfl rfl rfl rfl pkZ_one b5.out ?_; (intro w9 b9 B9 s9 k9; have b9 := Lib.hid b9; replace s9 := Lib.hid s9)))
  have b9 := b9.out
  exact bodyPost_ret (w := w9) (results_cell2 Try.results20 _ _ _ _ _ _ rfl rfl (loadRow info_pk (by rfl) b9)) rfl ⟨rfl, C4.trans B9⟩
set_option maxRecDepth 100000 in
set_option maxHeartbeats 1000000 in
theorem deliver_yes (h : NetAt w b F s) (k : Nat) (p : Pk) (hk : s.way[k]? = some p) : Calls Try.prog 20 #[.pointer (some ⟨b, 0, none⟩), .int .i64 (k : Int)] w (DelPost p w b F (s.take k)) := by
  have hklt := (List.getElem?_eq_some_iff.1 hk).1
  have hm := h.ok.many
  have zl := fun w1 (B : Below w.heap.size w w1) => look_yes (h.step B) k p hk
  unfold LookPost at zl
  have zt := fun w1 (B : Below w.heap.size w w1) => take_any (h.step B) k (k + 1) (Nat.le_succ _) hklt
  have q1 : IntKind.i64.wrap ((k : Int) + 1) = ((k + 1 : Nat) : Int) := by rw [IntWalk.i64_in _ (by omega)]; omega
  obtain ⟨k1, hk1⟩ : ∃ x, x = k + 1 := ⟨_, rfl⟩
  rw [← hk1] at zt q1
  have hb := h.blt
  have HF := Lib.hid (And.intro h.lt (And.intro hb hk1))
  unfold DelPost
  unfold pkCells at zl ⊢
  obtain ⟨M, hM⟩ : ∃ M, M = p.b.length := ⟨_, rfl⟩
  dsimp only at zl ⊢
  rw [← hM] at zl ⊢
  clear hM hk1 hklt hm h hk hb
  go_enter Try.func20, Try.ntmps20
  go_wp2_with (first
    | ((with_reducible refine atWorld w ?_); refine wpList_allocRow (w := w) info_pk rfl rfl ?_; (intro w1 b1 B1 s1; have z1 := zl w1 B1; have b1 := Lib.hid b1; replace s1 := Lib.hid s1))
    | (go_at_call 19; (with_reducible refine z1.mono ?_); (rintro e w2 ⟨A, c, rfl, hc, oW, B2⟩; have C2 := step_trans B1 B2; have b2 := Lib.hid (b1.out.below B2 b1.out.lt); have S2 := Lib.hid B2.size; have oW := Lib.hid (And.intro hc oW); clear hc))
    | ((with_reducible refine atWorld w2 ?_); refine wpList_allocRow (w := w2) info_pk rfl rfl ?_; (intro w3 b3 B3 s3; have b3 := Lib.hid b3; replace s3 := Lib.hid s3))
    | ((with_reducible refine atWorld w3 ?_); refine wpList_storeRow (w := w3) info_pk rfl (.tmp 6) (.tmp 12) rfl w2.heap.size [.int .i64 (p.fr : Int), .int .i64 (p.to : Int), .slice A M c] pkZ rfl rfl rfl rfl (pk3_one _ _ _ _ _) b3.out ?_; (intro w4 b4 B4 s4 k4; have D4 := B3.trans B4; have C4 := step_trans C2 D4; have z4 := zt w4 C4; have b5 := Lib.hid (b2.out.below D4 b2.out.lt); have oX := Lib.hid (oW.out.2.step D4); have b4 := Lib.hid b4; replace s4 := Lib.hid s4; clear k4))
    | (go_at_call 43; (with_reducible refine z4.mono ?_); (rintro e w5 ⟨rfl, T5⟩; have r4 : BlkR 48 w5 w2.heap.size [.int .i64 (p.fr : Int), .int .i64 (p.to : Int), .slice A M c] := (T5.2.block _ b4.out.lt (fun x => x.elim (fun x => by have := HF.out.2.1; have := C2.size; omega) (fun x => by have := HF.out.1 _ x; have := C2.size; omega))).trans b4.out; have r5 : BlkR 48 w5 w.heap.size pkZ := (T5.2.block _ b5.out.lt (fun x => x.elim (fun x => by have := HF.out.2.1; omega) (fun x => by have := HF.out.1 _ x; omega))).trans b5.out; have r4 := Lib.hid r4; have r5 := Lib.hid r5; have T5 := Lib.hid T5))
    | ((with_reducible refine atWorld w5 ?_); refine wpList_loadRow (w := w5) info_pk rfl (.tmp 6) rfl w2.heap.size 0 [.int .i64 (p.fr : Int), .int .i64 (p.to : Int), .slice A M c] rfl rfl (rangeOf r4.out) ?_)
    | ((with_reducible refine atWorld w5 ?_); refine wpList_storeRow (w := w5) info_pk rfl (.tmp 4) (.tmp 21) rfl w.heap.size [.int .i64 (p.fr : Int), .int .i64 (p.to : Int), .slice A M c] pkZ rfl rfl rfl rfl (pk3_one _ _ _ _ _) r5.out ?_; (intro w9 b9 B9 s9 k9; have b9 := Lib.hid b9; replace s9 := Lib.hid s9)))
  have b9 := b9.out
  have hs1 := s1.out
  have hs2 := S2.out
  obtain ⟨hFl, hbl, hk1⟩ := HF.out
  have fr9 : Frame (fun j => j = w.heap.size) w5 w9 := ⟨B9.os, B9.tape, B9.output, B9.size, fun j hj hn => k9 j hn⟩
  have fr : Frame (fun j => j = b ∨ F j) w w9 := (((Frame.of_below (F := fun j => j = b ∨ F j) C4).trans T5.out.2 fun j e => .inl e).trans fr9 fun j e => .inr (by omega))
  have oY : Whole w9 w.heap.size A c p.b := ((oX.out.frame T5.out.2 (fun j e => e.elim (fun e => by omega) (fun e => by have := hFl j e; omega))).frame fr9 (fun j e => by omega)).less (by omega)
  have n9 : NetAt w9 b F (s.take k) := by
    have := T5.out.1
    rw [hk1, cutW_one] at this
    exact this.frame fr9 (fun e => by omega) (fun j hj e => by have := hFl j hj; omega)
  exact bodyPost_ret (w := w9) (results_cell2 Try.results20 _ _ _ _ _ _ rfl rfl (loadRow info_pk (by rfl) b9)) rfl ⟨A, c, rfl, oW.out.1, oY, n9, fr⟩
set_option maxRecDepth 100000 in
theorem drop_no (h : NetAt w b F s) (i : Int) (hi : s.has i = false) : Calls Try.prog 22 #[.pointer (some ⟨b, 0, none⟩), .int .i64 i] w fun e w' => e = .returned (.int .i64 5) ∧ w = w' := by
  have zf := fault_any h i
  rw [hi, if_neg (by decide)] at zf
  clear h hi
  go_enter Try.func22, Try.ntmps22
  go_wp2_with (go_at_call 42; (with_reducible refine zf.mono ?_); (rintro e w2 ⟨rfl, rfl⟩))
  go_ret
  exact ⟨rfl, rfl⟩
set_option maxRecDepth 100000 in
theorem drop_yes (h : NetAt w b F s) (k : Nat) (hk : k < s.way.length) (hl : s.lost ≤ 4611686018427387904) : Calls Try.prog 22 #[.pointer (some ⟨b, 0, none⟩), .int .i64 (k : Int)] w fun e w' => e = .returned (.int .i64 0) ∧ TakePost w b F (s.drop k) w' := by
  have zf := fault_any h (k : Int)
  rw [has_iff.2 ⟨by omega, by omega⟩, if_pos rfl] at zf
  have zl := lose_any h k (k + 1) (Nat.le_succ _) hk hl
  have hm := h.ok.many
  rw [show k + 1 - k = 1 by omega, lostW] at zl
  have q1 : IntKind.i64.wrap ((k : Int) + 1) = ((k + 1 : Nat) : Int) := by rw [IntWalk.i64_in _ (by omega)]; omega
  obtain ⟨k1, hk1⟩ : ∃ x, x = k + 1 := ⟨_, rfl⟩
  rw [← hk1] at zl q1
  clear hk1 hm hk hl h
  go_enter Try.func22, Try.ntmps22
  go_wp2_with (first
    | (go_at_call 42; (with_reducible refine zf.mono ?_); (rintro e w2 ⟨rfl, rfl⟩))
    | (go_at_call 45; (with_reducible refine zl.mono ?_); (rintro e w3 ⟨rfl, T3⟩; have T3 := Lib.hid T3)))
  go_ret
  exact ⟨rfl, T3.out⟩
set_option maxRecDepth 100000 in
theorem clear_any (h : NetAt w b F s) (hl : s.lost ≤ 4611686018427387904) : Calls Try.prog 24 #[.pointer (some ⟨b, 0, none⟩)] w fun e w' => e = .returned (.int .i64 0) ∧ TakePost w b F s.clear w' := by
  obtain ⟨c0, ⟨A, c, c1, _⟩, _, _⟩ := h.cells
  have zm := ntMade_yes b w c0
  have zl := lose_any h 0 s.way.length (Nat.zero_le _) (Nat.le_refl _) hl
  rw [Nat.sub_zero, clearW, show ((0 : Nat) : Int) = 0 from rfl] at zl
  obtain ⟨n, hn⟩ : ∃ n, n = s.way.length := ⟨_, rfl⟩
  rw [← hn] at c1 zl
  clear h hl hn
  go_enter Try.func24, Try.ntmps24
  go_wp2_with (first
    | (go_at_call 36; (with_reducible refine zm.mono ?_); (rintro e w2 ⟨rfl, rfl⟩))
    | (go_at_call 45; (with_reducible refine zl.mono ?_); (rintro e w3 ⟨rfl, T3⟩; have T3 := Lib.hid T3)))
  go_ret
  exact ⟨rfl, T3.out⟩
end
end Go.Proofs.Ytplfhlmipdlmnaa
