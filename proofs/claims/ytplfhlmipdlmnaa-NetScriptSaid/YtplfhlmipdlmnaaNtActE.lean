/-
  A call of both nets (tandemlaw14.act): Deliver. Conditions: how many were lost is a number far from the greatest.
-/
import Derived.Test.YtplfhlmipdlmnaaNtAct
namespace Go.Proofs.Ytplfhlmipdlmnaa
open Go.RowKit Nt

section
variable {w0 w w' : World} {b c : Nat} {s t s2 t2 : N} {Ws Wz : Nat → Prop}
set_option maxRecDepth 100000 in
set_option maxHeartbeats 4000000 in
theorem act_deliver (h : Du w0 w b c s s noW) (i to_ : Int) (is : Bool) (A : Option Addr) (n cb : Nat) (s2 : N) (hs : s.del i = s2) :
    Calls Try.prog 11 #[.pointer (some ⟨b, 0, none⟩), .pointer (some ⟨c, 0, none⟩), .agg #[.int .i64 2, .int .i64 i, .int .i64 to_, .bool is, .slice A n cb]] w (ActPost w0 b c s2) := by
  obtain ⟨p, hp⟩ : ∃ p, p = s.at_ i := ⟨_, rfl⟩
  obtain ⟨E, hE⟩ : ∃ E, E = s.lookE i := ⟨_, rfl⟩
  obtain ⟨M, hM⟩ : ∃ M, M = p.b.length := ⟨_, rfl⟩
  have bx1 : BlkR 34 (w.alloc (.cells #[.int .i64 2, .int .i64 i, .int .i64 to_, .bool is, .slice A n cb] 34)) w.heap.size [.int .i64 2, .int .i64 i, .int .i64 to_, .bool is, .slice A n cb] := BlkR.new w _ _
  have z1 := du_look (du_box h (.cells #[.int .i64 2, .int .i64 i, .int .i64 to_, .bool is, .slice A n cb] 34)) i p E hp.symm hE.symm
  have zr := Lib.hid fun (wr : World) (Ws : Nat → Prop) (D : Du w0 wr b c s s Ws) => du_lookR D i p E hp.symm hE.symm
  have zr2 := Lib.hid fun (wr : World) (Ws : Nat → Prop) (D : Du w0 wr b c s2 s Ws) => du_deliverR D i p E s2 hp.symm hE.symm hs
  have zn2 := Lib.hid fun (wr : World) (Ws : Nat → Prop) (D : Du w0 wr b c s s Ws) => du_deliver D i p E s2 hp.symm hE.symm hs
  have HX := Lib.hid (And.intro bx1 hM)
  have x0 := bx1.cell (k := 0) rfl
  have x1 := bx1.cell (k := 1) rfl
  have eE : (E == E) = true := beq_self_eq_true _
  unfold DuTells pkCells at z1
  unfold DuTells pkCells at zn2
  unfold DuTellR pkCells at zr zr2
  dsimp only at z1 zr zr2 zn2
  rw [← hM] at z1 zr zr2 zn2
  unfold ActPost
  clear h hp hE hM bx1 hs
  go_enter Try.func11, Try.ntmps11
  go_wp2_with (first
    | (go_at_call 19; (with_reducible refine z1.mono ?_); (rintro e w2 ⟨A1, k1, rfl, hk1, o2, D2, f2⟩; have bx2 : BlkR 34 w2 w.heap.size [.int .i64 2, .int .i64 i, .int .i64 to_, .bool is, .slice A n cb] := (f2.block w.heap.size HX.out.1.lt fun e => e.1 rfl).trans HX.out.1; have H2 := Lib.hid (And.intro D2 (And.intro o2 (And.intro bx2 (And.intro hk1 f2.size)))); clear hk1 o2 D2 f2 bx2))
    | ((with_reducible refine atWorld w2 ?_); refine wpList_allocRow (w := w2) info_pk rfl rfl ?_; (intro w3 b3 B3 s3; have b3 := Lib.hid b3; replace s3 := Lib.hid s3))
    | ((with_reducible refine atWorld w3 ?_); refine wpList_storeRow (w := w3) info_pk rfl (.tmp 9) (.tmp 54) rfl w2.heap.size [.int .i64 (p.fr : Int), .int .i64 (p.to : Int), .slice A1 M k1] pkZ rfl rfl rfl rfl (pk3_one _ _ _ _ _) b3.out ?_; (intro w4 b4 B4 s4 k4; have B24 := B3.trans B4; have D4 : Du w0 w4 b c s s (fun j => (j = w.heap.size ∨ BlockOf A1 k1 j) ∨ j = w2.heap.size) := H2.out.1.add B24 (fun j hj => hj.imp id fun e => (by rw [e]; exact ⟨Nat.le_refl _, b4.lt⟩)); have bx4 := H2.out.2.2.1.below B24 H2.out.2.2.1.lt; have o4 := H2.out.2.1.step B24; have y4 := bx4.cell (k := 1) rfl; have z2 := zr.out w4 _ D4; have H4 := Lib.hid (And.intro bx4 (And.intro o4 (And.intro b4 (And.intro H2.out.2.2.2.1 (show w.heap.size < w2.heap.size ∧ w2.heap.size < w4.heap.size from ⟨by have := H2.out.2.2.2.2; simp at this; omega, b4.lt⟩))))); clear b4 B4 s4 k4 D4 bx4 o4 B24 H2 b3 B3 s3))
    | (go_at_call 30; (with_reducible refine z2.mono ?_); (rintro e w5 ⟨A2, k2, rfl, r5, _, D5⟩; have bx5 := D5.blk (.inl (.inl rfl)) H4.out.1; have bt5 := D5.blk (.inr rfl) H4.out.2.2.1; have o5 := D5.whole (fun j e => .inl (.inr e)) H4.out.2.1; have H5 := Lib.hid (And.intro D5.1 (And.intro bx5 (And.intro bt5 (And.intro o5 (And.intro r5 (And.intro H4.out.2.2.2.1 (show w.heap.size < w2.heap.size ∧ w2.heap.size < w5.heap.size from ⟨H4.out.2.2.2.2.1, Nat.lt_of_lt_of_le H4.out.2.2.2.2.2 D5.2.size⟩))))))); clear r5 D5 bx5 bt5 o5 H4))
    | ((with_reducible refine atWorld w5 ?_); refine wpList_allocRow (w := w5) info_pk rfl rfl ?_; (intro w6 b6 B6 s6; have b6 := Lib.hid b6; replace s6 := Lib.hid s6))
    | ((with_reducible refine atWorld w6 ?_); refine wpList_storeRow (w := w6) info_pk rfl (.tmp 11) (.tmp 61) rfl w5.heap.size [.int .i64 (p.fr : Int), .int .i64 (p.to : Int), .slice A2 M k2] pkZ rfl rfl rfl rfl (pk3_one _ _ _ _ _) b6.out ?_; (intro w7 b7 B7 s7 k7; have B57 := B6.trans B7; have bx7 := H5.out.2.1.below B57 H5.out.2.1.lt; have bt7 := H5.out.2.2.1.below B57 H5.out.2.2.1.lt; have y7 := bx7.cell (k := 0) rfl; have y7b := bx7.cell (k := 1) rfl; have D7 : Du w0 w7 b c s s (fun j => (j = w.heap.size ∨ j = w2.heap.size) ∨ j = w5.heap.size) := H5.out.1.add B57 (fun j hj => hj.elim (fun e => .inl (e.elim (fun e => .inl (.inl e)) fun e => .inr e)) fun e => .inr (by rw [e]; exact ⟨Nat.le_refl _, b7.lt⟩)); have z3 := zn2.out w7 _ D7; have H7 := Lib.hid (And.intro bx7 (And.intro bt7 (And.intro b7 (show w.heap.size < w2.heap.size ∧ w2.heap.size < w5.heap.size ∧ w5.heap.size < w7.heap.size from ⟨H5.out.2.2.2.2.2.2.1, H5.out.2.2.2.2.2.2.2, b7.lt⟩)))); clear b7 B7 s7 k7 bx7 bt7 B57 H5 b6 B6 s6 D7))
    | (go_at_call 20; (with_reducible refine z3.mono ?_); (rintro e w8 ⟨A3, k3, rfl, hk3, o8, D8, f8⟩; have bx8 := (f8.block _ H7.out.1.lt (fun e => e.1 (.inl (.inl rfl)))).trans H7.out.1; have bt8 : BlkR 48 w8 w2.heap.size [.int .i64 (p.fr : Int), .int .i64 (p.to : Int), .slice A1 M k1] := (f8.block _ H7.out.2.1.lt (fun e => e.1 (.inl (.inr rfl)))).trans H7.out.2.1; have b8 : BlkR 48 w8 w5.heap.size [.int .i64 (p.fr : Int), .int .i64 (p.to : Int), .slice A2 M k2] := (f8.block _ H7.out.2.2.1.lt (fun e => e.1 (.inr rfl))).trans H7.out.2.2.1; have bx8 : BlkR 34 w8 w.heap.size [.int .i64 2, .int .i64 i, .int .i64 to_, .bool is, .slice A n cb] := bx8; have H8 := Lib.hid (And.intro D8 (And.intro bx8 (And.intro bt8 (And.intro b8 (And.intro o8 (And.intro hk3 f8.size)))))); clear D8 bx8 bt8 b8 o8 hk3 f8))
    | ((with_reducible refine atWorld w8 ?_); refine wpList_storeRow (w := w8) info_pk rfl (.tmp 9) (.tmp 71) rfl w2.heap.size [.int .i64 (p.fr : Int), .int .i64 (p.to : Int), .slice A3 M k3] [.int .i64 (p.fr : Int), .int .i64 (p.to : Int), .slice A1 M k1] rfl rfl rfl rfl (pk3_one _ _ _ _ _) H8.out.2.2.1 ?_; (intro w9 b9 B9 s9 k9; have fr9 : Frame (fun j => j = w2.heap.size) w8 w9 := ⟨B9.os, B9.tape, B9.output, B9.size, fun j hj hn => k9 j hn⟩; have D9 := H8.out.1.wrote (fr9.mono fun j e => .inl (.inl (.inr e))); have bx9 := (fr9.block _ H8.out.2.1.lt (fun e => by have := H7.out.2.2.2; omega)).trans H8.out.2.1; have bx9 : BlkR 34 w9 w.heap.size [.int .i64 2, .int .i64 i, .int .i64 to_, .bool is, .slice A n cb] := bx9; have bu9 : BlkR 48 w9 w5.heap.size [.int .i64 (p.fr : Int), .int .i64 (p.to : Int), .slice A2 M k2] := (fr9.block _ H8.out.2.2.2.1.lt (fun e => by have := H7.out.2.2.2; omega)).trans H8.out.2.2.2.1; have o9 := H8.out.2.2.2.2.1.frame fr9 (fun j e => by have := H7.out.2.2.2; omega); have y9 := bx9.cell (k := 1) rfl; have z4 := zr2.out w9 _ D9; have H9 := Lib.hid (And.intro b9 (And.intro bu9 (And.intro o9 (And.intro H8.out.2.2.2.2.2.1 (Nat.le_trans H8.out.2.2.2.2.2.2 fr9.size))))); clear b9 B9 s9 k9 fr9 D9 bx9 bu9 o9 H8))
    | (go_at_call 31; (with_reducible refine z4.mono ?_); (rintro e w10 ⟨A4, k4, rfl, r10, n10, D10⟩; have bt10 := D10.blk (.inl (.inl (.inr rfl))) H9.out.1; have bu10 := D10.blk (.inl (.inr rfl)) H9.out.2.1; have o10 := D10.whole (fun j e => .inr e) H9.out.2.2.1; have n10 := (fun ad e hne x => n10 ad e hne (.inl (.inr x)) : ∀ ad, A4 = some ad → p.b ≠ [] → ¬ ad.block = w5.heap.size); have H10 := Lib.hid (And.intro D10.1 (And.intro bt10 (And.intro bu10 (And.intro o10 (And.intro r10 (And.intro n10 (And.intro H9.out.2.2.2.1 (Nat.le_trans H9.out.2.2.2.2 D10.2.size)))))))); clear bt10 bu10 o10 r10 n10 D10 H9))
    | ((with_reducible refine atWorld w10 ?_); refine wpList_storeRow (w := w10) info_pk rfl (.tmp 11) (.tmp 78) rfl w5.heap.size [.int .i64 (p.fr : Int), .int .i64 (p.to : Int), .slice A4 M k4] [.int .i64 (p.fr : Int), .int .i64 (p.to : Int), .slice A2 M k2] rfl rfl rfl rfl (pk3_one _ _ _ _ _) H10.out.2.2.1 ?_; (intro w11 b11 B11 s11 k11; have fr11 : Frame (fun j => j = w5.heap.size) w10 w11 := ⟨B11.os, B11.tape, B11.output, B11.size, fun j hj hn => k11 j hn⟩; have D11 := H10.out.1.wrote (fr11.mono fun j e => .inl (.inr e)); have bt11 : BlkR 48 w11 w2.heap.size [.int .i64 (p.fr : Int), .int .i64 (p.to : Int), .slice A3 M k3] := (fr11.block _ H10.out.2.1.lt (fun e => by have := H7.out.2.2.2; omega)).trans H10.out.2.1; have o11 := H10.out.2.2.2.1.frame fr11 (fun j e => by have := H7.out.2.2.2; omega); have r11 : BytesAt w11 w11.heap.size A4 p.b := (by by_cases hne : p.b = []; (rw [hne]; exact bytes_nil); exact fr11.bytes H10.out.2.2.2.2.1 fun ad e => H10.out.2.2.2.2.2.1 ad e hne); have zs := samePk_yes (p.fr : Int) (p.to : Int) A3 A4 p.b M k3 k4 HX.out.2.symm w11 o11.bytes r11; have H11 := Lib.hid (And.intro D11 (And.intro bt11 (And.intro b11 (And.intro o11 (And.intro H10.out.2.2.2.2.2.2.1 (Nat.le_trans H10.out.2.2.2.2.2.2.2 fr11.size)))))); clear b11 B11 s11 k11 fr11 D11 bt11 o11 r11 H10))
    | ((with_reducible refine atWorld w11 ?_); refine wpList_loadRow (w := w11) info_pk rfl (.tmp 9) rfl w2.heap.size 0 [.int .i64 (p.fr : Int), .int .i64 (p.to : Int), .slice A3 M k3] rfl rfl (rangeOf H11.out.2.1) ?_)
    | ((with_reducible refine atWorld w11 ?_); refine wpList_loadRow (w := w11) info_pk rfl (.tmp 11) rfl w5.heap.size 0 [.int .i64 (p.fr : Int), .int .i64 (p.to : Int), .slice A4 M k4] rfl rfl (rangeOf H11.out.2.2.1) ?_)
    | (go_at_call 21; (with_reducible refine zs.mono ?_); (rintro e w12 ⟨rfl, B12⟩; have bt12 := H11.out.2.1.below B12 H11.out.2.1.lt; have y12 := bt12.cell (k := 2) rfl; have zo := over_whole A3 p.b M k3 _ HX.out.2.symm H11.out.2.2.2.2.1 w12 (H11.out.2.2.2.1.step B12) (Nat.le_trans H11.out.2.2.2.2.2 B12.size); have H12 := Lib.hid (H11.out.1.step B12); clear bt12))
    | (go_at_call 29; (with_reducible refine zo.mono ?_); (rintro e w13 ⟨rfl, _, F13⟩; have H13 := Lib.hid (H12.out.wrote (F13.mono fun j e => .inr e)))))
  go_ret
  exact ⟨rfl, H13.out.less fun _ e => e.elim⟩
end
end Go.Proofs.Ytplfhlmipdlmnaa
