/-
  A call of both nets (tandemlaw14.act): Look. Conditions: how many were lost is a number far from the greatest.
-/
import Derived.Test.YtplfhlmipdlmnaaNtAct
namespace Go.Proofs.Ytplfhlmipdlmnaa
open Go.RowKit Nt

section
variable {w0 w w' : World} {b c : Nat} {s t s2 t2 : N} {Ws Wz : Nat → Prop}
set_option maxRecDepth 100000 in
set_option maxHeartbeats 4000000 in
theorem act_look (h : Du w0 w b c s s noW) (i to_ : Int) (is : Bool) (A : Option Addr) (n cb : Nat) :
    Calls Try.prog 11 #[.pointer (some ⟨b, 0, none⟩), .pointer (some ⟨c, 0, none⟩), .agg #[.int .i64 1, .int .i64 i, .int .i64 to_, .bool is, .slice A n cb]] w (ActPost w0 b c s) := by
  obtain ⟨p, hp⟩ : ∃ p, p = s.at_ i := ⟨_, rfl⟩
  obtain ⟨E, hE⟩ : ∃ E, E = s.lookE i := ⟨_, rfl⟩
  obtain ⟨M, hM⟩ : ∃ M, M = p.b.length := ⟨_, rfl⟩
  have bx1 : BlkR 34 (w.alloc (.cells #[.int .i64 1, .int .i64 i, .int .i64 to_, .bool is, .slice A n cb] 34)) w.heap.size [.int .i64 1, .int .i64 i, .int .i64 to_, .bool is, .slice A n cb] := BlkR.new w _ _
  have z1 := du_look (du_box h (.cells #[.int .i64 1, .int .i64 i, .int .i64 to_, .bool is, .slice A n cb] 34)) i p E hp.symm hE.symm
  have zr := Lib.hid fun (wr : World) (Ws : Nat → Prop) (D : Du w0 wr b c s s Ws) => du_lookR D i p E hp.symm hE.symm
  have HX := Lib.hid (And.intro bx1 hM)
  have x0 := bx1.cell (k := 0) rfl
  have x1 := bx1.cell (k := 1) rfl
  have eE : (E == E) = true := beq_self_eq_true _
  unfold DuTells pkCells at z1
  unfold DuTellR pkCells at zr
  dsimp only at z1 zr
  rw [← hM] at z1 zr
  unfold ActPost
  clear h hp hE hM bx1
  go_enter Try.func11, Try.ntmps11
  go_wp2_with (first
    | (go_at_call 19; (with_reducible refine z1.mono ?_); (rintro e w2 ⟨A1, k1, rfl, hk1, o2, D2, f2⟩; have bx2 : BlkR 34 w2 w.heap.size [.int .i64 1, .int .i64 i, .int .i64 to_, .bool is, .slice A n cb] := (f2.block w.heap.size HX.out.1.lt fun e => e.1 rfl).trans HX.out.1; have H2 := Lib.hid (And.intro D2 (And.intro o2 (And.intro bx2 (And.intro hk1 f2.size)))); clear hk1 o2 D2 f2 bx2))
    | ((with_reducible refine atWorld w2 ?_); refine wpList_allocRow (w := w2) info_pk rfl rfl ?_; (intro w3 b3 B3 s3; have b3 := Lib.hid b3; replace s3 := Lib.hid s3))
    | ((with_reducible refine atWorld w3 ?_); refine wpList_storeRow (w := w3) info_pk rfl (.tmp 9) (.tmp 54) rfl w2.heap.size [.int .i64 (p.fr : Int), .int .i64 (p.to : Int), .slice A1 M k1] pkZ rfl rfl rfl rfl (pk3_one _ _ _ _ _) b3.out ?_; (intro w4 b4 B4 s4 k4; have B24 := B3.trans B4; have D4 : Du w0 w4 b c s s (fun j => (j = w.heap.size ∨ BlockOf A1 k1 j) ∨ j = w2.heap.size) := H2.out.1.add B24 (fun j hj => hj.imp id fun e => (by rw [e]; exact ⟨Nat.le_refl _, b4.lt⟩)); have bx4 := H2.out.2.2.1.below B24 H2.out.2.2.1.lt; have o4 := H2.out.2.1.step B24; have y4 := bx4.cell (k := 1) rfl; have z2 := zr.out w4 _ D4; have H4 := Lib.hid (And.intro bx4 (And.intro o4 (And.intro b4 (And.intro H2.out.2.2.2.1 (Nat.le_trans H2.out.2.2.2.2 B24.size))))); clear b4 B4 s4 k4 D4 bx4 o4 B24 H2 b3 B3 s3))
    | (go_at_call 30; (with_reducible refine z2.mono ?_); (rintro e w5 ⟨A2, k2, rfl, r5, _, D5⟩; have bx5 := D5.blk (.inl (.inl rfl)) H4.out.1; have bt5 := D5.blk (.inr rfl) H4.out.2.2.1; have o5 := D5.whole (fun j e => .inl (.inr e)) H4.out.2.1; have H5 := Lib.hid (And.intro D5.1 (And.intro bx5 (And.intro bt5 (And.intro o5 (And.intro r5 (And.intro H4.out.2.2.2.1 (Nat.le_trans H4.out.2.2.2.2 D5.2.size))))))); clear r5 D5 bx5 bt5 o5 H4))
    | ((with_reducible refine atWorld w5 ?_); refine wpList_allocRow (w := w5) info_pk rfl rfl ?_; (intro w6 b6 B6 s6; have b6 := Lib.hid b6; replace s6 := Lib.hid s6))
    | ((with_reducible refine atWorld w6 ?_); refine wpList_storeRow (w := w6) info_pk rfl (.tmp 11) (.tmp 61) rfl w5.heap.size [.int .i64 (p.fr : Int), .int .i64 (p.to : Int), .slice A2 M k2] pkZ rfl rfl rfl rfl (pk3_one _ _ _ _ _) b6.out ?_; (intro w7 b7 B7 s7 k7; have B57 := B6.trans B7; have bx7 := H5.out.2.1.below B57 H5.out.2.1.lt; have bt7 := H5.out.2.2.1.below B57 H5.out.2.2.1.lt; have o7 := H5.out.2.2.2.1.step B57; have y7 := bx7.cell (k := 0) rfl; have zs := samePk_yes (p.fr : Int) (p.to : Int) A1 A2 p.b M k1 k2 HX.out.2.symm w7 o7.bytes (H5.out.2.2.2.2.1.step B57); have H7 := Lib.hid (And.intro (H5.out.1.step B57) (And.intro bt7 (And.intro b7 (And.intro o7 (And.intro H5.out.2.2.2.2.2.1 (Nat.le_trans H5.out.2.2.2.2.2.2 B57.size)))))); clear b7 B7 s7 k7 bx7 bt7 o7 B57 H5 b6 B6 s6))
    | ((with_reducible refine atWorld w7 ?_); refine wpList_loadRow (w := w7) info_pk rfl (.tmp 9) rfl w2.heap.size 0 [.int .i64 (p.fr : Int), .int .i64 (p.to : Int), .slice A1 M k1] rfl rfl (rangeOf H7.out.2.1) ?_)
    | ((with_reducible refine atWorld w7 ?_); refine wpList_loadRow (w := w7) info_pk rfl (.tmp 11) rfl w5.heap.size 0 [.int .i64 (p.fr : Int), .int .i64 (p.to : Int), .slice A2 M k2] rfl rfl (rangeOf H7.out.2.2.1) ?_)
    | (go_at_call 21; (with_reducible refine zs.mono ?_); (rintro e w8 ⟨rfl, B8⟩; have bt8 := H7.out.2.1.below B8 H7.out.2.1.lt; have y8 := bt8.cell (k := 2) rfl; have zo := over_whole A1 p.b M k1 _ HX.out.2.symm H7.out.2.2.2.2.1 w8 (H7.out.2.2.2.1.step B8) (Nat.le_trans H7.out.2.2.2.2.2 B8.size); have H8 := Lib.hid (H7.out.1.step B8); clear bt8))
    | (go_at_call 29; (with_reducible refine zo.mono ?_); (rintro e w9 ⟨rfl, _, F9⟩; have H9 := Lib.hid (H8.out.wrote (F9.mono fun j e => .inl (.inr e))))))
  go_ret
  exact ⟨rfl, H9.out.less fun _ e => e.elim⟩
end
end Go.Proofs.Ytplfhlmipdlmnaa
