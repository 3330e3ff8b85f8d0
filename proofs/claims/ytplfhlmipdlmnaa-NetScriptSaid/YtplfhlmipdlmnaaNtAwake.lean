/-
  awake, NetKnown. Conditions: none.
-/
import Derived.Test.YtplfhlmipdlmnaaNtLaw
namespace Go.Proofs.Ytplfhlmipdlmnaa
open Go.RowKit Nt

theorem one_at (w : World) (x : UInt8) (X : Int) (hX : X = (x.toNat : Int)) : BytesAt (w.alloc (.cells #[.int .u8 X] 5)) (w.alloc (.cells #[.int .u8 X] 5)).heap.size (some ⟨w.heap.size, 0, none⟩) [x] := by subst hX; exact one_byte w x
theorem nz_one {w0 w : World} {b : Nat} {s : N} {Wy : Nat → Prop} (h : Nz w0 w b s Wy) (i j : Int) (x : UInt8) (X : Int) (hX : X = (x.toNat : Int)) (hl : s.lost ≤ 4611686018427387904) (E : Int) (s2 : N) (hE : N.sendE i j 1 = E) (hs : s.send i j [x] = s2) :
    Calls Try.prog 17 #[.pointer (some ⟨b, 0, none⟩), .int .i64 i, .int .i64 j, .slice (some ⟨w.heap.size, 0, none⟩) 1 1] (w.alloc (.cells #[.int .u8 X] 5)) fun e w' => e = .returned (.int .i64 E) ∧ Nz w0 w' b s2 Wy ∧ Frame (Xw w0 Wy) w w' := by
  have B := step_alloc (Below.refl _ w) (.cells #[.int .u8 X] 5)
  exact (nz_send (h.step B) i j _ [x] 1 1 rfl (one_at w x X hX) hl E s2 hE hs).mono fun e w' ⟨k1, k2, k3⟩ => ⟨k1, k2, (Frame.of_below (F := Xw w0 Wy) B).trans k3 fun j e => .inl e⟩
theorem send_eq {s : N} {i j : Int} {b : List UInt8} (h : N.sendE i j b.length = 0) : s.send i j b = if s.down (Nt.at_ i j) = true ∨ s.way.length = 4096 then { s with lost := s.lost + 1 } else s.push ⟨i.toNat, j.toNat, b⟩ := by
  unfold N.send
  rw [if_neg (by rw [h]; decide)]
  rfl
def aw1 : N := Nt.new.send 0 1 [7]
def aw2 : N := aw1.send 1 2 [8]
def aw3 : N := aw2.del 1
set_option maxRecDepth 100000 in
set_option maxHeartbeats 1000000 in
theorem ntAwake_any (w : World) : Calls Try.prog 10 #[] w fun e w' => e = .returned (.bool true) ∧ Below w.heap.size w w' := by
  have z0 := nz_new w w (Below.refl _ w)
  go_enter Try.func10, Try.ntmps10
  go_wp2_with (first
    | (go_at_call 9; (with_reducible refine z0.mono ?_); (rintro e w1 ⟨rfl, H1, _⟩; have zs1 := nz_one H1 0 1 7 7 rfl (by decide) 0 aw1 rfl rfl; clear H1))
    | (go_at_call 17; first
      | ((with_reducible refine zs1.mono ?_); (rintro e w2 ⟨rfl, H2, _⟩; have zs2 := nz_one H2 1 2 8 8 rfl (by decide) 0 aw2 rfl rfl; clear H2))
      | ((with_reducible refine zs2.mono ?_); (rintro e w3 ⟨rfl, H3, _⟩; have zd := nz_deliver H3 1 ⟨1, 2, [8]⟩ 0 aw3 rfl rfl rfl; unfold Tells pkCells at zd; dsimp only at zd; clear H3)))
    | (go_at_call 20; (with_reducible refine zd.mono ?_); (rintro e w4 ⟨A, c, rfl, _, o4, H4, _⟩; have H4 := Lib.hid H4; have o4 := Lib.hid o4.bytes))
    | ((with_reducible refine atWorld w4 ?_); refine wpList_allocRow (w := w4) info_pk rfl rfl ?_; (intro w5 b5 B5 s5; have b5 := Lib.hid b5; replace s5 := Lib.hid s5))
    | ((with_reducible refine atWorld w5 ?_); refine wpList_storeRow (w := w5) info_pk rfl (.tmp 2) (.tmp 22) rfl w4.heap.size [.int .i64 1, .int .i64 2, .slice A 1 c] pkZ rfl rfl rfl rfl (pk3_one _ _ _ _ _) b5.out ?_; (intro w6 b6 B6 s6 k6; have D6 := B5.trans B6; have zi := is_yes 1 2 A c 8 8 rfl w6 (o4.out.step D6); have b6 := Lib.hid b6; replace s6 := Lib.hid s6; clear k6))
    | ((with_reducible refine atWorld w6 ?_); refine wpList_loadRow (w := w6) info_pk rfl (.tmp 2) rfl w4.heap.size 0 [.int .i64 1, .int .i64 2, .slice A 1 c] rfl rfl (rangeOf b6.out) ?_)
    | (go_at_call 25; (with_reducible refine zi.mono ?_); (rintro e w7 ⟨rfl, B7⟩; have D7 := step_trans D6 B7; have H7 := H4.out.step D7; have zc := nz_count H7 1 rfl; have H7 := Lib.hid H7.fr))
    | (go_at_call 12; (with_reducible refine zc.mono ?_); (rintro e w8 ⟨rfl, rfl⟩)))
  go_ret
  exact ⟨rfl, H7.out⟩
end Go.Proofs.Ytplfhlmipdlmnaa
