/-
  The walk of NetKnown. Conditions: none.
-/
import Derived.Test.YtplfhlmipdlmnaaNtAwake
namespace Go.Proofs.Ytplfhlmipdlmnaa
open Go.RowKit Nt

theorem nz_long {w0 w : World} {b : Nat} {s : N} {Wy : Nat → Prop} (h : Nz w0 w b s Wy) (i j : Int) (P : Option Addr) (n c : Nat) (hl : link i j = true) (hn : 512 < n) : Calls Try.prog 17 #[.pointer (some ⟨b, 0, none⟩), .int .i64 i, .int .i64 j, .slice P n c] w fun e w' => e = .returned (.int .i64 3) ∧ w = w' := by
  obtain ⟨F, h1, _⟩ := h
  exact ntSend_long h1 i j P n c hl hn
def kn1 : N := Nt.new.send 0 1 [7]
def kn2 : N := kn1.double 0
def kn3 : N := Nt.new.cut 0 1 true
def kn4 : N := kn3.send 0 1 [7]
def kn5 : N := kn4.send 1 0 [7]
set_option maxRecDepth 100000 in
set_option maxHeartbeats 4000000 in
theorem ntKnown_any (w : World) : Calls Try.prog 8 #[] w fun e w' => e = .returned (.bool true) ∧ Below w.heap.size w w' := by
  have z0 := nz_new w w (Below.refl _ w)
  obtain ⟨o5, ho5⟩ : ∃ o, o = Obj.cells (List.replicate 513 (Value.int .u8 0)).toArray 5 := ⟨_, rfl⟩
  have hmk : ∀ W, (Instr.makeSlice 32 (.int .i64 513) (.int .i64 513)).run Try.prog W = .ok (.slice (some ⟨W.heap.size, 0, none⟩) 513 513) (W.alloc o5) := fun W => by rw [ho5]; exact make_bytes 513 (by decide) W
  clear ho5
  go_enter Try.func8, Try.ntmps8
  go_wp2_with (first
    | (go_at_call 9; first
      | ((with_reducible refine z0.mono ?_); (rintro e w1 ⟨rfl, H1, _⟩; have zs1 := nz_one H1 0 1 7 7 rfl (by decide) 0 kn1 rfl rfl; clear H1))
      | ((with_reducible refine (zm (w9.alloc o5) BM).mono ?_); (rintro e w11 ⟨rfl, HM, _⟩; rw [World.size_alloc] at HM; have zd := nz_deliver HM 0 zPk 5 Nt.new rfl rfl rfl; unfold Tells pkCells zPk at zd; dsimp only at zd; clear HM)))
    | (go_at_call 17; first
      | ((with_reducible refine zs1.mono ?_); (rintro e w2 ⟨rfl, H2, _⟩; have zdb := nz_double H2 0 0 kn2 rfl rfl; clear H2))
      | ((with_reducible refine zs2.mono ?_); (rintro e w8 ⟨rfl, H8, _⟩; have zs3 := nz_one H8 0 3 7 7 rfl (by decide) 2 kn2 rfl rfl; clear H8))
      | ((with_reducible refine zs3.mono ?_); (rintro e w9 ⟨rfl, H9, _⟩; have HX := H9.step (step_alloc (Below.refl _ w9) o5); have zs4 := nz_long HX 0 1 (some ⟨w9.heap.size, 0, none⟩) 513 513 rfl (by decide); have HX := Lib.hid HX.fr; clear H9))
      | ((with_reducible refine zs4.mono ?_); (rintro e w10 ⟨rfl, rfl⟩; have BM := HX.out; have zm := fun W B => nz_new w W B))
      | ((with_reducible refine zs5.mono ?_); (rintro e w16 ⟨rfl, H16, _⟩; have zc1 := nz_count H16 0 rfl; have zl1 := nz_lost H16 1 rfl; have zs6 := nz_one H16 1 0 7 7 rfl (by decide) 0 kn5 rfl rfl; clear H16))
      | ((with_reducible refine zs6.mono ?_); (rintro e w17 ⟨rfl, H17, _⟩; have zc2 := nz_count H17 1 rfl; have zaw := ntAwake_any w17; have H17 := Lib.hid H17.fr)))
    | (go_at_call 18; (with_reducible refine zdb.mono ?_); (rintro e w3 ⟨rfl, H3, _⟩; have zlk := nz_look H3 1 ⟨0, 1, [7]⟩ 0 rfl rfl; unfold Tells pkCells at zlk; dsimp only at zlk; clear H3))
    | (go_at_call 19; (with_reducible refine zlk.mono ?_); (rintro e w4 ⟨A, c, rfl, _, o4, H4, _⟩; have H4 := Lib.hid (H4.less (Wz := fun _ => False) fun _ e => e.elim); have o4 := Lib.hid o4.bytes))
    | ((with_reducible refine atWorld w4 ?_); refine wpList_allocRow (w := w4) info_pk rfl rfl ?_; (intro w5 b5 B5 s5; have b5 := Lib.hid b5; replace s5 := Lib.hid s5))
    | ((with_reducible refine atWorld w5 ?_); refine wpList_storeRow (w := w5) info_pk rfl (.tmp 2) (.tmp 26) rfl w4.heap.size [.int .i64 0, .int .i64 1, .slice A 1 c] pkZ rfl rfl rfl rfl (pk3_one _ _ _ _ _) b5.out ?_; (intro w6 b6 B6 s6 k6; have D6 := B5.trans B6; have zi := is_yes 0 1 A c 7 7 rfl w6 (o4.out.step D6); have b6 := Lib.hid b6; replace s6 := Lib.hid s6; clear k6))
    | ((with_reducible refine atWorld w6 ?_); refine wpList_loadRow (w := w6) info_pk rfl (.tmp 2) rfl w4.heap.size 0 [.int .i64 0, .int .i64 1, .slice A 1 c] rfl rfl (rangeOf b6.out) ?_)
    | (go_at_call 25; (with_reducible refine zi.mono ?_); (rintro e w7 ⟨rfl, B7⟩; have D7 := step_trans D6 B7; have zs2 := nz_one (H4.out.step D7) 0 0 7 7 rfl (by decide) 2 kn2 rfl rfl))
    | (go_at_call 20; (with_reducible refine zd.mono ?_); (rintro e w12 ⟨A2, c2, rfl, _, _, H12, _⟩; have H12 := Lib.hid (H12.less (Wz := fun _ => False) fun _ e => e.elim)))
    | ((with_reducible refine atWorld w12 ?_); refine wpList_allocRow (w := w12) info_pk rfl rfl ?_; (intro w13 b13 B13 s13; have b13 := Lib.hid b13; replace s13 := Lib.hid s13))
    | ((with_reducible refine atWorld w13 ?_); refine wpList_storeRow (w := w13) info_pk rfl (.tmp 6) (.tmp 55) rfl w12.heap.size [.int .i64 0, .int .i64 0, .slice A2 0 c2] pkZ rfl rfl rfl rfl (pk3_one _ _ _ _ _) b13.out ?_; (intro w14 b14 B14 s14 k14; have zct := nz_cut (H12.out.step (B13.trans B14)) 0 1 true 0 kn3 rfl rfl; have b14 := Lib.hid b14; replace s14 := Lib.hid s14; clear k14))
    | (go_at_call 23; (with_reducible refine zct.mono ?_); (rintro e w15 ⟨rfl, H15, _⟩; have zs5 := nz_one H15 0 1 7 7 rfl (by decide) 0 kn4 rfl rfl; clear H15))
    | (go_at_call 12; first
      | ((with_reducible refine zc1.mono ?_); (rintro e w90 ⟨rfl, rfl⟩))
      | ((with_reducible refine zc2.mono ?_); (rintro e w91 ⟨rfl, rfl⟩)))
    | (go_at_call 13; (with_reducible refine zl1.mono ?_); (rintro e w92 ⟨rfl, rfl⟩))
    | (go_at_call 10; (with_reducible refine zaw.mono ?_); (rintro e w18 ⟨rfl, B18⟩)))
  go_ret
  exact ⟨rfl, step_trans H17.out B18⟩
end Go.Proofs.Ytplfhlmipdlmnaa
