/-
  The walk of NetNone. Conditions: none.
-/
import Derived.Test.YtplfhlmipdlmnaaNtNo
import Derived.Test.YtplfhlmipdlmnaaNtAwake
namespace Go.Proofs.Ytplfhlmipdlmnaa
open Go.RowKit Nt

def ntZ : Array Value := #[.pointer none, .bool false, .bool false, .bool false, .bool false, .bool false, .bool false, .bool false, .bool false, .bool false, .slice none 0 0, .int .i64 0]
def vNt : Value → Nat
  | .int _ q => q.toNat
  | _ => 0
/-- the variables of the statement: a net that nobody made, the list of both -/
def noN (w : World) : World := (w.alloc (.cells ntZ 45)).alloc (.cells #[.pointer none, .pointer (some ⟨w.heap.size, 0, none⟩)] 23)
theorem noN_facts (w : World) : NoNet (noN w) (.pointer (some ⟨w.heap.size, 0, none⟩)) ∧ BlkR 23 (noN w) (w.heap.size + 1) [.pointer none, .pointer (some ⟨w.heap.size, 0, none⟩)] ∧ Below w.heap.size w (noN w) := by
  obtain ⟨w1, hw1⟩ : ∃ w1, w1 = w.alloc (.cells ntZ 45) := ⟨_, rfl⟩
  have hw2 : noN w = w1.alloc (.cells #[.pointer none, .pointer (some ⟨w.heap.size, 0, none⟩)] 23) := by rw [hw1]; rfl
  have s1 : w1.heap.size = w.heap.size + 1 := by rw [hw1]; simp
  have B1 : Below w.heap.size w w1 := by rw [hw1]; exact (Below.refl _ _).alloc (Nat.le_refl _) _
  have B2 : Below w1.heap.size w1 (noN w) := by rw [hw2]; exact (Below.refl _ _).alloc (Nat.le_refl _) _
  have b1 : BlkR 45 w1 w.heap.size ntZ.toList := by rw [hw1]; exact BlkR.new w ntZ.toList _
  have b2 : BlkR 23 (noN w) w1.heap.size [.pointer none, .pointer (some ⟨w.heap.size, 0, none⟩)] := by rw [hw2]; exact BlkR.new w1 _ _
  rw [s1] at b2
  exact ⟨.inr ⟨_, rfl, (BlkR.below b1 B2 b1.lt).cell rfl⟩, b2, step_trans B1 B2⟩
set_option maxRecDepth 100000 in
/-- samePacket of noughts -/
theorem same_zero (w : World) : Calls Try.prog 21 #[.agg #[.int .i64 0, .int .i64 0, .slice none 0 0], .agg #[.int .i64 0, .int .i64 0, .slice none 0 0]] w fun e w' => e = .returned (.bool true) ∧ Below w.heap.size w w' := by
  have zs := fun w1 : World => same_yes none [] 0 0 rfl none [] 0 0 rfl w1 bytes_nil bytes_nil rfl
  have B := step_alloc (step_alloc (Below.refl _ w) (.cells #[.int .i64 0, .int .i64 0, .slice none 0 0] 48)) (.cells #[.int .i64 0, .int .i64 0, .slice none 0 0] 48)
  go_enter Try.func21, Try.ntmps21
  go_wp2_with (go_at_call 44; refine (zs _).mono ?_; (rintro e w2 ⟨rfl, rfl⟩))
  go_ret
  exact ⟨rfl, B⟩
set_option maxRecDepth 100000 in
set_option maxHeartbeats 4000000 in
theorem ntNone_any (i0 j0 : Int) (w : World) : Calls Try.prog 5 #[.int .i64 i0, .int .i64 j0] w fun en w' => en = .returned (.bool true) ∧ Below w.heap.size w w' := by
  have zw := fun w => ntAwake_any w
  have zlk := fun (w : World) p (h : NoNet w p) => ntLook_no h i0
  have zdl := fun (w : World) p (h : NoNet w p) => ntDeliver_no h i0
  have zsd := fun (w : World) p (h : NoNet w p) => ntSend_no h i0 j0 (.slice none 0 0)
  have zdr := fun (w : World) p (h : NoNet w p) => ntDrop_no h i0
  have zdb := fun (w : World) p (h : NoNet w p) => ntDouble_no h i0
  have zct := fun (w : World) p (h : NoNet w p) => ntCut_no h i0 j0 true
  have zcl := fun (w : World) p (h : NoNet w p) => ntClear_no h
  have zcn := fun (w : World) p (h : NoNet w p) => ntCount_no h
  have zls := fun (w : World) p (h : NoNet w p) => ntLost_no h
  have zic := fun (w : World) p (h : NoNet w p) => ntIsCut_no h i0 j0
  have zsp := fun w => same_zero w
  unfold pkZ at zlk zdl
  obtain ⟨W, hW⟩ : ∃ W, W = noN w := ⟨_, rfl⟩
  have hf := noN_facts w
  rw [← hW] at hf
  unfold noN ntZ at hW
  have HS := Lib.hid hf.1
  have HB := Lib.hid hf.2.2
  have HF := Lib.hid hf.2.1
  clear hf
  go_enter Try.func5, Try.ntmps5
  go_wp2
  rw [← hW]
  clear hW
  obtain ⟨h, hh⟩ : ∃ h, h = w.heap.size := ⟨_, rfl⟩
  rw [← hh] at HF HS ⊢
  clear hh
  go_loopw [6] (fun ix wr => ∃ i : Nat, i ≤ 2 ∧ ix = .int .i64 (i : Int) ∧ Below W.heap.size W wr) (fun ix _ => 2 - vNt ix)
  case atStart => exact ⟨0, by omega, rfl, Below.refl _ _⟩
  case round =>
    obtain ⟨i, hi, rfl, hbr⟩ := hrel
    by_cases h2 : i = 2
    · subst h2
      go_wp2_with (go_at_call 10; refine (zw wr).mono ?_; (rintro e w2 ⟨rfl, hB2⟩))
      go_ret
      exact ⟨rfl, HB.out.trans ((step_trans hbr hB2).mono HB.out.size)⟩
    · obtain ⟨p, hp, hy⟩ : ∃ p, NoNet W p ∧ [Value.pointer none, .pointer (some ⟨h, 0, none⟩)][i]? = some p := by
        rcases (show i = 0 ∨ i = 1 by omega) with rfl | rfl
        · exact ⟨_, .inl rfl, rfl⟩
        · exact ⟨_, HS.out, rfl⟩
      have yr : wr.cell? ⟨h + 1, i, none⟩ = some p := (BlkR.below HF.out hbr HF.out.lt).cell hy
      have pr := hp.step hbr
      have hi0 : (0 : Int) ≤ (i : Int) := by omega
      have hi2 : (i : Int) < 2 := by omega
      have hw1 : IntKind.i64.wrap ((i : Int) + 1) = (i : Int) + 1 := IntWalk.i64_in _ (by omega)
      have HBR := Lib.hid hbr
      clear hp hy h2 hbr
      go_wp2_with (first
        | (go_at_call 19; refine (zlk wr p pr).mono ?_; (rintro e w1 ⟨rfl, B1⟩; have p1 := pr.step B1))
        | ((with_reducible refine atWorld w1 ?_); refine wpList_allocRow (w := w1) info_pk rfl rfl ?_; (intro w2 b2 B2 s2; have b2 := Lib.hid b2; replace s2 := Lib.hid s2))
        | ((with_reducible refine atWorld w2 ?_); refine wpList_storeRow (w := w2) info_pk rfl (.tmp 8) (.tmp 29) rfl w1.heap.size [.int .i64 0, .int .i64 0, .slice none 0 0] pkZ rfl rfl rfl rfl pkZ_one b2.out ?_; (intro w3 b3 B3 s3 k3; have D3 := B2.trans B3; have C3 := step_trans B1 D3; have p3 := p1.step D3; have b3 := Lib.hid b3; replace s3 := Lib.hid s3; clear k3))
        | (go_at_call 20; refine (zdl w3 p p3).mono ?_; (rintro e w4 ⟨rfl, B4⟩; have p4 := p3.step B4; have b4 := Lib.hid (b3.out.below B4 b3.out.lt)))
        | ((with_reducible refine atWorld w4 ?_); refine wpList_allocRow (w := w4) info_pk rfl rfl ?_; (intro w5 b5 B5 s5; have b5 := Lib.hid b5; replace s5 := Lib.hid s5))
        | ((with_reducible refine atWorld w5 ?_); refine wpList_storeRow (w := w5) info_pk rfl (.tmp 10) (.tmp 35) rfl w4.heap.size [.int .i64 0, .int .i64 0, .slice none 0 0] pkZ rfl rfl rfl rfl pkZ_one b5.out ?_; (intro w6 b6 B6 s6 k6; have D6 := B5.trans B6; have C6 := step_trans C3 (step_trans B4 D6); have p6 := p4.step D6; have b7 := b4.out.below D6 b4.out.lt; have x0 := b7.cell (k := 0) rfl; have x1 := b7.cell (k := 1) rfl; have x2 := b7.cell (k := 2) rfl; clear b7; have b6 := Lib.hid b6; replace s6 := Lib.hid s6; clear k6))
        | (go_at_call 21; with_reducible first
          | (refine (zsp w6).mono ?_; (rintro e w8 ⟨rfl, B8⟩; have b8 := b6.out.below B8 b6.out.lt; have v0 := b8.cell (k := 0) rfl; have v1 := b8.cell (k := 1) rfl; have v2 := b8.cell (k := 2) rfl; clear b8; have p8 := p6.step B8))
          | (refine (zsp w8).mono ?_; (rintro e w9 ⟨rfl, B9⟩; have p9 := p8.step B9; have C9 := step_trans C6 (step_trans B8 B9))))
        | (go_at_call 17; refine (zsd w9 p p9).mono ?_; (rintro e w' ⟨rfl, rfl⟩))
        | (go_at_call 22; refine (zdr w9 p p9).mono ?_; (rintro e w' ⟨rfl, rfl⟩))
        | (go_at_call 18; refine (zdb w9 p p9).mono ?_; (rintro e w10 ⟨rfl, B10⟩; have p10 := p9.step B10))
        | (go_at_call 23; refine (zct w10 p p10).mono ?_; (rintro e w' ⟨rfl, rfl⟩))
        | (go_at_call 24; refine (zcl w10 p p10).mono ?_; (rintro e w' ⟨rfl, rfl⟩))
        | (go_at_call 12; refine (zcn w10 p p10).mono ?_; (rintro e w' ⟨rfl, rfl⟩))
        | (go_at_call 13; refine (zls w10 p p10).mono ?_; (rintro e w' ⟨rfl, rfl⟩))
        | (go_at_call 14; refine (zic w10 p p10).mono ?_; (rintro e w' ⟨rfl, rfl⟩)))
      go_roundw
      case rel => exact ⟨i + 1, by omega, by go_num, step_trans HBR.out (step_trans C9 B10)⟩
      case measure => simp [vNt]; omega
end Go.Proofs.Ytplfhlmipdlmnaa
