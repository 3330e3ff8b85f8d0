/-
  The walk of DiskKnown. Conditions: a disk's methods do what the document says (Disks).
-/
import Derived.Test.YtmkibkafccgmgaaDiskAwake
import Derived.Test.YtmkibkafccgmgaaUndrew
import Derived.Deep.RegionHeld3
import Derived.Maps.AppendAt
namespace Go.Proofs.Ytmkibkafccgmgaa
open Go.RowKit

namespace Kn
def k0 : DS := DS.fresh 4
def k1 : DS := (k0.write 0 (sec 1)).1
def k2 : DS := k1.flush.1
def k3 : DS := (k2.write 0 (sec 2)).1
def k4 : DS := (k3.write 2 (sec 2)).1
def k5 : DS := k4.crash [true, true] 1
def half : List UInt8 := (sec 2).take 32 ++ (sec 0).take 32
def k6 : DS := (k5.write 0 (sec 1)).1
def k7 : DS := k6.flush.1
def k8 : DS := (k7.turn 0 5 3).1
def k9 : DS := (k8.fuse 1).1
def k10 : DS := (k9.write 0 (sec 1)).1
def k11 : DS := k10.flush.1
theorem f1 : (k0.write 0 (sec 1)).2 = 0 := by decide +kernel
theorem f2 : k1.flush.2 = 0 := by decide +kernel
theorem f3 : (k2.write 0 (sec 2)).2 = 0 := by decide +kernel
theorem f4 : (k3.write 2 (sec 2)).2 = 0 := by decide +kernel
theorem r5 : (k5.readE 0 == 0 && k5.readB 0 == sec 2) = true := by decide +kernel
theorem r5' : (k5.readE 2 == 0 && k5.readB 2 == half) = true := by decide +kernel
theorem g5 : (k5.write 4 (sec 1)).2 = 5 ∧ (k5.write 0 ((sec 1).take 3)).2 = 2 := by decide +kernel
theorem g5a : (k5.write 4 (sec 1)).1 = k5 := rfl
theorem g5b : (k5.write 0 ((sec 1).take 3)).1 = k5 := rfl
theorem f6 : (k5.write 0 (sec 1)).2 = 0 := by decide +kernel
theorem f7 : k6.flush.2 = 0 := by decide +kernel
theorem f8 : (k7.turn 0 5 3).2 = 0 := by decide +kernel
theorem r8 : k8.readE 0 = 0 ∧ (k8.readB 0).length = 64 ∧ (k8.readB 0).getD 5 0 = 2 ∧ (k8.readB 0).getD 4 0 = 1 := by decide +kernel
theorem f9 : (k8.fuse 1).2 = 0 := by decide +kernel
theorem f10 : (k9.write 0 (sec 1)).2 = 0 := by decide +kernel
theorem f11 : k10.flush.2 = 10 := by decide +kernel
theorem r11 : k11.readE 0 = 10 ∧ k11.readB 0 = [] ∧ k11.out = true := by decide +kernel
theorem ops : k0.ops ≤ 1000000 ∧ k1.ops ≤ 1000000 ∧ k2.ops ≤ 1000000 ∧ k3.ops ≤ 1000000 ∧ k5.ops ≤ 1000000 ∧ k6.ops ≤ 1000000 ∧ k9.ops ≤ 1000000 ∧ k10.ops ≤ 1000000 := by decide +kernel
end Kn
section
variable {At : World → Nat → (Nat → Prop) → DS → Prop} (D : Disks Try.prog At)
include D
set_option maxRecDepth 100000 in
theorem known_walk (w : World) : Calls Try.prog 8 #[] w fun e w' => e = .returned (.bool true) ∧ Below w.heap.size w w' := by
  have z0 : ∀ w, Calls Try.prog 10 #[.int .i64 4] w fun e w' => ∃ b F, e = .returned (.tuple #[.pointer (some ⟨b, 0, none⟩), .int .i64 0]) ∧ At w' b F Kn.k0 ∧ (∀ k, F k → w.heap.size ≤ k) ∧ Below w.heap.size w w' := fun w => D.new_yes 4 w (by decide) (by decide)
  have o1 : ∀ w, Calls Try.prog 28 #[.int .u8 1] w (OfPost 1 w) := fun w => of_any 1 w
  have o2 : ∀ w, Calls Try.prog 28 #[.int .u8 2] w (OfPost 2 w) := fun w => of_any 2 w
  have o0 : ∀ w, Calls Try.prog 28 #[.int .u8 0] w (OfPost 0 w) := fun w => of_any 0 w
  have hl1 := Lib.hid (sec_length 1)
  have hl2 := Lib.hid (sec_length 2)
  have hl0 := Lib.hid (sec_length 0)
  have HO := Lib.hid Kn.ops
  unfold OfPost at o1 o2 o0
  go_enter Try.func8, Try.ntmps8
  go_wp2_with (first
    | (go_at_call 10; ((with_reducible refine (z0 w).mono ?_); (rintro e w1 ⟨b, F0, rfl, hat1, hF0, c1⟩)))
    | (go_at_call 20; ((with_reducible refine (D.crash (w8.alloc (.cells #[.bool true, .bool true] 4)) b F4 Kn.k4 (some ⟨w8.heap.size, 0, none⟩) [true, true] 2 2 1 (At_alloc D hat8 _) ((BlkR.new w8 [.bool true, .bool true] 4).row ⟨[], rfl⟩ (by simp)) rfl (Nat.le_refl _)).mono ?_); (rintro e w9 ⟨F5, rfl, hat9, hF9, hFr9⟩; change At w9 b F5 Kn.k5 at hat9; obtain ⟨c9, hF5⟩ := chg_go (step_alloc c8 _) hF4 hF9 hFr9)))
    | (go_at_call 28; first
      | ((with_reducible refine (o1 w1).mono ?_); (rintro e w2 ⟨g2, rfl, hg2, hb2, hB2⟩; have hat2 := At_step D hat1 hB2; have c2 := step_trans c1 hB2))
      | ((with_reducible refine (o2 w4).mono ?_); (rintro e w5 ⟨g5, rfl, hg5, hb5, hB5⟩; have hat5 := At_step D hat4 hB5; have c5 := step_trans c4 hB5))
      | ((with_reducible refine (o2 w6).mono ?_); (rintro e w7 ⟨g7, rfl, hg7, hb7, hB7⟩; have hat7 := At_step D hat6 hB7; have c7 := step_trans c6 hB7)))
    | (go_at_call 18; first
      | ((with_reducible refine (D.write w2 b F0 Kn.k0 0 (some ⟨g2, 0, none⟩) (sec 1) 64 64 hat2 HO.out.1 hb2.at_ hl1.out (Nat.le_refl _)).mono ?_); (rintro e w3 ⟨F1, rfl, hat3, hF3, hFr3⟩; rw [Kn.f1]; change At w3 b F1 Kn.k1 at hat3; obtain ⟨c3, hF1⟩ := chg_go c2 hF0 hF3 hFr3))
      | ((with_reducible refine (D.write w5 b F2 Kn.k2 0 (some ⟨g5, 0, none⟩) (sec 2) 64 64 hat5 HO.out.2.2.1 hb5.at_ hl2.out (Nat.le_refl _)).mono ?_); (rintro e w6 ⟨F3, rfl, hat6, hF6, hFr6⟩; rw [Kn.f3]; change At w6 b F3 Kn.k3 at hat6; obtain ⟨c6, hF3⟩ := chg_go c5 hF2 hF6 hFr6))
      | ((with_reducible refine (D.write w7 b F3 Kn.k3 2 (some ⟨g7, 0, none⟩) (sec 2) 64 64 hat7 HO.out.2.2.2.1 hb7.at_ hl2.out (Nat.le_refl _)).mono ?_); (rintro e w8 ⟨F4, rfl, hat8, hF8, hFr8⟩; rw [Kn.f4]; change At w8 b F4 Kn.k4 at hat8; obtain ⟨c8, hF4⟩ := chg_go c7 hF3 hF8 hFr8)))
    | (go_at_call 19; first
      | ((with_reducible refine (D.flush w3 b F1 Kn.k1 hat3 HO.out.2.1).mono ?_); (rintro e w4 ⟨F2, rfl, hat4, hF4, hFr4⟩; rw [Kn.f2]; change At w4 b F2 Kn.k2 at hat4; obtain ⟨c4, hF2⟩ := chg_go c3 hF1 hF4 hFr4))))
  have hat9d : At w9.drew b F5 Kn.k5 := At_step D hat9 (Below.refl _ w9).drew
  have q12 : ∀ (g : Nat) (W : World), (Instr.slice 36 (.slice (some ⟨g, 0, none⟩) 64 64) none (some (.int .i64 32)) none).run Try.prog W = .ok (.slice (some ⟨g, 0, none⟩) 32 64) W := fun g W => cut_to (some ⟨g, 0, none⟩) 64 64 32 (by decide) W
  have HC := Lib.hid (And.intro c9 hF5)
  have hh := Lib.hid (show Kn.half.length = 64 by decide +kernel)
  have hh2 := Lib.hid (show ((sec 0).take 32).length = 32 by decide +kernel)
  have hh3 := Lib.hid (show ((sec 2).take 32).length + ((sec 0).take 32).length ≤ 100000000 by decide +kernel)
  clear c1 c2 c3 c4 c5 c6 c7 c8 c9 hat1 hat2 hat3 hat4 hat5 hat6 hat7 hat8 hF0 hF1 hF2 hF3 hF4 hF5 hFr3 hFr4 hFr6 hFr8 hFr9 hB2 hB5 hB7 hb2 hb5 hb7
  go_region_held3 (fun w' => At w' b F5 Kn.k5 ∧ Below w9.heap.size w9 w') (first | assumption | exact ⟨hat9d, (Below.refl _ w9).drew⟩ | exact ⟨hat14, cc14⟩ | exact ⟨hat15, cc15⟩ | exact ⟨hat13, cc13⟩ | exact ⟨hat12, cc12⟩ | exact ⟨hat11, cc11⟩ | exact ⟨hat10, cc10⟩) (first
    | (go_at_call 28; first
      | ((with_reducible refine (o2 w9.drew).mono ?_); (rintro e w10 ⟨g10, rfl, hg10, hb10, hB10⟩; have hat10 := At_step D hat9d hB10; have cc10 : Below w9.heap.size w9 w10 := undrewD hB10))
      | ((with_reducible refine (o2 w11).mono ?_); (rintro e w12 ⟨g12, rfl, hg12, hb12, hB12⟩; have hat12 := At_step D hat11 hB12; have cc12 := step_trans cc11 hB12))
      | ((with_reducible refine (o0 w12).mono ?_); (rintro e w13 ⟨g13, rfl, hg13, hb13, hB13⟩; have hat13 := At_step D hat12 hB13; have cc13 := step_trans cc12 hB13; have ho13 : OwnB w13 w11.heap.size (.slice (some ⟨g12, 0, none⟩) 32 64) ((sec 2).take 32) := (hb12.step hB13).own_cut hg12 32 64 (by rw [hl2.out]; decide) hl2.out (by decide))))
    | (go_at_call 29; first
      | ((with_reducible refine (reads_any D w10 b F5 Kn.k5 0 (some ⟨g10, 0, none⟩) (sec 2) 64 64 hl2.out hat10 hb10.at_).mono ?_); (rintro e w11 ⟨rfl, hB11⟩; rw [Kn.r5]; have hat11 := At_step D hat10 hB11; have cc11 := step_trans cc10 hB11))
      | ((obtain ⟨A14, c14, rfl, _⟩ := ho14.form); (rw [hh.out] at ho14 ⊢); (with_reducible refine (reads_any D w14 b F5 Kn.k5 2 A14 Kn.half 64 c14 hh.out hat14 ho14.bytes).mono ?_); (rintro e w15 ⟨rfl, hB15⟩; rw [Kn.r5']; have hat15 := At_step D hat14 hB15; have cc15 := step_trans cc14 hB15)))
    | (refine step_appendW (by rfl) (.tmp 58) (.tmp 60) 36 rfl rfl w11.heap.size _ ((sec 2).take 32) rfl ho13 (some ⟨g13, 0, none⟩) ((sec 0).take 32) 32 64 w13.heap.size rfl hh2.out (hb13.at_.take 32) hh3.out (Nat.le_trans hB12.size hB13.size) ?_; (intro v14 w14 ho14 hg14 hx14; have cx14 : Below w13.heap.size w13 w13 := Below.refl _ _; have hB14 : Below w11.heap.size w11 w14 := (step_trans hB12 hB13).grown hg14 (step_trans hB12 hB13).size (fun j hj => (ho13.lt j hj).1); have hat14 := At_step D hat11 hB14; have cc14 := step_trans cc11 hB14; change OwnB w14 w11.heap.size v14 Kn.half at ho14)))

  have c15 := step_trans HC.out.1 cc15
  have hF5 := HC.out.2
  have n0 : ∀ w, Calls Try.prog 10 #[.int .i64 0] w fun e w' => e = .returned (.tuple #[.pointer none, .int .i64 5]) ∧ Below w.heap.size w w' := fun w => D.new_no 0 w (by decide)
  have t8 : ∀ w F, At w b F Kn.k7 → Calls Try.prog 21 #[.pointer (some ⟨b, 0, none⟩), .int .i64 0, .int .i64 5, .int .u8 3] w fun e w' => ∃ F', e = .returned (.int .i64 (Kn.k7.turn 0 5 3).2) ∧ At w' b F' (Kn.k7.turn 0 5 3).1 ∧ (∀ k, F' k → F k ∨ w.heap.size ≤ k) ∧ Frame F w w' := fun w F h => D.turn w b F Kn.k7 0 5 3 h
  have q3 : ∀ (g : Nat) (W : World), (Instr.slice 36 (.slice (some ⟨g, 0, none⟩) 64 64) none (some (.int .i64 3)) none).run Try.prog W = .ok (.slice (some ⟨g, 0, none⟩) 3 64) W := fun g W => cut_to (some ⟨g, 0, none⟩) 64 64 3 (by decide) W
  have hl3 := Lib.hid (show ((sec 1).take 3).length = 3 by decide +kernel)
  clear hb10 hb12 hb13 ho13 ho14 hat9d hat10 hat11 hat12 hat13 hat14 cc10 cc11 cc12 cc13 cc14 hB10 hB11 hB12 hB13 hB15 z0 q12
  go_wp2_with (first
    | (go_at_call 10; ((with_reducible refine (n0 w19).mono ?_); (rintro e w20 ⟨rfl, hB20⟩; have hat20 := At_step D hat19 hB20; have c20 := step_trans c19 hB20)))
    | (go_at_call 21; ((with_reducible refine (t8 w23 F9 hat23).mono ?_); (rintro e w24 ⟨F10, rfl, hat24, hF24, hFr24⟩; rw [Kn.f8]; change At w24 b F10 Kn.k8 at hat24; obtain ⟨c24, hF10⟩ := chg_go c23 hF9 hF24 hFr24)))
    | (go_at_call 17; first
      | ((with_reducible refine (D.read w24 b F10 Kn.k8 0 hat24).mono ?_); (rintro e w25 ⟨A25, cc25, rfl, ho25, hB25⟩; rw [Kn.r8.2.1, Kn.r8.1]; obtain ⟨g25, rfl, x2, x3⟩ := twoCells ho25 Kn.r8.2.1 Kn.r8.2.2.1 Kn.r8.2.2.2; have hat25 := At_step D hat24 hB25; have c25 := step_trans c24 hB25; clear ho25))
      | ((with_reducible refine (D.read w29 b F13 Kn.k11 0 hat29).mono ?_); (rintro e w30 ⟨A30, cc30, rfl, ho30, hB30⟩; rw [Kn.r11.1]; have hat30 := At_step D hat29 hB30; have c30 := step_trans c29 hB30)))
    | (go_at_call 22; ((with_reducible refine (D.fuse w25 b F10 Kn.k8 1 hat25 (by decide) (by decide)).mono ?_); (rintro e w26 ⟨F11, rfl, hat26, hF26, hFr26⟩; rw [Kn.f9]; change At w26 b F11 Kn.k9 at hat26; obtain ⟨c26, hF11⟩ := chg_go c25 hF10 hF26 hFr26)))
    | (go_at_call 12; ((with_reducible refine (awake_any D w30).mono ?_); (rintro e w31 ⟨rfl, hB31⟩; have hat31 := At_step D hat30 hB31; have c31 := step_trans c30 hB31)))
    | (go_at_call 23; ((with_reducible refine (D.up w31 b F13 Kn.k11 hat31).mono ?_); (rintro e w32 ⟨rfl, hB32⟩; rw [Kn.r11.2.2])))
    | (go_at_call 28; first
      | ((with_reducible refine (o1 w15).mono ?_); (rintro e w16 ⟨g16, rfl, hg16, hb16, hB16⟩; have hat16 := At_step D hat15 hB16; have c16 := step_trans c15 hB16))
      | ((with_reducible refine (o1 w17).mono ?_); (rintro e w18 ⟨g18, rfl, hg18, hb18, hB18⟩; have hat18 := At_step D hat17 hB18; have c18 := step_trans c17 hB18))
      | ((with_reducible refine (o1 w20).mono ?_); (rintro e w21 ⟨g21, rfl, hg21, hb21, hB21⟩; have hat21 := At_step D hat20 hB21; have c21 := step_trans c20 hB21))
      | ((with_reducible refine (o1 w26).mono ?_); (rintro e w27 ⟨g27, rfl, hg27, hb27, hB27⟩; have hat27 := At_step D hat26 hB27; have c27 := step_trans c26 hB27)))
    | (go_at_call 18; first
      | ((with_reducible refine (D.write w16 b F5 Kn.k5 4 (some ⟨g16, 0, none⟩) (sec 1) 64 64 hat16 HO.out.2.2.2.2.1 hb16.at_ hl1.out (Nat.le_refl _)).mono ?_); (rintro e w17 ⟨F6, rfl, hat17, hF17, hFr17⟩; rw [Kn.g5.1]; change At w17 b F6 Kn.k5 at hat17; obtain ⟨c17, hF6⟩ := chg_go c16 hF5 hF17 hFr17))
      | ((with_reducible refine (D.write w18 b F6 Kn.k5 0 (some ⟨g18, 0, none⟩) ((sec 1).take 3) 3 64 hat18 HO.out.2.2.2.2.1 (hb18.at_.take 3) hl3.out (by decide)).mono ?_); (rintro e w19 ⟨F7, rfl, hat19, hF19, hFr19⟩; rw [Kn.g5.2]; change At w19 b F7 Kn.k5 at hat19; obtain ⟨c19, hF7⟩ := chg_go c18 hF6 hF19 hFr19))
      | ((with_reducible refine (D.write w21 b F7 Kn.k5 0 (some ⟨g21, 0, none⟩) (sec 1) 64 64 hat21 HO.out.2.2.2.2.1 hb21.at_ hl1.out (Nat.le_refl _)).mono ?_); (rintro e w22 ⟨F8, rfl, hat22, hF22, hFr22⟩; rw [Kn.f6]; change At w22 b F8 Kn.k6 at hat22; obtain ⟨c22, hF8⟩ := chg_go c21 hF7 hF22 hFr22))
      | ((with_reducible refine (D.write w27 b F11 Kn.k9 0 (some ⟨g27, 0, none⟩) (sec 1) 64 64 hat27 HO.out.2.2.2.2.2.2.1 hb27.at_ hl1.out (Nat.le_refl _)).mono ?_); (rintro e w28 ⟨F12, rfl, hat28, hF28, hFr28⟩; rw [Kn.f10]; change At w28 b F12 Kn.k10 at hat28; obtain ⟨c28, hF12⟩ := chg_go c27 hF11 hF28 hFr28)))
    | (go_at_call 19; first
      | ((with_reducible refine (D.flush w22 b F8 Kn.k6 hat22 HO.out.2.2.2.2.2.1).mono ?_); (rintro e w23 ⟨F9, rfl, hat23, hF23, hFr23⟩; rw [Kn.f7]; change At w23 b F9 Kn.k7 at hat23; obtain ⟨c23, hF9⟩ := chg_go c22 hF8 hF23 hFr23))
      | ((with_reducible refine (D.flush w28 b F12 Kn.k10 hat28 HO.out.2.2.2.2.2.2.2).mono ?_); (rintro e w29 ⟨F13, rfl, hat29, hF29, hFr29⟩; rw [Kn.f11]; change At w29 b F13 Kn.k11 at hat29; obtain ⟨c29, hF13⟩ := chg_go c28 hF12 hF29 hFr29))))
  go_ret
  exact ⟨rfl, step_trans c31 hB32⟩
end
end Go.Proofs.Ytmkibkafccgmgaa
