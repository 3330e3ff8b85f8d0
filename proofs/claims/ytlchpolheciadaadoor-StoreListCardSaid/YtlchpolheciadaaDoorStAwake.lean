/-
  tandemlaw09.awake: what the document's examples say. Conditions: a disk's methods and a store's do what the document says; the table of crc lies as the program's text lays it.
-/
import Derived.Test.YtlchpolheciadaaDoorStKit
namespace Go.Proofs.YtlchpolheciadaaDoor
open Go.RowKit Fix

section
variable {At : World → Nat → (Nat → Prop) → DS → Prop} {SAt : World → Nat → (Nat → Prop) → Nat → StM → Prop} (D : Disks Tryd.prog At) (T : Stores At SAt)
include D T
theorem awake9_any (w : World) (ht : TabAt w) : Calls Tryd.prog 8 #[] w fun e w' => e = .returned (.bool true) ∧ Below w.heap.size w w' := by
  have zm := made_any D T 3 (by decide) (by decide) w ht
  rw [show ((3 : Nat) : Int) = 3 from rfl] at zm
  unfold MadePost at zm
  have z0 : ∀ w, Calls _ _ _ w (Of9Post 0 w) := fun w : World => of9_any 0 w
  have z1 : ∀ w, Calls _ _ _ w (Of9Post 1 w) := fun w : World => of9_any 1 w
  have z2 : ∀ w, Calls _ _ _ w (Of9Post 2 w) := fun w : World => of9_any 2 w
  unfold Of9Post at z0 z1 z2
  rw [show (((0 : UInt8).toNat : Nat) : Int) = 0 from rfl] at z0
  rw [show (((1 : UInt8).toNat : Nat) : Int) = 1 from rfl] at z1
  rw [show (((2 : UInt8).toNat : Nat) : Int) = 2 from rfl] at z2
  have zg : ∀ w b g H S N f, Duo At SAt w b g H S ⟨0, 3, N, false⟩ → St.Calm S 3 N f → ∀ A d, d.length = 32 → f 2 = d → TabAt w → Aside H w A d → Calls Tryd.prog 20 #[.pointer (some ⟨g, 0, none⟩), .int .i64 2, .slice A 32 32] w fun e w' => ∃ H', e = .returned (.bool true) ∧ Duo At SAt w' b g H' S ⟨0, 3, N, false⟩ ∧ Keep H w H' w' := by
    intro w b g H S N f h C A d hd hf t r
    have z := calm_gets D T h C 2 (by decide) A d 32 32 hd t r
    rw [hf, beq_self_eq_true] at z
    exact z
  have zp : ∀ w b g H S N f, Duo At SAt w b g H S ⟨0, 3, N, false⟩ → St.Calm S 3 N f → N < 100 → S.ops ≤ 900000 → ∀ A d, d.length = 32 → TabAt w → Aside H w A d → Calls Tryd.prog 11 #[.pointer (some ⟨g, 0, none⟩), .int .i64 2, .slice A 32 32] w fun e w' => ∃ H' S', e = .returned (.int .i64 0) ∧ Duo At SAt w' b g H' S' ⟨0, 3, N + 1, false⟩ ∧ St.Calm S' 3 (N + 1) (DS.upd f 2 d) ∧ S'.ops = S.ops + 4 ∧ Keep H w H' w' := by
    intro w b g H S N f h C hN ho A d hd t r
    exact (calm_put T h C 2 (by decide) (by omega) A d 32 32 hd rfl t ho r).mono fun e w' ⟨H', S', a1, a2, a3, a4, _, a6⟩ => ⟨H', S', a1, a2, a3, a4, a6⟩
  have zq : ∀ w b g H S N f, Duo At SAt w b g H { S with left := some 2 } ⟨0, 3, N, false⟩ → St.Calm S 3 N f → N < 100 → S.ops ≤ 900000 → ∀ A d, d.length = 32 → TabAt w → Aside H w A d → Calls Tryd.prog 11 #[.pointer (some ⟨g, 0, none⟩), .int .i64 2, .slice A 32 32] w fun e w' => ∃ H' S' s', e = .returned (.int .i64 10) ∧ Duo At SAt w' b g H' S' s' ∧ Keep H w H' w' := by
    intro w b g H S N f h C hN ho A d hd t r
    exact (calm_stop T h C 2 (by decide) (by omega) A d 32 32 hd rfl t ho r [] 0).mono fun e w' ⟨H', S', s', x, a1, a2, _, a4, _, a6, _⟩ => ⟨H', S', s', by rw [a1, a6 rfl], a2, a4⟩
  have zf : ∀ w b g H S N f, Duo At SAt w b g H S ⟨0, 3, N, false⟩ → St.Calm S 3 N f → Calls Tryd.prog 18 #[.pointer (some ⟨b, 0, none⟩), .int .i64 2] w fun e w' => ∃ H', e = .returned (.int .i64 0) ∧ Duo At SAt w' b g H' { S with left := some 2 } ⟨0, 3, N, false⟩ ∧ Keep H w H' w' := by
    intro w b g H S N f h C
    have z := duo_fuse D T h 2 (by decide) (by decide)
    rw [show S.fuse 2 = ({ S with left := some 2 }, 0) by unfold DS.fuse; rw [C.q.out]; rfl] at z
    exact z
  have zc : ∀ w b g H S s, Duo At SAt w b g H S s → Calls Tryd.prog 26 #[.pointer (some ⟨b, 0, none⟩), .slice none 0 0, .int .i64 0] w fun e w' => ∃ H', e = .returned (.int .i64 0) ∧ Keep H w H' w' := by
    intro w b g H S s h
    exact (duo_crash D T h none [] 0 0 0 RowAt.none_ rfl (Nat.le_refl _)).mono fun e w' ⟨H', a1, _, a3⟩ => ⟨H', a1, a3⟩
  have hl : ∀ w b g H S s, Duo At SAt w b g H S s → ∀ k, H k → k < w.heap.size := fun w b g H S s h => Duo.lt D T h
  have hst : ∀ w w' b g H S s, Duo At SAt w b g H S s → Below w.heap.size w w' → Duo At SAt w' b g H S s := fun w w' b g H S s h B => Duo.step D T h B
  have l0 := b32_length 0
  have l1 := b32_length 1
  have l2 := b32_length 2
  have ez : St.zeros = b32 0 := rfl
  rw [ez] at zm
  have HT := Lib.hid ht
  go_enter Tryd.func8, Tryd.ntmps8
  go_wp2_with (first
    | (go_at_call 16; refine zm.mono ?_; (rintro e w1 ⟨b, g, H1, S1, rfl, d1, C1, o1, _, n1, B1⟩))
    | (go_at_call 17; first
      | ((with_reducible refine (z0 w1).mono ?_); (rintro e w2 ⟨g2, rfl, hg2, x2, B2⟩; have d2 := hst _ _ _ _ _ _ _ d1 B2; have t2 := HT.out.below (step_trans B1 B2) (Nat.le_refl _); have a2 := aside_blk (hl _ _ _ _ _ _ d1) hg2 x2; have C2 := step_trans B1 B2))
      | ((with_reducible refine (z1 w3).mono ?_); (rintro e w4 ⟨g4, rfl, hg4, x4, B4⟩; have d4 := hst _ _ _ _ _ _ _ d3 B4; have C4 := step_trans C3 B4; have t4 := HT.out.below C4 (Nat.le_refl _); have a4 := aside_blk (hl _ _ _ _ _ _ d3) hg4 x4))
      | ((with_reducible refine (z1 w5).mono ?_); (rintro e w6 ⟨g6, rfl, hg6, x6, B6⟩; have d6 := hst _ _ _ _ _ _ _ d5 B6; have C6 := step_trans C5 B6; have t6 := HT.out.below C6 (Nat.le_refl _); have a6 := aside_blk (hl _ _ _ _ _ _ d5) hg6 x6))
      | ((with_reducible refine (z2 w8).mono ?_); (rintro e w9 ⟨g9, rfl, hg9, x9, B9⟩; have d9 := hst _ _ _ _ _ _ _ d8 B9; have C9 := step_trans C8 B9; have t9 := HT.out.below C9 (Nat.le_refl _); have a9 := aside_blk (hl _ _ _ _ _ _ d8) hg9 x9)))
    | (go_at_call 20; first
      | ((with_reducible refine (zg w2 b g H1 S1 1 _ d2 C1 _ (b32 0) l0 rfl t2 a2).mono ?_); (rintro e w3 ⟨H3, rfl, d3, K3⟩; obtain ⟨C3, n3⟩ := chg_go C2 n1 K3.own K3.fr))
      | ((with_reducible refine (zg w6 b g H5 S5 2 _ d6 P5 _ (b32 1) l1 (by simp [DS.upd]) t6 a6).mono ?_); (rintro e w7 ⟨H7, rfl, d7, K7⟩; obtain ⟨C7, n7⟩ := chg_go C6 n5 K7.own K7.fr)))
    | (go_at_call 11; first
      | ((with_reducible refine (zp w4 b g H3 S1 1 _ d4 C1 (by decide) (by omega) _ (b32 1) l1 t4 a4).mono ?_); (rintro e w5 ⟨H5, S5, rfl, d5, P5, o5, K5⟩; obtain ⟨C5, n5⟩ := chg_go C4 n3 K5.own K5.fr))
      | ((with_reducible refine (zq w9 b g H8 S5 2 _ d9 P5 (by decide) (by omega) _ (b32 2) l2 t9 a9).mono ?_); (rintro e w10 ⟨H10, S10, s10, rfl, d10, K10⟩; obtain ⟨C10, n10⟩ := chg_go C9 n8 K10.own K10.fr)))
    | (go_at_call 18; ((with_reducible refine (zf w7 b g H7 S5 2 _ d7 P5).mono ?_); (rintro e w8 ⟨H8, rfl, d8, K8⟩; obtain ⟨C8, n8⟩ := chg_go C7 n7 K8.own K8.fr)))
    | (go_at_call 26; ((with_reducible refine (zc w10 b g H10 S10 s10 d10).mono ?_); (rintro e w11 ⟨H11, rfl, K11⟩; obtain ⟨C11, n11⟩ := chg_go C10 n10 K11.own K11.fr))))
  go_ret
  exact ⟨rfl, C11⟩
end
end Go.Proofs.YtlchpolheciadaaDoor
