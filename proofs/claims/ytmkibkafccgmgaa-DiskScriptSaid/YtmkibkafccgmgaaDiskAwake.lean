/-
  The chapter's examples, as every law on disks looks at them (awake). Conditions: a disk's methods do what the document says (Disks).
-/
import Derived.Test.YtmkibkafccgmgaaDiskKit
namespace Go.Proofs.Ytmkibkafccgmgaa
open Go.RowKit

def aw1 : DS := ((DS.fresh 4).write 0 (sec 1)).1
def aw2 : DS := aw1.crash [] 0
theorem aw_facts : ((DS.fresh 4).write 0 (sec 1)).2 = 0 ∧ (aw1.readE 0 == 0 && aw1.readB 0 == sec 1) = true ∧ aw1.ops ≤ 1000000 ∧ (aw2.readE 0 == 0 && aw2.readB 0 == sec 0) = true ∧ aw2.ops = 1 ∧ aw2.out = false := by
  refine ⟨?_, ?_, ?_, ?_, ?_, ?_⟩ <;> decide +kernel
section
variable {At : World → Nat → (Nat → Prop) → DS → Prop} (D : Disks Try.prog At)
include D
theorem awake_any (w : World) : Calls Try.prog 12 #[] w fun e w' => e = .returned (.bool true) ∧ Below w.heap.size w w' := by
  have z0 : ∀ w, Calls Try.prog 10 #[.int .i64 4] w fun e w' => ∃ b F, e = .returned (.tuple #[.pointer (some ⟨b, 0, none⟩), .int .i64 0]) ∧ At w' b F (DS.fresh 4) ∧ (∀ k, F k → w.heap.size ≤ k) ∧ Below w.heap.size w w' := fun w => D.new_yes 4 w (by decide) (by decide)
  have o1 : ∀ w, Calls Try.prog 28 #[.int .u8 1] w (OfPost 1 w) := fun w => of_any 1 w
  have o0 : ∀ w, Calls Try.prog 28 #[.int .u8 0] w (OfPost 0 w) := fun w => of_any 0 w
  have HF := Lib.hid aw_facts
  have hl1 := Lib.hid (sec_length 1)
  have hl0 := Lib.hid (sec_length 0)
  unfold OfPost at o1 o0
  go_enter Try.func12, Try.ntmps12
  go_wp2_with (first
    | (go_at_call 10; ((with_reducible refine (z0 w).mono ?_); (rintro e w1 ⟨b, F, rfl, hat1, hF1, hB1⟩)))
    | (go_at_call 28; first
      | ((with_reducible refine (o1 w1).mono ?_); (rintro e w2 ⟨g2, rfl, hg2, hb2, hB2⟩; have hat2 := At_step D hat1 hB2))
      | ((with_reducible refine (o1 w3).mono ?_); (rintro e w4 ⟨g4, rfl, hg4, hb4, hB4⟩; have hat4 := At_step D hat3 hB4))
      | ((with_reducible refine (o0 w6).mono ?_); (rintro e w7 ⟨g7, rfl, hg7, hb7, hB7⟩; have hat7 := At_step D hat6 hB7)))
    | (go_at_call 18; ((with_reducible refine (D.write w2 b F (DS.fresh 4) 0 (some ⟨g2, 0, none⟩) (sec 1) 64 64 hat2 (Nat.zero_le _) hb2.at_ hl1.out (Nat.le_refl _)).mono ?_); (rintro e w3 ⟨F3, rfl, hat3, hF3, hFr3⟩; rw [HF.out.1]; change At w3 b F3 aw1 at hat3)))
    | (go_at_call 29; first
      | ((with_reducible refine (reads_any D w4 b F3 aw1 0 (some ⟨g4, 0, none⟩) (sec 1) 64 64 hl1.out hat4 hb4.at_).mono ?_); (rintro e w5 ⟨rfl, hB5⟩; rw [HF.out.2.1]; have hat5 := At_step D hat4 hB5))
      | ((with_reducible refine (reads_any D w7 b F6 aw2 0 (some ⟨g7, 0, none⟩) (sec 0) 64 64 hl0.out hat7 hb7.at_).mono ?_); (rintro e w8 ⟨rfl, hB8⟩; rw [HF.out.2.2.2.1]; have hat8 := At_step D hat7 hB8)))
    | (go_at_call 20; ((with_reducible refine (D.crash w5 b F3 aw1 none [] 0 0 0 hat5 RowAt.none_ rfl (Nat.le_refl _)).mono ?_); (rintro e w6 ⟨F6, rfl, hat6, hF6, hFr6⟩; change At w6 b F6 aw2 at hat6)))
    | (go_at_call 25; ((with_reducible refine (D.ops w8 b F6 aw2 hat8 (by rw [HF.out.2.2.2.2.1]; decide)).mono ?_); (rintro e w9 ⟨rfl, hB9⟩; rw [HF.out.2.2.2.2.1]; have hat9 := At_step D hat8 hB9)))
    | (go_at_call 23; ((with_reducible refine (D.up w9 b F6 aw2 hat9).mono ?_); (rintro e w10 ⟨rfl, hB10⟩; rw [HF.out.2.2.2.2.2]))))
  go_ret
  refine ⟨rfl, ?_⟩
  have s1 := hB1.size
  have s2 := hB2.size
  have s3 := hFr3.size
  have s4 := hB4.size
  have s5 := hB5.size
  have c2 := step_trans hB1 hB2
  have c3 := c2.trans (hFr3.below hF1 (Nat.le_trans s1 s2))
  have hF3' : ∀ k, F3 k → w.heap.size ≤ k := fun k hk => (hF3 k hk).elim (hF1 k) (fun h => by omega)
  have c5 := step_trans (step_trans c3 hB4) hB5
  have c6 := c5.trans (hFr6.below hF3' (by omega))
  exact step_trans (step_trans (step_trans (step_trans c6 hB7) hB8) hB9) hB10
end
end Go.Proofs.Ytmkibkafccgmgaa
