/-
  The walk of FrameKnown. Conditions: the table of crc lies as the program's text lays it.
-/
import Derived.Test.YtfiijnpabmocdaaDoorFrAwake
namespace Go.Proofs.YtfiijnpabmocdaaDoor
open Go.RowKit Fix

set_option maxRecDepth 100000 in
set_option maxHeartbeats 1000000 in
theorem frknown_any (w : World) (ht : TabAt w) : Calls Tryd.prog 6 #[] w fun e w' => e = .returned (.bool true) ∧ Below w.heap.size w w' := by
  have z0 : ∀ (w : World) (ht : TabAt w) (g : Nat) (hg : g = w.heap.size), Calls Tryd.prog 18 #[.slice (some ⟨g, 0, none⟩) 9 9, .int .i64 220, .int .i64 0] (w.alloc (.cells #[.int .u8 84, .int .u8 84, .int .u8 84, .int .u8 84, .int .u8 84, .int .u8 84, .int .u8 84, .int .u8 84, .int .u8 84] 5)) (fun e w' => e = .returned (.bool true) ∧ Below w.heap.size w w') := fun w ht g hg => faulty_lit [84, 84, 84, 84, 84, 84, 84, 84, 84] 220 0 (by decide +kernel) (by decide +kernel) (by decide) 9 rfl (by decide) w ht g hg
  have z1 : ∀ (w : World) (ht : TabAt w) (g : Nat) (hg : g = w.heap.size), Calls Tryd.prog 18 #[.slice (some ⟨g, 0, none⟩) 9 9, .int .i64 221, .int .i64 2] (w.alloc (.cells #[.int .u8 84, .int .u8 68, .int .u8 2, .int .u8 0, .int .u8 0, .int .u8 0, .int .u8 0, .int .u8 0, .int .u8 0] 5)) (fun e w' => e = .returned (.bool true) ∧ Below w.heap.size w w') := fun w ht g hg => faulty_lit [84, 68, 2, 0, 0, 0, 0, 0, 0] 221 2 (by decide +kernel) (by decide +kernel) (by decide) 9 rfl (by decide) w ht g hg
  have z2 : ∀ (w : World) (ht : TabAt w) (g : Nat) (hg : g = w.heap.size), Calls Tryd.prog 18 #[.slice (some ⟨g, 0, none⟩) 9 9, .int .i64 4, .int .i64 3] (w.alloc (.cells #[.int .u8 84, .int .u8 68, .int .u8 1, .int .u8 1, .int .u8 0, .int .u8 0, .int .u8 0, .int .u8 0, .int .u8 0] 5)) (fun e w' => e = .returned (.bool true) ∧ Below w.heap.size w w') := fun w ht g hg => faulty_lit [84, 68, 1, 1, 0, 0, 0, 0, 0] 4 3 (by decide +kernel) (by decide +kernel) (by decide) 9 rfl (by decide) w ht g hg
  have z3 : ∀ (w : World) (ht : TabAt w) (g : Nat) (hg : g = w.heap.size), Calls Tryd.prog 18 #[.slice (some ⟨g, 0, none⟩) 9 9, .int .i64 11, .int .i64 5] (w.alloc (.cells #[.int .u8 84, .int .u8 68, .int .u8 1, .int .u8 0, .int .u8 0, .int .u8 0, .int .u8 0, .int .u8 0, .int .u8 0] 5)) (fun e w' => e = .returned (.bool true) ∧ Below w.heap.size w w') := fun w ht g hg => faulty_lit [84, 68, 1, 0, 0, 0, 0, 0, 0] 11 5 (by decide +kernel) (by decide +kernel) (by decide) 9 rfl (by decide) w ht g hg
  have z4 : ∀ (w : World) (ht : TabAt w) (g : Nat) (hg : g = w.heap.size), Calls Tryd.prog 18 #[.slice (some ⟨g, 0, none⟩) 9 9, .int .i64 3, .int .i64 3] (w.alloc (.cells #[.int .u8 84, .int .u8 68, .int .u8 1, .int .u8 201, .int .u8 0, .int .u8 0, .int .u8 0, .int .u8 0, .int .u8 0] 5)) (fun e w' => e = .returned (.bool true) ∧ Below w.heap.size w w') := fun w ht g hg => faulty_lit [84, 68, 1, 201, 0, 0, 0, 0, 0] 3 3 (by decide +kernel) (by decide +kernel) (by decide) 9 rfl (by decide) w ht g hg
  go_enter Tryd.func6, Tryd.ntmps6
  go_wp2_with (first
    | (go_at_call 15; refine (awake_any w3 t3.out).mono ?_; (rintro e w4 ⟨rfl, X⟩; have B4 := Lib.hid (step_trans B3.out X); have t4 := Lib.hid (ht.below B4.out (Nat.le_refl _))))
    | (go_at_call 18; first
      | ((with_reducible refine (z0 w ht _ rfl).mono ?_); (rintro e w1 ⟨rfl, X⟩; have B1 := Lib.hid (X); have t1 := Lib.hid (ht.below B1.out (Nat.le_refl _)); clear X))
      | ((with_reducible refine (z1 w1 t1.out _ rfl).mono ?_); (rintro e w2 ⟨rfl, X⟩; have B2 := Lib.hid (step_trans B1.out X); have t2 := Lib.hid (ht.below B2.out (Nat.le_refl _)); clear X))
      | ((with_reducible refine (z2 w2 t2.out _ rfl).mono ?_); (rintro e w3 ⟨rfl, X⟩; have B3 := Lib.hid (step_trans B2.out X); have t3 := Lib.hid (ht.below B3.out (Nat.le_refl _)); clear X))
      | ((with_reducible refine (z3 w4 t4.out _ rfl).mono ?_); (rintro e w5 ⟨rfl, X⟩; have B5 := Lib.hid (step_trans B4.out X); have t5 := Lib.hid (ht.below B5.out (Nat.le_refl _)); clear X))
      | ((with_reducible refine (z4 w5 t5.out _ rfl).mono ?_); (rintro e w6 ⟨rfl, X⟩; have B6 := Lib.hid (step_trans B5.out X); have t6 := Lib.hid (ht.below B6.out (Nat.le_refl _)); clear X))))
  go_ret
  exact ⟨rfl, B6.out⟩
end Go.Proofs.YtfiijnpabmocdaaDoor
