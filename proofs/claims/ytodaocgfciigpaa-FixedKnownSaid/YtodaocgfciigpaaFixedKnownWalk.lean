/-
  The walk of FixedKnown. Conditions: none.
-/
import Derived.Test.YtodaocgfciigpaaFixAwake
import Derived.Test.YtodaocgfciigpaaKitStep
import Derived.Test.YtodaocgfciigpaaKitFault
namespace Go.Proofs.Ytodaocgfciigpaa
open Go.RowKit Fix

theorem putK1 (w : World) : Calls Try.prog 8 #[.int .i64 256, .int .i64 1] w fun e w' => ∃ A c, e = .returned (.tuple #[.slice A 0 c, .int .i64 5]) ∧ Below w.heap.size w w' := by
  refine (put_any 256 1 w (by omega)).mono ?_
  rintro e w' ⟨A, c, rfl, _, _, hbel⟩
  rw [show putB 256 1 = [] by decide +kernel, show putE 256 1 = 5 by decide +kernel]
  exact ⟨A, c, rfl, hbel⟩
theorem putK2 (w : World) : Calls Try.prog 8 #[.int .i64 1, .int .i64 8] w fun e w' => ∃ A c, e = .returned (.tuple #[.slice A 0 c, .int .i64 2]) ∧ Below w.heap.size w w' := by
  refine (put_any 1 8 w (by omega)).mono ?_
  rintro e w' ⟨A, c, rfl, _, _, hbel⟩
  rw [show putB 1 8 = [] by decide +kernel, show putE 1 8 = 2 by decide +kernel]
  exact ⟨A, c, rfl, hbel⟩
theorem getK3 (w : World) : Calls Try.prog 18 #[.slice (some ⟨w.heap.size, 0, none⟩) 3 3, .int .i64 2, .int .i64 2] (w.alloc (.cells #[.int .u8 9, .int .u8 2, .int .u8 1] 5)) fun e w' =>
    e = .returned (.tuple #[.int .i64 0, .int .i64 0, flt 4 3]) ∧ Below w.heap.size w w' := by
  refine (get_any _ [9, 2, 1] 3 2 2 (w.alloc (.cells #[.int .u8 9, .int .u8 2, .int .u8 1] 5)) (by decide) (by decide) ((bytes_new w [9, 2, 1] 5 (0, 0)).more (by simp))).mono ?_
  rintro e w' ⟨rfl, hbel⟩
  refine ⟨?_, step_trans (step_alloc (Below.refl _ _) _) hbel⟩
  rw [show getsN [9, 2, 1] 2 2 = 0 by decide +kernel, show ([9, 2, 1] : List UInt8).length = 3 from rfl, show getsP 3 2 2 = 0 by decide +kernel, show getsE 3 2 2 = 4 by decide +kernel, show getsA 3 2 2 = 3 by decide +kernel]
  rfl
theorem getK4 (w : World) (e a : Int) : Calls Try.prog 18 #[.slice (some ⟨w.heap.size + 1, 0, none⟩) 1 1, .int .i64 2, .int .i64 1] ((w.alloc (.cells #[.int .i64 e, .int .i64 a] 36)).alloc (.cells #[.int .u8 9] 5)) fun e' w' =>
    e' = .returned (.tuple #[.int .i64 0, .int .i64 0, flt 5 0]) ∧ Below (w.alloc (fcells e a)).heap.size (w.alloc (fcells e a)) w' := by
  refine (get_any _ [9] 1 2 1 ((w.alloc (fcells e a)).alloc (.cells #[.int .u8 9] 5)) (by decide) (by decide) (bytes_new_at (w.alloc (fcells e a)) [9] 5 (0, 0) (w.heap.size + 1) _ (by simp) (by simp))).mono ?_
  rintro e w' ⟨rfl, hbel⟩
  refine ⟨?_, step_trans (step_alloc (Below.refl _ _) _) hbel⟩
  rw [show getsN [9] 2 1 = 0 by decide +kernel, show ([9] : List UInt8).length = 1 from rfl, show getsP 1 2 1 = 0 by decide +kernel, show getsE 1 2 1 = 5 by decide +kernel, show getsA 1 2 1 = 0 by decide +kernel]
  rfl
theorem getK5 (w : World) (e a : Int) : Calls Try.prog 20 #[.slice (some ⟨w.heap.size + 1, 0, none⟩) 5 5, .int .i64 1] ((w.alloc (.cells #[.int .i64 e, .int .i64 a] 36)).alloc (.cells #[.int .u8 0, .int .u8 1, .int .u8 0, .int .u8 0, .int .u8 0] 5)) fun e' w' =>
    e' = .returned (.tuple #[.int .u32 1, .int .i64 5, flt 0 0]) ∧ Below (w.alloc (fcells e a)).heap.size (w.alloc (fcells e a)) w' := by
  refine (getWord_any _ [0, 1, 0, 0, 0] 5 1 ((w.alloc (fcells e a)).alloc (.cells #[.int .u8 0, .int .u8 1, .int .u8 0, .int .u8 0, .int .u8 0] 5)) (by decide) (by decide) (bytes_new_at (w.alloc (fcells e a)) [0, 1, 0, 0, 0] 5 (0, 0) (w.heap.size + 1) _ (by simp) (by simp))).mono ?_
  rintro e w' ⟨rfl, hbel⟩
  refine ⟨?_, step_trans (step_alloc (Below.refl _ _) _) hbel⟩
  rw [show getN [0, 1, 0, 0, 0] 1 4 = 1 by decide +kernel, show ([0, 1, 0, 0, 0] : List UInt8).length = 5 from rfl, show getP 5 1 4 = 5 by decide +kernel, show getE 5 1 4 = 0 by decide +kernel, show getA 5 1 4 = 0 by decide +kernel]
  rfl
def zeros7 : Obj := .cells #[.int .u8 0, .int .u8 0, .int .u8 0, .int .u8 0, .int .u8 0, .int .u8 0, .int .u8 0] 5
theorem getK6 (w : World) (e a : Int) : Calls Try.prog 22 #[.slice (some ⟨w.heap.size + 1, 0, none⟩) 7 7, .int .i64 0] ((w.alloc (.cells #[.int .i64 e, .int .i64 a] 36)).alloc (.cells #[.int .u8 0, .int .u8 0, .int .u8 0, .int .u8 0, .int .u8 0, .int .u8 0, .int .u8 0] 5)) fun e' w' =>
    e' = .returned (.tuple #[.int .u64 0, .int .i64 0, flt 4 7]) ∧ Below (w.alloc (fcells e a)).heap.size (w.alloc (fcells e a)) w' := by
  refine (getLong_any _ [0, 0, 0, 0, 0, 0, 0] 7 0 ((w.alloc (fcells e a)).alloc zeros7) (by decide) (by decide) (bytes_new_at (w.alloc (fcells e a)) [0, 0, 0, 0, 0, 0, 0] 5 (0, 0) (w.heap.size + 1) _ (by simp) (by simp))).mono ?_
  rintro e w' ⟨rfl, hbel⟩
  refine ⟨?_, step_trans (step_alloc (Below.refl _ _) _) hbel⟩
  rw [show getN [0, 0, 0, 0, 0, 0, 0] 0 8 = 0 by decide +kernel, show ([0, 0, 0, 0, 0, 0, 0] : List UInt8).length = 7 from rfl, show getP 7 0 8 = 0 by decide +kernel, show getE 7 0 8 = 4 by decide +kernel, show getA 7 0 8 = 7 by decide +kernel]
  rfl
def one4 : Obj := .cells #[.int .u8 1, .int .u8 0, .int .u8 0, .int .u8 0] 5
def top8 : Obj := .cells #[.int .u8 0, .int .u8 0, .int .u8 0, .int .u8 0, .int .u8 0, .int .u8 0, .int .u8 0, .int .u8 128] 5
/-- Word(1), beside what the document says -/
theorem wordK (w : World) : Calls Try.prog 10 #[.int .u32 1] w fun e w' => ∃ g, e = .returned (.slice (some ⟨g, 0, none⟩) 4 4) ∧ Below w.heap.size w w' ∧
    Calls Try.prog 12 #[.slice (some ⟨g, 0, none⟩) 4 4, .slice (some ⟨w'.heap.size, 0, none⟩) 4 4] (w'.alloc (.cells #[.int .u8 1, .int .u8 0, .int .u8 0, .int .u8 0] 5)) fun e w'' => e = .returned (.bool true) ∧ (w'.alloc one4) = w'' := by
  refine (word_any 1 (by decide) w).mono ?_
  rintro e w' ⟨g, rfl, _, hb, hbel⟩
  rw [show dig 1 4 = [1, 0, 0, 0] by decide +kernel] at hb
  exact ⟨g, rfl, hbel, same_yes _ [1, 0, 0, 0] 4 4 rfl _ [1, 0, 0, 0] 4 4 rfl (w'.alloc one4) (hb.at_.stepA _) ((bytes_new w' [1, 0, 0, 0] 5 (0, 0)).more (by simp)) rfl⟩
theorem longK (w : World) : Calls Try.prog 11 #[.int .u64 9223372036854775808] w fun e w' => ∃ g, e = .returned (.slice (some ⟨g, 0, none⟩) 8 8) ∧ Below w.heap.size w w' ∧
    Calls Try.prog 12 #[.slice (some ⟨g, 0, none⟩) 8 8, .slice (some ⟨w'.heap.size, 0, none⟩) 8 8] (w'.alloc (.cells #[.int .u8 0, .int .u8 0, .int .u8 0, .int .u8 0, .int .u8 0, .int .u8 0, .int .u8 0, .int .u8 128] 5)) fun e w'' => e = .returned (.bool true) ∧ (w'.alloc top8) = w'' := by
  refine (long_any 9223372036854775808 w).mono ?_
  rintro e w' ⟨g, rfl, _, hb, hbel⟩
  rw [show dig 9223372036854775808 8 = [0, 0, 0, 0, 0, 0, 0, 128] by decide +kernel] at hb
  exact ⟨g, rfl, hbel, same_yes _ [0, 0, 0, 0, 0, 0, 0, 128] 8 8 rfl _ [0, 0, 0, 0, 0, 0, 0, 128] 8 8 rfl (w'.alloc top8) (hb.at_.stepA _) ((bytes_new w' [0, 0, 0, 0, 0, 0, 0, 128] 5 (0, 0)).more (by simp)) rfl⟩
theorem facts6 (w3 w4 w5 w6 : World) (hB4 : Below (w3.alloc (fcells 4 3)).heap.size (w3.alloc (fcells 4 3)) w4) (hB5 : Below (w4.alloc (fcells 5 0)).heap.size (w4.alloc (fcells 5 0)) w5) (hB6 : Below (w5.alloc (fcells 0 0)).heap.size (w5.alloc (fcells 0 0)) w6) :
    ((w6.alloc (.cells #[.int .i64 4, .int .i64 7] 36)).cell? ⟨w3.heap.size, 0, none⟩ = some (.int .i64 4) ∧ (w6.alloc (.cells #[.int .i64 4, .int .i64 7] 36)).cell? ⟨w3.heap.size, 1, none⟩ = some (.int .i64 3) ∧
      (w6.alloc (.cells #[.int .i64 4, .int .i64 7] 36)).cell? ⟨w4.heap.size, 0, none⟩ = some (.int .i64 5) ∧ (w6.alloc (.cells #[.int .i64 4, .int .i64 7] 36)).cell? ⟨w4.heap.size, 1, none⟩ = some (.int .i64 0)) ∧
    Hid (FltAt (w6.alloc (fcells 4 7)) w5.heap.size 0 0 ∧ FltAt (w6.alloc (fcells 4 7)) w6.heap.size 4 7 ∧ Below w3.heap.size w3 (w6.alloc (fcells 4 7))) := by
  have f3 := ((((((FltAt.new w3 4 3).step hB4).stepA (fcells 5 0)).step hB5).stepA (fcells 0 0)).step hB6).stepA (fcells 4 7)
  have f4 := ((((FltAt.new w4 5 0).step hB5).stepA (fcells 0 0)).step hB6).stepA (fcells 4 7)
  have f5 := ((FltAt.new w5 0 0).step hB6).stepA (fcells 4 7)
  have f6 := FltAt.new w6 4 7
  refine ⟨⟨f3.c0, f3.c1, f4.c0, f4.c1⟩, Lib.hid ⟨f5, f6, ?_⟩⟩
  have a3 := step_trans (step_alloc (Below.refl _ w3) (fcells 4 3)) hB4
  have a4 := step_trans (step_alloc a3 (fcells 5 0)) hB5
  have a5 := step_trans (step_alloc a4 (fcells 0 0)) hB6
  exact step_alloc a5 (fcells 4 7)
theorem known_walk (w : World) : Calls Try.prog 7 #[] w fun e w' => e = .returned (.bool true) ∧ Below w.heap.size w w' := by
  have hmk : ∀ W, (Instr.makeSlice 23 (.int .i64 7) (.int .i64 7)).run Try.prog W = .ok (.slice (some ⟨W.heap.size, 0, none⟩) 7 7) (W.alloc (.cells #[.int .u8 0, .int .u8 0, .int .u8 0, .int .u8 0, .int .u8 0, .int .u8 0, .int .u8 0] 5)) := fun W => make_bytes 7 (by decide) W
  go_enter Try.func7, Try.ntmps7
  go_wp2_with (first
    | (go_at_call 8; first
      | ((with_reducible refine (putK1 _).mono ?_); (rintro e w1 ⟨A1, c1, rfl, hB1⟩))
      | ((with_reducible refine (putK2 _).mono ?_); (rintro e w2 ⟨A2, c2, rfl, hB2⟩)))
    | (go_at_call 18; first
      | ((with_reducible refine (getK3 w2).mono ?_); (rintro e w3 ⟨rfl, hB3⟩; unfold flt))
      | ((with_reducible refine (getK4 w3 _ _).mono ?_); (rintro e w4 ⟨rfl, hB4⟩; unfold flt)))
    | (go_at_call 20; ((with_reducible refine (getK5 w4 _ _).mono ?_); (rintro e w5 ⟨rfl, hB5⟩; unfold flt)))
    | (go_at_call 22; ((with_reducible refine (getK6 w5 _ _).mono ?_); (rintro e w6 ⟨rfl, hB6⟩; unfold flt; obtain ⟨⟨x1, x2, x3, x4⟩, H6⟩ := facts6 w3 w4 w5 w6 hB4 hB5 hB6))))
  obtain ⟨f5, f6, hB36⟩ := H6.out
  clear x1 x2 x3 x4 hB4 hB5 hB6
  have HF := Lib.hid (And.intro f5 (And.intro f6 hB36))
  clear f5 f6 hB36 hmk H6
  go_wp2_with (first
    | (go_at_call 16; refine (awake_any _).mono ?_; (rintro e w7 ⟨rfl, hB7⟩))
    | (go_at_call 10; refine (wordK w7).mono ?_; (rintro e w8 ⟨g8, rfl, hB8, S8⟩; obtain ⟨f5, f6, hB36⟩ := HF.out; have y5 := (((f5.step hB7).step hB8).stepA one4).c0; clear f5 f6 hB36))
    | (go_at_call 12; first
      | ((with_reducible refine S8.mono ?_); (rintro e w10 ⟨rfl, rfl⟩; unfold one4 at *))
      | ((with_reducible refine S9.mono ?_); (rintro e w10 ⟨rfl, rfl⟩; unfold top8 at *)))
    | (go_at_call 11; refine (longK _).mono ?_; (rintro e w9 ⟨g9, rfl, hB9, S9⟩; obtain ⟨f5, f6, hB36⟩ := HF.out; have y6 := ((((f6.step hB7).step hB8).stepA one4).step hB9).stepA top8; have y7 := y6.c0; have y8 := y6.c1; clear f5 f6 hB36 y6)))
  go_ret
  obtain ⟨_, _, hB36⟩ := HF.out
  have b1 := step_trans (step_trans (step_trans (step_trans hB1 hB2) hB3) hB36) hB7
  exact ⟨rfl, step_alloc (step_trans (step_alloc (step_trans b1 hB8) one4) hB9) _⟩
end Go.Proofs.Ytodaocgfciigpaa
