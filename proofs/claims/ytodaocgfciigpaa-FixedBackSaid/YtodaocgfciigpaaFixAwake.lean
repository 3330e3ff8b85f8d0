/-
  The chapter's examples, as every law looks at them (awake). Conditions: none.
-/
import Derived.Test.YtodaocgfciigpaaFixRef
import Derived.Test.YtodaocgfciigpaaKitSame
namespace Go.Proofs.Ytodaocgfciigpaa
open Go.RowKit Fix

theorem put_258 (w : World) : Calls Try.prog 8 #[.int .i64 258, .int .i64 2] w fun e w' =>
    ∃ A c, e = .returned (.tuple #[.slice A 2 c, .int .i64 0]) ∧ BytesAt w' w'.heap.size A [2, 1] ∧ Below w.heap.size w w' := by
  refine (put_any 258 2 w (by omega)).mono ?_
  rintro e w' ⟨A, c, rfl, _, hb, hbel⟩
  have e1 : putB 258 2 = [2, 1] := by decide +kernel
  have e2 : putE 258 2 = 0 := by decide +kernel
  rw [e1] at hb ⊢
  rw [e2]
  exact ⟨A, c, rfl, hb, hbel⟩
theorem get_921 (A : Option Addr) (c : Nat) (w : World) (hc : 3 ≤ c) (hr : BytesAt w w.heap.size A [9, 2, 1]) :
    Calls Try.prog 18 #[.slice A 3 c, .int .i64 1, .int .i64 2] w fun e w' => e = .returned (.tuple #[.int .i64 258, .int .i64 3, flt 0 0]) ∧ Below w.heap.size w w' := by
  refine (get_any A [9, 2, 1] c 1 2 w hc (by decide) hr).mono ?_
  have e1 : getsN [9, 2, 1] 1 2 = 258 := by decide +kernel
  have e2 : getsP 3 1 2 = 3 := by decide +kernel
  have e3 : getsE 3 1 2 = 0 := by decide +kernel
  have e4 : getsA 3 1 2 = 0 := by decide +kernel
  rintro e w' ⟨rfl, hbel⟩
  refine ⟨?_, hbel⟩
  rw [e1, show ([9, 2, 1] : List UInt8).length = 3 from rfl, e2, e3, e4]
  rfl
theorem awake_any (w : World) : Calls Try.prog 16 #[] w fun e w' => e = .returned (.bool true) ∧ Below w.heap.size w w' := by
  have z1 := put_258 w
  have hn : ∀ W : World, BytesAt (W.alloc (.cells #[.int .u8 9, .int .u8 2, .int .u8 1] 5)) (W.alloc (.cells #[.int .u8 9, .int .u8 2, .int .u8 1] 5)).heap.size (some ⟨W.heap.size, 0, none⟩) [9, 2, 1] := fun W => (bytes_new W [9, 2, 1] 5 (0, 0)).more (by simp)
  have z2 := fun W : World => get_921 (some ⟨W.heap.size, 0, none⟩) 3 (W.alloc (.cells #[.int .u8 9, .int .u8 2, .int .u8 1] 5)) (Nat.le_refl _) (hn W)
  have z3 : ∀ (A1 : Option Addr) (c1 : Nat) (w1 w2 : World), BytesAt w1 w1.heap.size A1 [2, 1] → Below (w1.alloc (.cells #[.int .u8 9, .int .u8 2, .int .u8 1] 5)).heap.size (w1.alloc (.cells #[.int .u8 9, .int .u8 2, .int .u8 1] 5)) w2 →
      Calls Try.prog 12 #[.slice A1 2 c1, .slice (some ⟨w2.heap.size + 1, 0, none⟩) 2 2] ((w2.alloc (.cells #[.int .i64 0, .int .i64 0] 36)).alloc (.cells #[.int .u8 2, .int .u8 1] 5)) fun e w' => e = .returned (.bool true) ∧ ((w2.alloc (.cells #[.int .i64 0, .int .i64 0] 36)).alloc (.cells #[.int .u8 2, .int .u8 1] 5)) = w' := fun A1 c1 w1 w2 hb1 hbel2 => by
    have h1' : BytesAt w2 w2.heap.size A1 [2, 1] := ((hb1.alloc (Nat.le_refl _) _).belowN hbel2 (by simp)).more (by have := hbel2.size; simp at this; omega)
    have h2 := ((h1'.alloc (Nat.le_refl _) (.cells #[.int .i64 0, .int .i64 0] 36)).alloc (by simp) (.cells #[.int .u8 2, .int .u8 1] 5)).more (B' := w2.heap.size + 2) (by omega)
    have h3 := bytes_new_at (w2.alloc (.cells #[.int .i64 0, .int .i64 0] 36)) [2, 1] 5 (0, 0) (w2.heap.size + 1) (w2.heap.size + 2) (by simp) (by omega)
    exact sameBytes_any A1 [2, 1] 2 c1 rfl _ [2, 1] 2 2 rfl _ _ h2 h3
  go_enter Try.func16, Try.ntmps16
  go_wp2_with (first
    | (go_at_call 8; refine z1.mono ?_; (rintro e w1 ⟨A1, c1, rfl, hb1, hbel1⟩))
    | (go_at_call 18; refine (z2 w1).mono ?_; (rintro e w2 ⟨rfl, hbel2⟩; unfold flt))
    | (go_at_call 12; refine (z3 A1 c1 w1 w2 hb1 hbel2).mono ?_; (rintro e w3 ⟨rfl, rfl⟩)))
  go_ret
  refine ⟨rfl, ?_⟩
  exact (((hbel1.alloc hbel1.size _).trans (hbel2.mono (by have := hbel1.size; simp; omega))).alloc (by have := hbel1.size; have := hbel2.size; simp at this; omega) _).alloc (by have := hbel1.size; have := hbel2.size; simp at this ⊢; omega) _
end Go.Proofs.Ytodaocgfciigpaa
