/-
  The walk of CrcKnown. Conditions: the table lies as the program's text lays it.
-/
import Derived.Test.YtiobnhkkcfnlhaaDoorCrcWalk
import Derived.Lib.SmallJoins
namespace Go.Proofs.YtiobnhkkcfnlhaaDoor
open Go.RowKit

def first4 : List UInt8 := [49, 50, 51, 52]
def last5 : List UInt8 := [53, 54, 55, 56, 57]
theorem known_any (w : World) (ht : TabAt w) :
    Calls Tryd.prog 8 #[] w fun e w' => e = .returned (.bool true) ∧ Below w.heap.size w w' := by
  have kc := fun (w : World) (C : Array Value) (n c g : Nat) (hg : g = w.heap.size) => Go.Joins.run_convert_bytes_const_at (P := Tryd.prog) w 22 5 C n c g hg Tryd.underlying22 Tryd.underlying5
  have HD : Hid (Crc.more (Crc.sum first4) last5 = 3421780262 ∧ Crc.sum [] = 0) := ⟨by rw [← Crc.sum_append]; exact Crc.sum_digits, Crc.sum_nil⟩
  go_enter Tryd.func8, Tryd.ntmps8
  go_wp2_with (go_at_call 16; refine (awake_any _ ht).mono ?_; rintro e w1 ⟨rfl, hb1⟩)
  go_wp2_with (first
    | (go_at_call 11; refine (sum_any _ first4 _ (w1.heap.size + 1) _ ?c1 ?c2 ?c3).mono ?c4; rotate_left 3; rintro e w' ⟨rfl, rfl⟩)
    | (go_at_call 12; refine (more_any _ ?e0 _ last5 _ (w1.heap.size + 2) _ ?e1 ?e2 ?e3).mono ?e4; rotate_left 4; (rintro e w' ⟨rfl, rfl⟩; rw [HD.out.1]))
    | (go_at_call 14; refine (right_any none [] 0 0 0 _ ?d1 ?d2 ?d3).mono ?d4; rotate_left 3; (rintro e w' ⟨rfl, rfl⟩; rw [HD.out.2]))
    | (go_at_call 14; refine (right_any none [] 0 0 1 _ ?f1 ?f2 ?f3).mono ?f4; rotate_left 3; (rintro e w' ⟨rfl, rfl⟩; rw [HD.out.2])))
  · go_ret
    exact ⟨rfl, (hb1.alloc hb1.size _).alloc (by have := hb1.size; simp; omega) _⟩
  all_goals first
    | decide
    | exact Crc.sum_lt _
    | exact bytes_nil
    | exact bytes_new w1 first4 _ _
    | exact bytes_new_at (w1.alloc _) last5 _ _ _ _ (by simp) (by omega)
    | exact ((ht.below hb1 (Nat.le_refl _)).alloc _).alloc _
    | exact (ht.below hb1 (Nat.le_refl _)).alloc _
end Go.Proofs.YtiobnhkkcfnlhaaDoor
