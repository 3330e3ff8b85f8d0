/-
  The walk of BitsMake. Conditions: the library's table lies as its text lays it; the list can be read.
-/
import Derived.Test.YtohgencmeloknaaDoorBitsAny
namespace Go.Proofs.YtohgencmeloknaaDoor
open Go.RowKit Bits

theorem make_long (A : Option Addr) (l : List Int) (c : Nat) (n : Int) (w : World) (hlen : 500 < l.length) :
    Calls Tryd.prog 4 #[.int .i64 n, .slice A l.length c] w fun e w' => e = .returned (.bool true) ∧ Below w.heap.size w w' := by
  go_enter Tryd.func4, Tryd.ntmps4
  go_wp2
  go_ret
  exact ⟨rfl, Below.refl _ _⟩
theorem make_short (A : Option Addr) (l : List Int) (c : Nat) (n : Int) (w : World) (ht : TzAt w) (hr : RowAt w w.heap.size A (iv l)) (hlen : l.length ≤ 500) :
    Calls Tryd.prog 4 #[.int .i64 n, .slice A l.length c] w fun e w' => e = .returned (.bool true) ∧ Below w.heap.size w w' := by
  go_enter Tryd.func4, Tryd.ntmps4
  go_wp2_with (go_at_call 23; refine (lentInts_any A l _ c rfl _ (by omega) hr elInts).mono ?_; (rintro e w1 ⟨g, rfl, hg, hb, hbel⟩))
  have ht1 := ht.below hbel (Nat.le_refl _)
  have hr1 : RowAt w1 w1.heap.size A (iv l) := (hr.below hbel).more hbel.size
  have hin : RowAt w1 w1.heap.size (some ⟨g, 0, none⟩) (iv l) := hb.row ⟨iv (mark3 l.length 3), by rw [lentI, iv_append]⟩ hb.lt
  go_wp2_with (first
    | (go_at_call 24; refine (all_any n _).mono ?_; (rintro e w2 ⟨rfl, rfl⟩))
    | (go_at_call 25; refine (refAll_any n _).mono ?_; (rintro e w2 ⟨rfl, rfl⟩))
    | (go_at_call 26; refine (of_any _ l _ _ _ rfl _ (by omega) hin).mono ?_; (rintro e w2 ⟨rfl, rfl⟩))
    | (go_at_call 27; refine (refOf_any A l _ c _ rfl _ (by omega) hr1).mono ?_; (rintro e w2 ⟨rfl, rfl⟩))
    | (go_at_call 28; refine (keptInts_yes g l A _ c rfl _ (by omega) hb hr1 elInts).mono ?_; (rintro e w3 ⟨rfl, hb3⟩))
    | (go_at_call 22; refine (awake_any _ (ht1.below hb3 (Nat.le_refl _))).mono ?_; (rintro e w4 ⟨rfl, rfl⟩)))
  go_ret
  exact ⟨rfl, hbel.trans (hb3.mono hbel.size)⟩
theorem make_any (A : Option Addr) (l : List Int) (c : Nat) (n : Int) (w : World) (ht : TzAt w) (hr : RowAt w w.heap.size A (iv l)) :
    Calls Tryd.prog 4 #[.int .i64 n, .slice A l.length c] w fun e w' => e = .returned (.bool true) ∧ Below w.heap.size w w' := by
  by_cases h : l.length ≤ 500
  · exact make_short A l c n w ht hr h
  · exact make_long A l c n w (by omega)
end Go.Proofs.YtohgencmeloknaaDoor
