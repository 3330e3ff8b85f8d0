/-
  The walk of CrcSums. Conditions: the table lies as the program's text lays it; the bytes can be read.
-/
import Derived.Test.YtiobnhkkcfnlhaaDoorCrcRef
import Derived.Test.YtiobnhkkcfnlhaaDoorKitSame
namespace Go.Proofs.YtiobnhkkcfnlhaaDoor
open Go.RowKit

theorem refMore_n (s : Nat) (hs : s < 4294967296) (A : Option Addr) (l : List UInt8) (n c : Nat) (hn : l.length = n) (B : Nat) (w : World) (hl : l.length ≤ 1000000) (hr : BytesAt w B A l) :
    Calls Tryd.prog 13 #[.int .u32 (s : Int), .slice A n c] w fun e w' => e = .returned (.int .u32 (Crc.more s l : Int)) ∧ w = w' := by
  subst hn; exact refMore_any s hs A l c B w hl hr

theorem sums_long (A : Option Addr) (l : List UInt8) (c : Nat) (s : Int) (w : World) (hlen : 5000 < l.length) :
    Calls Tryd.prog 3 #[.slice A l.length c, .int .u32 s] w fun e w' => e = .returned (.bool true) ∧ Below w.heap.size w w' := by
  go_enter Tryd.func3, Tryd.ntmps3
  go_wp2
  go_ret
  exact ⟨rfl, Below.refl _ _⟩

theorem sums_short (A : Option Addr) (l : List UInt8) (c : Nat) (s : Nat) (hs : s < 4294967296) (w : World) (ht : TabAt w) (hr : BytesAt w w.heap.size A l) (hlen : l.length ≤ 5000) :
    Calls Tryd.prog 3 #[.slice A l.length c, .int .u32 (s : Int)] w fun e w' => e = .returned (.bool true) ∧ Below w.heap.size w w' := by
  have hbb : (((Crc.sum l : Int) == (s : Int)) == ((s : Int) == (Crc.sum l : Int))) = true := by
    rw [beq_iff_eq, Bool.eq_iff_iff, beq_iff_eq, beq_iff_eq]
    exact ⟨Eq.symm, Eq.symm⟩
  go_enter Tryd.func3, Tryd.ntmps3
  go_wp2_with (go_at_call 9; refine (lentBytes_any A l c _ (by omega) hr).mono ?_; (rintro e w1 ⟨g, rfl, hg, hb, hbel⟩))
  have ht1 := ht.below hbel (Nat.le_refl _)
  have hr1 : BytesAt w1 w1.heap.size A l := (hr.below hbel).more hbel.size
  have hin : BytesAt w1 w1.heap.size (some ⟨g, 0, none⟩) l := hb.bytes l ⟨_, rfl⟩ hb.lt
  go_wp2_with (first
    | (go_at_call 10; refine (refSum_any A l c _ _ (by omega) hr1).mono ?_; (rintro e w2 ⟨rfl, rfl⟩))
    | (go_at_call 11; refine (sum_any _ l _ _ _ ht1 (by omega) hin).mono ?_; (rintro e w2 ⟨rfl, rfl⟩))
    | (go_at_call 12; refine (more_any s hs _ l _ _ _ ht1 (by omega) hin).mono ?_; (rintro e w2 ⟨rfl, rfl⟩))
    | (go_at_call 13; refine (refMore_any s hs A l c _ _ (by omega) hr1).mono ?_; (rintro e w2 ⟨rfl, rfl⟩))
    | (go_at_call 14; ((with_reducible refine (right_any _ l _ _ s _ ht1 (by omega) hin).mono ?_); (rintro e w2 ⟨rfl, rfl⟩)))
    | (go_at_call 14; ((with_reducible refine (right_any _ l _ _ (Crc.sum l) _ ht1 (by omega) hin).mono ?_); (rintro e w2 ⟨rfl, rfl⟩)))
    | (go_at_call 15; refine (keptBytes_yes g l A c _ (by omega) hb hr1).mono ?_; (rintro e w3 ⟨rfl, hb3⟩))
    | (go_at_call 16; refine (awake_any _ (ht1.below hb3 (Nat.le_refl _))).mono ?_; (rintro e w4 ⟨rfl, hb4⟩)))
  go_ret
  exact ⟨rfl, (hbel.trans (hb3.mono hbel.size)).trans (hb4.mono (Nat.le_trans hbel.size hb3.size))⟩

theorem sums_any (A : Option Addr) (l : List UInt8) (c : Nat) (n : Int) (hn : 0 ≤ n ∧ n ≤ 4294967295) (w : World) (ht : TabAt w) (hr : BytesAt w w.heap.size A l) :
    Calls Tryd.prog 3 #[.slice A l.length c, .int .u32 n] w fun e w' => e = .returned (.bool true) ∧ Below w.heap.size w w' := by
  by_cases h : l.length ≤ 5000
  · obtain ⟨s, rfl⟩ : ∃ s : Nat, n = (s : Int) := ⟨n.toNat, by omega⟩
    exact sums_short A l c s (by omega) w ht hr h
  · exact sums_long A l c n w (by omega)
end Go.Proofs.YtiobnhkkcfnlhaaDoor
