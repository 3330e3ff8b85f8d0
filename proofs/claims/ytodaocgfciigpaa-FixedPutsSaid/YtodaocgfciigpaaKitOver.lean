/-
  tandemkit.OverBytes: over a block of bytes, known whole. Conditions: the block's size.
-/
import Derived.Test.YtodaocgfciigpaaKitLent
import Derived.Laws.BitsAllLaws
namespace Go.Proofs.Ytodaocgfciigpaa
open Go.RowKit

theorem overBytes_any (g : Nat) (l : List UInt8) (n : Nat) (hn : l.length = n) (hm : n ≤ 140737488351232) (w : World) (hb : BlkB w g l) :
    Calls Try.prog 15 #[.slice (some ⟨g, 0, none⟩) n n] w fun e w' => e = .returned (.tuple #[]) ∧ Below g w w' := by
  have q1 := cut_to (some ⟨g, 0, none⟩) n n n (Nat.le_refl _)
  go_enter Try.func15, Try.ntmps15
  go_wp2
  clear q1
  go_loopw [3] (fun i wr => ∃ k : Nat, k ≤ n ∧ i = .int .i64 (k : Int) ∧ (∃ m : List UInt8, m.length = n ∧ BlkB wr g m) ∧ Below g w wr) (fun i _ => n - (intOf i).toNat)
  case atStart => exact ⟨0, Nat.zero_le _, rfl, ⟨l, hn, hb⟩, Below.refl _ _⟩
  case round =>
    obtain ⟨k, hk, rfl, ⟨m, hml, hbm⟩, hbel⟩ := hrel
    by_cases hkn : k < n
    · have hcell := hbm.cell k (by omega)
      have hfr := hbm.frozen k
      obtain ⟨x, hx⟩ : ∃ x, x = m.getD k 0 := ⟨_, rfl⟩
      rw [← hx] at hcell
      have hv : bits .xor .u8 (x.toNat : Int) 90 = ((x ^^^ 90).toNat : Int) := by
        rw [UInt8.toNat_xor]
        exact u8_xor_nat _ 90 x.toNat_lt (by decide)
      have HB := Lib.hid (And.intro hbm (And.intro hml hv))
      clear hbm hx hml hv
      go_wp2
      go_roundw
      case rel =>
        obtain ⟨hbm, hml, hv⟩ := HB.out
        refine ⟨k + 1, by omega, by go_num, ⟨m.set k (x ^^^ 90), by rw [List.length_set]; exact hml, ?_⟩, hbel.setCell (Nat.le_refl _) _⟩
        rw [hv]
        exact hbm.set_ _ _
      case measure => simp [intOf]; omega
    · obtain rfl : k = n := by omega
      go_wp2
      go_end0
      exact ⟨rfl, hbel⟩
end Go.Proofs.Ytodaocgfciigpaa
