/-
  tandemkit.OverBytes over any block of bytes, known whole, and over nil. Conditions: the block's size.
-/
import Derived.Test.YtmkibkafccgmgaaKitLent
import Derived.Test.YtmkibkafccgmgaaDisk
import Derived.Laws.BitsAllLaws
namespace Go.Proofs.Ytmkibkafccgmgaa
open Go.RowKit

theorem over_nil (w : World) : Calls Try.prog 39 #[.slice none 0 0] w fun e w' => e = .returned (.tuple #[]) ∧ w = w' := by
  have q1 := cut_to none 0 0 0 (Nat.le_refl _)
  go_enter Try.func39, Try.ntmps39
  go_wp2
  clear q1
  go_loopw [3] (fun i wr => i = .int .i64 0 ∧ wr = w) (fun i _ => 0)
  case atStart => exact ⟨rfl, rfl⟩
  case round =>
    obtain ⟨rfl, rfl⟩ := hrel
    go_wp2
    go_end0
    exact ⟨rfl, rfl⟩
def OverPost (g : Nat) (w : World) (e : Ending) (w' : World) : Prop := e = .returned (.tuple #[]) ∧ Frame (fun k => k = g) w w'
theorem over_gen (E : TypeId) (g : Nat) (l : List UInt8) (n c : Nat) (hn : l.length = c) (hm : c ≤ 1000000) (w : World) (hb : BlkR E w g (cellsOfBytes l)) :
    Calls Try.prog 39 #[.slice (some ⟨g, 0, none⟩) n c] w (OverPost g w) := by
  have q1 := cut_to (some ⟨g, 0, none⟩) n c c (Nat.le_refl _)
  have hsz := Lib.hid hb.lt
  go_enter Try.func39, Try.ntmps39
  go_wp2
  clear q1
  go_loopw [3] (fun i wr => ∃ k : Nat, k ≤ c ∧ i = .int .i64 (k : Int) ∧ (∃ m : List UInt8, m.length = c ∧ BlkR E wr g (cellsOfBytes m)) ∧ Frame (fun k => k = g) w wr) (fun i _ => c - (intOf i).toNat)
  case atStart => exact ⟨0, Nat.zero_le _, rfl, ⟨l, hn, hb⟩, Frame.refl _ _⟩
  case round =>
    obtain ⟨k, hk, rfl, ⟨m, hml, hbm⟩, hbel⟩ := hrel
    by_cases hkn : k < c
    · have hcell := hbm.cell (cellsOfBytes_get m k (by omega))
      have hfr := hbm.frozen k
      obtain ⟨x, hx⟩ : ∃ x, x = m.getD k 0 := ⟨_, rfl⟩
      rw [← hx] at hcell
      have hv : bits .xor .u8 (x.toNat : Int) 90 = ((x ^^^ 90).toNat : Int) := by
        rw [UInt8.toNat_xor]
        exact u8_xor_nat _ 90 x.toNat_lt (by decide)
      have HB := Lib.hid (And.intro hbm (And.intro hml hv))
      have HF := Lib.hid hbel
      clear hbm hx hml hv hbel
      go_wp2
      go_roundw
      case rel =>
        obtain ⟨hbm, hml, hv⟩ := HB.out
        refine ⟨k + 1, by omega, by go_num, ⟨m.set k (x ^^^ 90), by rw [List.length_set]; exact hml, ?_⟩, ?_⟩
        · rw [hv]
          have e : cellsOfBytes (m.set k (x ^^^ 90)) = (cellsOfBytes m).set k (.int .u8 ((x ^^^ 90).toNat : Int)) := by simp [cellsOfBytes, List.map_set]
          rw [e]
          exact hbm.set_ k _
        · have h1 : Frame (fun k => k = g) wr (wr.setCell ⟨g, k, none⟩ (.int .u8 (bits .xor .u8 (x.toNat : Int) 90))) := ⟨rfl, rfl, rfl, Nat.le_of_eq (by simp [World.setCell]), fun j _ hj => Below.heap_setCell wr ⟨g, k, none⟩ _ j hj⟩
          exact Frame.trans (F := fun k => k = g) (G := fun k => k = g) HF.out h1 (fun j hj => .inl hj)
      case measure => simp [intOf]; omega
    · obtain rfl : k = c := by omega
      have HF := Lib.hid hbel
      go_wp2
      go_end0
      exact ⟨rfl, HF.out⟩
end Go.Proofs.Ytmkibkafccgmgaa
