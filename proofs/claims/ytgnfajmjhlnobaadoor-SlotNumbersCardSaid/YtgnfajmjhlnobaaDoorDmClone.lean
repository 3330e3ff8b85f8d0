/-
  The program's own disk: Clone. Conditions: none.
-/
import Derived.Test.YtgnfajmjhlnobaaDoorDmNew
import Derived.Test.YtgnfajmjhlnobaaDoorDmLay
import Derived.Deep.RegionHeld3
import Derived.Deep.CutRange
namespace Go.Proofs.YtgnfajmjhlnobaaDoor
open Go.RowKit Go.Maps

/-- the cells of n sectors -/
def sectorCells (f : Nat → List UInt8) (n : Nat) : List Value := (List.range (n * 64)).map fun k => .int .u8 (((f (k / 64)).getD (k % 64) 0).toNat : Int)
theorem sectorCells_at (f : Nat → List UInt8) (n i j : Nat) (hi : i < n) (hj : j < 64) : (sectorCells f n)[i * 64 + j]? = some (.int .u8 (((f i).getD j 0).toNat : Int)) := by
  unfold sectorCells
  rw [List.getElem?_map, List.getElem?_range (by omega)]
  simp only [Option.map_some]
  rw [show (i * 64 + j) / 64 = i by omega, show (i * 64 + j) % 64 = j by omega]
/-- what slices.Clone tells -/
def SClonePost (f : Nat → List UInt8) (n : Nat) (w : World) (e : Ending) (w' : World) : Prop :=
  ∃ g c, e = .returned (.slice (some ⟨g, 0, none⟩) n c) ∧ n ≤ c ∧ w.heap.size ≤ g ∧ g < w'.heap.size ∧ (∀ i, i < n → w'.rangeAt g (i * 64) (cellsOfBytes (f i))) ∧ w'.there g 0 (n * 64) ∧ Below w.heap.size w w'
set_option maxRecDepth 100000 in
theorem some_neqD (g n c : Nat) (w : World) : (binOp .eql 34 (.slice (some ⟨g, 0, none⟩) n c) (.slice none 0 0)).run Tryd.prog w = .ok (.bool false) w := by kernel_rfl
/-- a disk half made: all but itself, and its changes -/
def HalfAt (w wx : World) (S : DS) (D : DU) (nn B : Nat) : Prop :=
  ∃ g c m, wx.heap[B]? = some (.cells #[.pointer none, .slice (some ⟨g, 0, none⟩) S.n c, .map (some m), .int .i64 0, .int .i64 S.fuseI, .bool S.out] 42 (0, 0)) ∧ S.n ≤ c ∧
    w.heap.size ≤ g ∧ g < wx.heap.size ∧ w.heap.size ≤ m ∧ m < wx.heap.size ∧ w.heap.size ≤ B ∧ B < wx.heap.size ∧ B ≠ g ∧ B ≠ m ∧ g ≠ m ∧
    (∀ i, i < S.n → wx.rangeAt g (i * 64) (cellsOfBytes (S.firm i))) ∧ wx.there g 0 (S.n * 64) ∧ wx.ownsMap Tryd.prog 3 elemR m nn D ∧ Below w.heap.size w wx
def DClonePost (S : DS) (w : World) (e : Ending) (w' : World) : Prop :=
  ∃ b' F', e = .returned (.pointer (some ⟨b', 0, none⟩)) ∧ DiskAt w' b' F' S ∧ (∀ k, F' k → w.heap.size ≤ k) ∧ Below w.heap.size w w'
end Go.Proofs.YtgnfajmjhlnobaaDoor
