/-
  The chapter's examples of a slot, as states. Conditions: none.
-/
import Derived.Test.YtkokcdlgfemobaaGreatDoorSa
namespace Go.Proofs.YtkokcdlgfemobaaGreatDoor
namespace Ex
def k0 : DS := DS.fresh 2
def k1 : DS := (Slot.save k0 0 [97]).1
def k2 : DS := (Slot.save k1 0 [98]).1
def k3 : DS := (k2.turn 1 0 1).1
def k4 : DS := (k3.turn 0 0 1).1
theorem e0 : Slot.loadE k0 0 = 6 := by decide +kernel
theorem e1 : (Slot.save k0 0 [97]).2 = 0 := by decide +kernel
theorem e1l : Slot.loadE k1 0 = 0 ∧ Slot.loadB k1 0 = [97] := by decide +kernel
theorem e2 : (Slot.save k1 0 [98]).2 = 0 := by decide +kernel
theorem e3 : (k2.turn 1 0 1).2 = 0 := by decide +kernel
theorem e3l : Slot.loadE k3 0 = 0 ∧ Slot.loadB k3 0 = [98] := by decide +kernel
theorem e4 : (k3.turn 0 0 1).2 = 0 := by decide +kernel
theorem e4l : Slot.loadE k4 0 = 11 ∧ Slot.loadE k4 1 = 5 := by decide +kernel
theorem eops : k0.ops = 0 ∧ k1.ops ≤ 10 ∧ k2.ops ≤ 10 ∧ k3.ops ≤ 10 ∧ k4.ops ≤ 10 := by decide +kernel
def zeros41 : List UInt8 := List.replicate 41 0
def ones : List UInt8 := List.replicate 64 1
theorem e5 : (Slot.save k4 0 zeros41).2 = 3 := by decide +kernel
theorem e5s : Slot.save k4 0 zeros41 = (k4, 3) := by unfold Slot.save; rw [if_pos (by decide)]
theorem e6 : Slot.readE Slot.nots = 6 ∧ Slot.readE ones = 11 ∧ Slot.readE [] = 4 := by decide +kernel
end Ex
end Go.Proofs.YtkokcdlgfemobaaGreatDoor
