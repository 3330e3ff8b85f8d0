/-
  slot.keep, slot.Save: what they tell, and make of a disk. Conditions: a disk's methods do what the document says; at most so many changes; the table of crc lies as the program's text lays it.
-/
import Derived.Test.YtlchpolheciadaaDoorSb
namespace Go.Proofs.YtlchpolheciadaaDoor
open Go.RowKit Fix

/-- a change of a disk -/
def ChgPost (At : World → Nat → (Nat → Prop) → DS → Prop) (b : Nat) (F : Nat → Prop) (T : DS × Int) (w : World) (e : Ending) (w' : World) : Prop :=
  ∃ F', e = .returned (.int .i64 T.2) ∧ At w' b F' T.1 ∧ (∀ k, F' k → F k ∨ w.heap.size ≤ k) ∧ Frame F w w'
theorem ops_write (S : DS) (i : Int) (l : List UInt8) : (S.write i l).1.ops ≤ S.ops + 1 := by
  unfold DS.write DS.chg
  split
  · simp
  · split
    · simp
    · split
      · simp
      · rcases S.left with _ | _ | k <;> simp
theorem ops_flush (S : DS) : S.flush.1.ops ≤ S.ops + 1 := by
  unfold DS.flush DS.chg
  split
  · simp
  · rcases S.left with _ | _ | k <;> simp [DS.settle]
theorem ops_put1 (S : DS) (i : Int) (l : List UInt8) : (Slot.put1 S i l).1.ops ≤ S.ops + 2 := by
  unfold Slot.put1
  have h1 := ops_write S i l
  split
  · have := ops_flush (S.write i l).1; omega
  · omega
section
variable {At : World → Nat → (Nat → Prop) → DS → Prop} (D : Disks Tryd.prog At)
include D
end
end Go.Proofs.YtlchpolheciadaaDoor
