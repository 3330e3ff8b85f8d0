/-
  tandemref05.Read. Conditions: the bytes can be read.
-/
import Derived.Test.YtliiejdhbkmifaaDoorSlotRef
import Derived.Test.YtliiejdhbkmifaaDoorBa
namespace Go.Proofs.YtliiejdhbkmifaaDoor
open Go.RowKit Fix

def SrPost (l : List UInt8) (w : World) (e : Ending) (w' : World) : Prop :=
  ∃ A c, e = .returned (.tuple #[.int .i64 (Slot.readN l : Int), .slice A (Slot.readB l).length c, .int .i64 (Slot.readE l)]) ∧ (Slot.readB l).length ≤ c ∧ BytesAt w' w'.heap.size A (Slot.readB l) ∧ (∀ ad, A = some ad → Slot.readB l ≠ [] → w.heap.size ≤ ad.block) ∧ Below w.heap.size w w'
theorem SrPost.none_ {l : List UInt8} {x : Int} {w w' : World} (h : Slot.right l = false) (hx : Slot.readE l = x) (hB : Below w.heap.size w w') : SrPost l w (.returned (.tuple #[.int .i64 0, .slice none 0 0, .int .i64 x])) w' :=
  ⟨none, 0, by rw [hx]; simp [Slot.readN, Slot.readB, h], by simp [Slot.readB, h], by simp only [Slot.readB, h]; exact bytes_nil, (fun ad e => by cases e), hB⟩
theorem num_get (l : List UInt8) (h : l.length = 64) : getN l 0 8 = Slot.num l := by
  unfold getN inN inR Slot.num
  rw [h]
  rfl
theorem len_get (l : List UInt8) (h : l.length = 64) : getsN l 8 2 = Slot.len l := by
  unfold getsN getN inN inR Slot.len
  rw [h]
  rfl
namespace Slot
theorem not_right_len {l : List UInt8} (h : l.length ≠ 64) : right l = false := by
  rw [← Bool.not_eq_true, right_iff]
  exact fun x => h x.1
theorem not_right_bounds {l : List UInt8} (h : num l < 1 ∨ 1099511627776 < num l ∨ 40 < len l) : right l = false := by
  rw [← Bool.not_eq_true, right_iff]
  rintro ⟨_, h1, h2, h3, _⟩
  omega
theorem not_right_sect {l : List UInt8} (h : sect (num l) (rec l) ≠ l) : right l = false := by
  rw [← Bool.not_eq_true, right_iff]
  exact fun x => h x.2.2.2.2
theorem readE_bad {l : List UInt8} (h64 : l.length = 64) (hz : l ≠ nots) (h : right l = false) : readE l = 11 := by
  unfold readE
  rw [if_neg (by rw [Decidable.not_not]; exact h64), if_neg hz, if_neg (by rw [h]; decide)]
end Slot
theorem fault_below (w : World) (e a : Int) : Below w.heap.size w (w.alloc (.cells #[.int .i64 e, .int .i64 a] 88)) := (Below.refl _ _).alloc (Nat.le_refl _) _
theorem own_behind (w : World) (e a : Int) : OwnB ((w.alloc (.cells #[.int .i64 e, .int .i64 a] 88)).alloc (.cells #[] 5)) w.heap.size (.slice (some ⟨w.heap.size + 1, 0, none⟩) 0 0) [] ∧
    Below w.heap.size w ((w.alloc (.cells #[.int .i64 e, .int .i64 a] 88)).alloc (.cells #[] 5)) ∧ w.heap.size ≤ ((w.alloc (.cells #[.int .i64 e, .int .i64 a] 88)).alloc (.cells #[] 5)).heap.size := by
  have hB : Below w.heap.size w ((w.alloc (.cells #[.int .i64 e, .int .i64 a] 88)).alloc (.cells #[] 5)) := ((Below.refl _ _).alloc (Nat.le_refl _) _).alloc (by simp) _
  have h := heap_alloc_new (w.alloc (.cells #[.int .i64 e, .int .i64 a] 88)) (.cells #[] 5)
  rw [show (w.alloc (.cells #[.int .i64 e, .int .i64 a] 88)).heap.size = w.heap.size + 1 by simp] at h
  exact ⟨⟨by simp [cellsOfBytes], .inr ⟨w.heap.size + 1, 0, #[], rfl, Nat.le_succ _, h, Nat.le_refl _, Nat.zero_le _, by simp, by simp [cellsOfBytes]⟩⟩, hB, hB.size⟩
theorem grown_step {w w' : World} {v : Value} {base : Nat} {l : List UInt8} (hg : w.grownBy w' v.ownBlock) (ho : OwnB w base v l) (hb : base ≤ w.heap.size) : Below base w w' := (Below.refl base w).grown hg hb (fun j hj => (ho.lt j hj).1)
end Go.Proofs.YtliiejdhbkmifaaDoor
