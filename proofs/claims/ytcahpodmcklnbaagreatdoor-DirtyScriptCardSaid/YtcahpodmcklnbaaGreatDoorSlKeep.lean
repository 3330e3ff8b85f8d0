/-
  A step from one world to another that turns a disk's blocks alone, and what lies beside it. Conditions: none.
-/
import Derived.Test.YtcahpodmcklnbaaGreatDoorSa
namespace Go.Proofs.YtcahpodmcklnbaaGreatDoor
open Go.RowKit Fix

/-- a change of a disk's blocks: what it turns, what it has then -/
structure Keep (F : Nat → Prop) (w : World) (F' : Nat → Prop) (w' : World) : Prop where
  fr : Frame F w w'
  own : ∀ k, F' k → F k ∨ w.heap.size ≤ k
theorem Keep.of_below {F : Nat → Prop} {w w' : World} (h : Below w.heap.size w w') : Keep F w F w' := ⟨Frame.of_below h, fun _ hk => .inl hk⟩
theorem Keep.trans {F F1 F2 : Nat → Prop} {w w1 w2 : World} (h : Keep F w F1 w1) (h2 : Keep F1 w1 F2 w2) : Keep F w F2 w2 :=
  ⟨h.fr.trans h2.fr h.own, fun k hk => (h2.own k hk).elim (h.own k) fun x => .inr (Nat.le_trans h.fr.size x)⟩
theorem Keep.below {F F' : Nat → Prop} {w w' : World} {B : Nat} (h : Keep F w F' w') (hF : ∀ k, F k → B ≤ k) (hB : B ≤ w.heap.size) : Below B w w' := h.fr.below hF hB
theorem Keep.far {F F' : Nat → Prop} {w w' : World} {B : Nat} (h : Keep F w F' w') (hF : ∀ k, F k → B ≤ k) (hB : B ≤ w.heap.size) : ∀ k, F' k → B ≤ k := fun k hk => (h.own k hk).elim (hF k) fun x => Nat.le_trans hB x
theorem Keep.blk {E : TypeId} {F F' : Nat → Prop} {w w' : World} {g : Nat} {xs : List Value} (h : Keep F w F' w') (hb : BlkR E w g xs) (hg : ¬ F g) : BlkR E w' g xs := hb.frame h.fr hg
/-- bytes that lie beside a disk -/
def Aside (F : Nat → Prop) (w : World) (A : Option Addr) (l : List UInt8) : Prop := BytesAt w w.heap.size A l ∧ (l ≠ [] → ∀ ad, A = some ad → ad.block < w.heap.size ∧ ¬ F ad.block)
theorem Aside.keep {F F' : Nat → Prop} {w w' : World} {A : Option Addr} {l : List UInt8} (h : Aside F w A l) (k : Keep F w F' w') : Aside F' w' A l :=
  ⟨bytes_frame k.fr h.1 fun hl ad e => (h.2 hl ad e).2, fun hl ad e => ⟨Nat.lt_of_lt_of_le (h.2 hl ad e).1 k.fr.size, fun hx => (k.own _ hx).elim (h.2 hl ad e).2 fun y => by have := (h.2 hl ad e).1; omega⟩⟩
theorem Aside.whole {F : Nat → Prop} {w w' : World} {A : Option Addr} {l : List UInt8} {c : Nat} (h : Whole w' w.heap.size A c l) (hF : ∀ k, F k → k < w.heap.size) : Aside F w' A l :=
  ⟨h.bytes, fun hl ad e => by
    have h1 := h.new ad e hl
    refine ⟨?_, fun hx => by have := hF _ hx; omega⟩
    obtain ⟨ad', e', hb, _⟩ := h.bytes hl
    rw [e] at e'; cases e'; exact hb⟩
theorem saveAdd (a : Addr) (n : Nat) (h : n ≠ 0) : a.add n = ⟨a.block, a.off + n, none⟩ := by unfold Addr.add; rw [if_neg h]
end Go.Proofs.YtcahpodmcklnbaaGreatDoor
