/-
  What the slices of a call are. Conditions: none.
-/
import Derived.Test.YtkokcdlgfemobaaGreatDoorHaActs
namespace Go.Proofs.YtkokcdlgfemobaaGreatDoor
open Go.RowKit

/-- what the slices of a call are, below block B -/
structure HaIn (w : World) (B : Nat) (m : HaM) : Prop where
  b : BytesAt w B m.A m.b
  k : RowAt w B m.AK (m.keeps.map Value.bool)
  n : -9223372036854775808 ≤ m.n ∧ m.n ≤ 9223372036854775807
  cb : m.b.length ≤ m.cb
  ck : m.keeps.length ≤ m.ck
theorem HaIn.below {w w' : World} {B : Nat} {m : HaM} (h : HaIn w B m) (hb : Below B w w') : HaIn w' B m := ⟨h.b.below hb, h.k.below hb, h.n, h.cb, h.ck⟩
end Go.Proofs.YtkokcdlgfemobaaGreatDoor
