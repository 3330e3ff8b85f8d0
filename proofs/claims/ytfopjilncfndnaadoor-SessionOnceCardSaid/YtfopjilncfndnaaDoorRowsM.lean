/-
  A slice of slices of bytes as it lies in memory. Conditions: none.
-/
import Derived.Test.YtfopjilncfndnaaDoorBa
namespace Go.Proofs.YtfopjilncfndnaaDoor
open Go.RowKit

/-- a slice of bytes as it lies in memory -/
structure RowM where
  b : List UInt8
  A : Option Addr
  cb : Nat
def rowCell (m : RowM) : Value := .slice m.A m.b.length m.cb
/-- the slice at A0 reads as the rows ms, below block B -/
structure RowsAt (w : World) (B : Nat) (A0 : Option Addr) (ms : List RowM) : Prop where
  at_ : RowAt w B A0 (ms.map rowCell)
  b : ∀ m, m ∈ ms → BytesAt w B m.A m.b
theorem RowsAt.below {w w' : World} {B : Nat} {A0 : Option Addr} {ms : List RowM} (h : RowsAt w B A0 ms) (hb : Below B w w') : RowsAt w' B A0 ms := ⟨h.at_.below hb, fun m hm => (h.b m hm).below hb⟩
end Go.Proofs.YtfopjilncfndnaaDoor
