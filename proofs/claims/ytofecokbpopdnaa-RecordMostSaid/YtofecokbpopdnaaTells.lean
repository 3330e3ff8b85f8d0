/-
  What only tells: a Bool told, with the world as it was, or with memory made; a counter's number. Conditions: none.
-/
import Derived.Test.YtofecokbpopdnaaBa
namespace Go.Proofs.Ytofecokbpopdnaa
open Go.RowKit

/-- what only tells -/
def Tls (b : Bool) (w : World) (e : Ending) (w' : World) : Prop := e = .returned (.bool b) ∧ w = w'
/-- what only tells, whatever memory it makes -/
def Tlb (b : Bool) (w : World) (e : Ending) (w' : World) : Prop := e = .returned (.bool b) ∧ Below w.heap.size w w'
theorem Tls.tlb {b : Bool} {w w' : World} {e : Ending} (h : Tls b w e w') : Tlb b w e w' := ⟨h.1, h.2 ▸ Below.refl _ w⟩
def vI : Value → Nat
  | .int _ q => q.toNat
  | _ => 0
end Go.Proofs.Ytofecokbpopdnaa
