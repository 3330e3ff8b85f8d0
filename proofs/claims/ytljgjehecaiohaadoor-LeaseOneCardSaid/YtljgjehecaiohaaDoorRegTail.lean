/-
  A region that draws its order, of which the tail alone does something. Conditions: none.
-/
import Derived.Test.YtljgjehecaiohaaDoorBa
import Derived.StillTailTactics
namespace Go.Proofs.YtljgjehecaiohaaDoor
open Go.RowKit

/-- a region that draws its order, all but its tail only reading: the world that it draws gets a name -/
theorem region_tail {P : Program} {id : Nat} {Q : Exit → Act → World → Prop} {a : Act} {w : World} {l : List Oper} (n : Nat) (hm : P.follows .mixedOrders = true) (hB : Region.lexTailB .any l.toArray n = true) (wd : World) (hwd : wd = { w with drawn := w.drawn + 1 })
    (h : wpStill P l.toArray wd (fun a' => wpList P l.toArray Q (l.drop n) a' wd) (l.take n) a) : (Code.region id l.toArray true).wp P Q a w := by
  subst hwd
  exact wp_region_still_tail n hm hB h
end Go.Proofs.YtljgjehecaiohaaDoor
