/-
  A block that holds a fault. Conditions: none.
-/
import Derived.Test.YtodaocgfciigpaaMem0
namespace Go.Proofs.Ytodaocgfciigpaa
open Go.RowKit

/-- a block that holds a fault -/
def FltAt (w : World) (g : Nat) (e a : Int) : Prop := w.heap[g]? = some (.cells #[.int .i64 e, .int .i64 a] 36)
def fcells (e a : Int) : Obj := .cells #[.int .i64 e, .int .i64 a] 36
section
variable {w w' : World} {g : Nat} {e a : Int}
theorem FltAt.lt (h : FltAt w g e a) : g < w.heap.size := by
  rcases Nat.lt_or_ge g w.heap.size with hlt | hge
  · exact hlt
  · unfold FltAt at h; rw [Array.getElem?_eq_none hge] at h; cases h
theorem FltAt.step (h : FltAt w g e a) (hb : Below w.heap.size w w') : FltAt w' g e a := (hb.block g h.lt).trans h
theorem FltAt.stepA (h : FltAt w g e a) (o : Obj) : FltAt (w.alloc o) g e a := h.step ((Below.refl _ _).alloc (Nat.le_refl _) o)
theorem FltAt.new (w : World) (e a : Int) : FltAt (w.alloc (fcells e a)) w.heap.size e a := heap_alloc_new w _
theorem FltAt.c0 (h : FltAt w g e a) : w.cell? ⟨g, 0, none⟩ = some (.int .i64 e) := by unfold FltAt at h; simp [World.cell?, h]
theorem FltAt.c1 (h : FltAt w g e a) : w.cell? ⟨g, 1, none⟩ = some (.int .i64 a) := by unfold FltAt at h; simp [World.cell?, h]
end

end Go.Proofs.Ytodaocgfciigpaa
