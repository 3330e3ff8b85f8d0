/-
  A slot on a disk that is nil, or that nobody made. Conditions: none.
-/
import Derived.Test.YtlchpolheciadaaDoorSlSave
import Derived.Test.YtlchpolheciadaaDoorDmNone
namespace Go.Proofs.YtlchpolheciadaaDoor
open Go.RowKit Fix

theorem NoDisk.step {w w' : World} {p : Value} (h : NoDisk w p) (hb : Below w.heap.size w w') : NoDisk w' p := by
  rcases h with h | ⟨b, e, h⟩
  · exact .inl h
  · exact .inr ⟨b, e, (hb.cell (p := ⟨b, 0, none⟩) (World.block_lt_of_cell? w _ h)).trans h⟩
end Go.Proofs.YtlchpolheciadaaDoor
