/-
  A store that is nil, or that nobody made; none on no disk: what the calls promise. Conditions: none.
-/
import Derived.Test.YtlchpolheciadaaDoorStPost
import Derived.Test.YtlchpolheciadaaDoorSlNo
namespace Go.Proofs.YtlchpolheciadaaDoor
open Go.RowKit Fix

/-- WHAT A STORE's CALLS TELL OF NONE, whatever the package's own memory looks like: 'NS w p': p is no store; z: the cells of a new variable of the type -/
structure NoStores (z : List Value) (NS : World → Value → Prop) : Prop where
  nil : ∀ w, NS w (.pointer none)
  zero : ∀ w g, BlkR 27 w g z → NS w (.pointer (some ⟨g, 0, none⟩))
  step : ∀ w w' p, NS w p → Below w.heap.size w w' → NS w' p
  get : ∀ w p i, NS w p → Calls Tryd.prog 9 #[p, .int .i64 i] w fun e w' => e = .returned (.tuple #[.slice none 0 0, .int .i64 1]) ∧ Below w.heap.size w w'
  put : ∀ w p i A n c, NS w p → Calls Tryd.prog 11 #[p, .int .i64 i, .slice A n c] w fun e w' => e = .returned (.int .i64 1) ∧ Below w.heap.size w w'
  blocks : ∀ w p, NS w p → Calls Tryd.prog 12 #[p] w fun e w' => e = .returned (.int .i64 0) ∧ Below w.heap.size w w'
  number : ∀ w p, NS w p → Calls Tryd.prog 13 #[p] w fun e w' => e = .returned (.int .i64 0) ∧ Below w.heap.size w w'
  make_ : ∀ w p i m, NoDisk w p → Calls Tryd.prog 14 #[p, .int .i64 i, .int .i64 m] w fun e w' => e = .returned (.int .i64 1) ∧ Below w.heap.size w w'
  open_ : ∀ w p i m, NoDisk w p → Calls Tryd.prog 10 #[p, .int .i64 i, .int .i64 m] w fun e w' => e = .returned (.tuple #[.pointer none, .slice none 0 0, .int .i64 1]) ∧ Below w.heap.size w w'
end Go.Proofs.YtlchpolheciadaaDoor
