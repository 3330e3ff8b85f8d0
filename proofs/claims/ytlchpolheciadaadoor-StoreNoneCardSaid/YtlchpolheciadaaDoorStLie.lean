/-
  How a store lies in the program's memory. Conditions: none.
-/
import Derived.Test.YtlchpolheciadaaDoorStNone
namespace Go.Proofs.YtlchpolheciadaaDoor
open Go.RowKit Fix

/-- the cells of a new variable of the type -/
def stZ : List Value := [.pointer none, .pointer none, .int .i64 0, .int .i64 0, .int .i64 0, .bool false]
theorem stTy : RowTy Tryd.prog 27 stZ := ⟨fun w => by kernel_rfl, by kernel_rfl, _, Tryd.underlying27, rfl⟩
end Go.Proofs.YtlchpolheciadaaDoor
