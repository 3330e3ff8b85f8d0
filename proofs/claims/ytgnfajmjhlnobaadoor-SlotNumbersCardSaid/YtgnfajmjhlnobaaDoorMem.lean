/-
  Words for memory: cuts of slices of bytes. Conditions: none.
-/
import Derived.Test.YtgnfajmjhlnobaaDoorMem0
namespace Go.Proofs.YtgnfajmjhlnobaaDoor
open Go.RowKit

theorem elemBytes : Tryd.prog.underlying 22 = some (.slice (Tryd.prog.elem 22)) := by kernel_rfl
theorem sizeBytes : ∀ w, (sizeOf (Tryd.prog.elem 22)).run Tryd.prog w = .ok 1 w := fun w => by kernel_rfl
theorem cut_to (A : Option Addr) (n c k : Nat) (hk : k ≤ c) (W : World) : (Instr.slice 22 (.slice A n c) none (some (.int .i64 (k : Int))) none).run Tryd.prog W = .ok (.slice A k c) W := run_cut_to elemBytes sizeBytes A n c k hk W
theorem cut_from (A : Option Addr) (n c k : Nat) (hk : k ≤ n) (W : World) : (Instr.slice 22 (.slice A n c) (some (.int .i64 (k : Int))) none none).run Tryd.prog W = .ok (.slice (cutA A k c) (n - k) (c - k)) W := run_cut_from elemBytes sizeBytes A n c k hk W
end Go.Proofs.YtgnfajmjhlnobaaDoor
