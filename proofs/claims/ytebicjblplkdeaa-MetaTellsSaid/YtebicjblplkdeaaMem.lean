/-
  Words for memory: cuts of slices of bytes. Conditions: none.
-/
import Derived.Test.YtebicjblplkdeaaMem0
namespace Go.Proofs.Ytebicjblplkdeaa
open Go.RowKit

theorem elemBytes : Try.prog.underlying 26 = some (.slice (Try.prog.elem 26)) := by kernel_rfl
theorem sizeBytes : ∀ w, (sizeOf (Try.prog.elem 26)).run Try.prog w = .ok 1 w := fun w => by kernel_rfl
theorem cut_to (A : Option Addr) (n c k : Nat) (hk : k ≤ c) (W : World) : (Instr.slice 26 (.slice A n c) none (some (.int .i64 (k : Int))) none).run Try.prog W = .ok (.slice A k c) W := run_cut_to elemBytes sizeBytes A n c k hk W
theorem cut_from (A : Option Addr) (n c k : Nat) (hk : k ≤ n) (W : World) : (Instr.slice 26 (.slice A n c) (some (.int .i64 (k : Int))) none none).run Try.prog W = .ok (.slice (cutA A k c) (n - k) (c - k)) W := run_cut_from elemBytes sizeBytes A n c k hk W
end Go.Proofs.Ytebicjblplkdeaa
