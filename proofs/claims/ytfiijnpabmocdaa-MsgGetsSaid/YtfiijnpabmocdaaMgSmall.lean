/-
  msg's small functions: refuse, caught, allow, pass. Conditions: none.
-/
import Derived.Test.YtfiijnpabmocdaaMgCar
import Derived.Test.YtfiijnpabmocdaaBa
import Derived.Test.YtfiijnpabmocdaaFx
import Derived.Laws.ResultCell
namespace Go.Proofs.Ytfiijnpabmocdaa
open Go.RowKit Mg

theorem refuse_any (e a : Int) (w : World) : Calls Try.prog 28 #[.int .i64 e, .int .i64 a] w fun en w' => en = .panicked (wrongP e a) ∧ w = w' := by
  go_enter Try.func28, Try.ntmps28
  go_wp2
  exact ⟨rfl, rfl, rfl⟩
theorem caught_none (w : World) : Calls Try.prog 18 #[.nilIface] w fun en w' => en = .returned (flt 0 0) ∧ Below w.heap.size w w' := by
  go_enter Try.func18, Try.ntmps18
  go_wp2
  refine bodyPost_ret (v := flt 0 0) (by simp [results, Try.results18, flt, go_sem]) rfl ⟨rfl, ?_⟩
  exact (Below.refl _ _).alloc (Nat.le_refl _) _
theorem caught_one (e a : Int) (w : World) : Calls Try.prog 18 #[.iface 66 (.agg #[.int .i64 e, .int .i64 a])] w fun en w' => en = .returned (flt e a) ∧ Below w.heap.size w w' := by
  have hta : ∀ w, (Instr.typeAssert (.iface 66 (.agg #[.int .i64 e, .int .i64 a])) 20 66 false).run Try.prog w = .ok (.agg #[.int .i64 e, .int .i64 a]) w := fun w => by kernel_rfl
  have hne : ∀ w, (binOp .eql 20 (.iface 66 (.agg #[.int .i64 e, .int .i64 a])) .nilIface).run Try.prog w = .ok (.bool false) w := fun w => by kernel_rfl
  go_enter Try.func18, Try.ntmps18
  go_wp2
  refine bodyPost_ret (v := flt e a) (by simp [results, Try.results18, flt, go_sem]) rfl ⟨rfl, ?_⟩
  exact (Below.refl _ _).alloc (Nat.le_refl _) _
theorem allow_yes (n mo a : Int) (h : 0 ≤ n) (h2 : n ≤ mo) (w : World) : Calls Try.prog 31 #[.int .i64 n, .int .i64 mo, .int .i64 a] w fun en w' => en = .returned (.tuple #[]) ∧ w = w' := by
  have d1 : decide (n < 0) = false := decide_eq_false (by omega)
  have d2 : decide (mo < n) = false := decide_eq_false (by omega)
  have h3 : ¬ n < 0 := by omega
  have h4 : ¬ mo < n := by omega
  go_enter Try.func31, Try.ntmps31
  go_wp2
  go_end0
  exact ⟨rfl, rfl⟩
theorem allow_no (n mo a : Int) (h : n < 0 ∨ mo < n) (w : World) : Calls Try.prog 31 #[.int .i64 n, .int .i64 mo, .int .i64 a] w fun en w' => en = .panicked (wrongP 5 a) ∧ w = w' := by
  by_cases h1 : n < 0
  · have d1 : decide (n < 0) = true := decide_eq_true h1
    clear h
    go_enter Try.func31, Try.ntmps31
    go_wp2_with (go_at_call 28; (with_reducible refine (refuse_any _ _ _).mono ?_); (rintro e w2 ⟨rfl, rfl⟩))
    exact ⟨rfl, rfl, rfl⟩
  · have d1 : decide (n < 0) = false := decide_eq_false h1
    have h2 : mo < n := by omega
    have d2 : decide (mo < n) = true := decide_eq_true h2
    clear h
    go_enter Try.func31, Try.ntmps31
    go_wp2_with (go_at_call 28; (with_reducible refine (refuse_any _ _ _).mono ?_); (rintro e w2 ⟨rfl, rfl⟩))
    exact ⟨rfl, rfl, rfl⟩
end Go.Proofs.Ytfiijnpabmocdaa
