/-
  The walk of LeaseEnds. Conditions: the table of bounds lies as the text lays it.
-/
import Derived.Test.YtljgjehecaiohaaDoorLePm
namespace Go.Proofs.YtljgjehecaiohaaDoor
open Go.RowKit Le

theorem bars_own {t f n : Int} (h : t ≠ -2) : decide (Bars t f t n) = false := decide_eq_false fun e => e.2.elim h fun x => x rfl
theorem bars_any2 {t f d n : Int} (h : t = -2) : decide (Bars t f d n) = decide (Holds t f n) := decide_eq_decide.2 ⟨fun e => e.1, fun e => ⟨e, .inl h⟩⟩
theorem bars_h {t f d n : Int} (h : t ≠ -2) (hh : Holds t f n) : decide (Bars t f d n) = (t != d) := by
  by_cases g : t = d
  · rw [decide_eq_false fun e => e.2.elim h fun x => x g]; simp [g]
  · rw [decide_eq_true ⟨hh, .inr g⟩]; simp [g]
theorem bars_n {t f d n : Int} (hh : ¬ Holds t f n) : decide (Bars t f d n) = false := decide_eq_false fun e => hh e.1
end Go.Proofs.YtljgjehecaiohaaDoor
