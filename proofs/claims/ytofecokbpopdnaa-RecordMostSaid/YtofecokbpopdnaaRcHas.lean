/-
  The program's records: Has, Next, May, First. Conditions: a set is an int of 64 bits.
-/
import Derived.Test.YtofecokbpopdnaaRcNew
import Derived.BigQuiet
namespace Go.Proofs.Ytofecokbpopdnaa
open Go.RowKit Rc

theorem isDataNode_any (d : Int) (w : World) : Calls Try.prog 28 #[.int .i64 d] w (Tls (decide (d = 0 ∨ d = 1)) w) := by
  by_cases g : d = 0
  · subst g
    go_enter Try.func28, Try.ntmps28
    go_wp2
    go_ret
    exact ⟨rfl, rfl⟩
  · have l0 : (d == 0) = false := by simp [g]
    have FIN : Hid (decide (d = 0 ∨ d = 1) = (d == 1)) := Lib.hid (by simp [g]; rw [Bool.eq_iff_iff]; simp)
    clear g
    go_enter Try.func28, Try.ntmps28
    go_wp2
    go_ret
    exact ⟨by rw [FIN.out]; rfl, rfl⟩
/-- a record in a new variable -/
structure RcNewV (w w1 : World) (t n s : Int) : Prop where
  eq : w1 = w.alloc (.cells #[.int .i64 t, .int .i64 n, .int .i64 s] 23)
  fr : Below w.heap.size w w1
  blk : BlkR 23 w1 w.heap.size (rcL t n s)
theorem rc_new (w : World) (t n s : Int) : ∃ w1, RcNewV w w1 t n s := ⟨_, rfl, step_alloc (Below.refl _ w) _, BlkR.new w (rcL t n s) _⟩
theorem has_0 (s : Int) : decide (Has s 0) = (bits .and .i64 s 1 != 0) := by
  rw [and1, Bool.eq_iff_iff]; simp [Has]; try omega
theorem has_1 (s : Int) : decide (Has s 1) = (bits .and .i64 s 2 != 0) := by
  rw [and2, Bool.eq_iff_iff]; simp [Has]; try omega
set_option maxRecDepth 100000 in
/-- P17.1 -/
theorem rcHas_any (t n s d : Int) (w : World) : Calls Try.prog 13 #[.agg #[.int .i64 t, .int .i64 n, .int .i64 s], .int .i64 d] w (Tlb (decide (Has s d)) w) := by
  obtain ⟨w1, W1⟩ := rc_new w t n s
  have cd : w1.cell? ⟨w.heap.size, 2, none⟩ = some (.int .i64 s) := W1.blk.cell rfl
  have hw1 := W1.eq
  have z1 : ∀ n, Calls Try.prog 28 #[.int .i64 d] (w1.drewN n) fun e w' => e = .returned (.bool (decide (d = 0 ∨ d = 1))) ∧ w1.drewN n = w' := fun n => isDataNode_any d (w1.drewN n)
  have BB := Lib.hid W1.fr
  rw [hw1] at cd z1
  clear W1
  by_cases g : d = 0
  · subst g
    rw [decide_eq_true (.inl rfl)] at z1
    have FIN := Lib.hid (has_0 s)
    go_enter Try.func13, Try.ntmps13
    go_wp2
    go_quiet (first
      | (go_at_call 28; with_reducible first | exact quietN (z1 _) | exact quietA (z1 _)))
    go_wp2
    go_ret
    exact ⟨by rw [FIN.out]; rfl, belowN (hw1 ▸ BB.out) nq⟩
  · by_cases g1 : d = 1
    · subst g1
      rw [decide_eq_true (.inr rfl)] at z1
      have FIN := Lib.hid (has_1 s)
      go_enter Try.func13, Try.ntmps13
      go_wp2
      go_quiet (first
      | (go_at_call 28; with_reducible first | exact quietN (z1 _) | exact quietA (z1 _)))
      go_wp2
      go_ret
      exact ⟨by rw [FIN.out]; rfl, belowN (hw1 ▸ BB.out) nq⟩
    · rw [decide_eq_false (fun e => e.elim g g1)] at z1
      rw [decide_eq_false (show ¬ Has s d from fun e => e.elim (fun x => g x.1) (fun x => g1 x.1))]
      clear g g1
      go_enter Try.func13, Try.ntmps13
      go_wp2
      go_quiet (first
      | (go_at_call 28; with_reducible first | exact quietN (z1 _) | exact quietA (z1 _)))
      go_wp2
      go_ret
      exact ⟨rfl, belowN (hw1 ▸ BB.out) nq⟩
end Go.Proofs.Ytofecokbpopdnaa
