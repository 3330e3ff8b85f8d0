/-
  The deferred closures of msg.Put and msg.Get: what they do with a fault that is on its way, and with none. Conditions: none.
-/
import Derived.Test.YtfiijnpabmocdaaMgSmall
import Derived.Recover
namespace Go.Proofs.Ytfiijnpabmocdaa
open Go.RowKit Mg

theorem putCatch_one (g : Nat) (x er a : Int) (older : List PanicEntry) (w : World) (hc : w.cell? ⟨g, 0, none⟩ = some (.int .i64 x)) (hz : w.frozen? ⟨g, 0, none⟩ = false) (he : (er != 0) = true) :
    CallsD Try.prog 17 #[.pointer (some ⟨g, 0, none⟩)] (.panicking ({ v := .iface 66 (.agg #[.int .i64 er, .int .i64 a]), recovered := false } :: older)) w fun e u' w' =>
      e = .returned (.tuple #[]) ∧ u' = .panicking ({ v := .iface 66 (.agg #[.int .i64 er, .int .i64 a]), recovered := true } :: older) ∧ ∃ w2, Below w.heap.size w w2 ∧ w' = w2.setCell ⟨g, 0, none⟩ (.int .i64 2) := by
  refine callsD_of_wpS Try.func17 rfl fun c₀ cs hu => ?_
  apply wpS_seq
  apply wpS_region
  simp [wpOpsS, go_sem, recoverD, hu, Try.ntmps17, Exit.thenS]
  refine (caught_one er a _).mono ?_
  rintro e2 w2 ⟨rfl, hB⟩
  have hlt : g < w.heap.size := World.block_lt_of_cell? w ⟨g, 0, none⟩ hc
  have hc2 : w2.cell? ⟨g, 0, none⟩ = some (.int .i64 x) := (hB.cell (p := ⟨g, 0, none⟩) hlt).trans hc
  have hz2 : w2.frozen? ⟨g, 0, none⟩ = false := (hB.frozen (p := ⟨g, 0, none⟩) hlt).trans hz
  have hf : ∀ w, (Instr.field 38 (flt er a) 0).run Try.prog w = .ok (.int .i64 er) w := fun w => by kernel_rfl
  simp [go_sem, hf, he]
  refine wpS_cond (t := true) (by simp [Act.eval]) ?_
  simp only [if_true]
  apply wpS_region
  simp [wpOpsS, go_sem, hc2, hz2, bodyPostS, results, Try.results17]
  exact ⟨_, hB, rfl⟩
theorem putCatch_none (p : Value) (w : World) :
    CallsD Try.prog 17 #[p] .returning w fun e u' w' => e = .returned (.tuple #[]) ∧ u' = .returning ∧ Below w.heap.size w w' := by
  refine callsD_of_wpS Try.func17 rfl fun c₀ cs hu => ?_
  apply wpS_seq
  apply wpS_region
  simp [wpOpsS, go_sem, recoverD, hu, Try.ntmps17, Exit.thenS]
  refine (caught_none _).mono ?_
  rintro e2 w2 ⟨rfl, hB⟩
  have hf : ∀ w, (Instr.field 38 (flt 0 0) 0).run Try.prog w = .ok (.int .i64 0) w := fun w => by kernel_rfl
  simp [go_sem, hf]
  refine wpS_cond (t := false) (by simp [Act.eval]) ?_
  simp only [Bool.false_eq_true, if_false]
  refine wpS_of_wp (wp_skip ?_)
  cases c₀
  simp_all [bodyPostS, results, Try.results17]
theorem getCatch_one (g : Nat) (er a : Int) (older : List PanicEntry) (w : World) (hb : BlkR 38 w g [.int .i64 0, .int .i64 0]) :
    CallsD Try.prog 26 #[.pointer (some ⟨g, 0, none⟩)] (.panicking ({ v := .iface 66 (.agg #[.int .i64 er, .int .i64 a]), recovered := false } :: older)) w fun e u' w' =>
      e = .returned (.tuple #[]) ∧ u' = .panicking ({ v := .iface 66 (.agg #[.int .i64 er, .int .i64 a]), recovered := true } :: older) ∧ BlkR 38 w' g [.int .i64 er, .int .i64 a] ∧ Frame (fun k => k = g) w w' := by
  refine callsD_of_wpS Try.func26 rfl fun c₀ cs hu => ?_
  apply wpS_region
  simp [wpOpsS, go_sem, recoverD, hu, Try.ntmps26]
  refine (caught_one er a _).mono ?_
  rintro e2 w2 ⟨rfl, hB⟩
  have h2 := hb.below hB hb.lt
  have c0 := h2.cell (k := 0) rfl
  have c1 := h2.cell (k := 1) rfl
  have f0 := h2.frozen 0
  have f1 := h2.frozen 1
  have h3 := (h2.set_ 0 (.int .i64 er)).set_ 1 (.int .i64 a)
  have hF : Frame (fun k => k = g) w ((w2.setCell ⟨g, 0, none⟩ (.int .i64 er)).setCell ⟨g, 1, none⟩ (.int .i64 a)) := ((Frame.of_below (F := fun k => k = g) hB).setAt ⟨g, 0, none⟩ _ rfl).setAt ⟨g, 1, none⟩ _ rfl
  unfold flt
  simp [go_sem, c0, c1, f0, f1, bodyPostS, results, Try.results26]
  exact ⟨h3, hF⟩
theorem getCatch_none (g : Nat) (w : World) (hb : BlkR 38 w g [.int .i64 0, .int .i64 0]) :
    CallsD Try.prog 26 #[.pointer (some ⟨g, 0, none⟩)] .returning w fun e u' w' =>
      e = .returned (.tuple #[]) ∧ u' = .returning ∧ BlkR 38 w' g [.int .i64 0, .int .i64 0] ∧ Frame (fun k => k = g) w w' := by
  refine callsD_of_wpS Try.func26 rfl fun c₀ cs hu => ?_
  apply wpS_region
  simp [wpOpsS, go_sem, recoverD, hu, Try.ntmps26]
  refine (caught_none _).mono ?_
  rintro e2 w2 ⟨rfl, hB⟩
  have h2 := hb.below hB hb.lt
  have c0 := h2.cell (k := 0) rfl
  have c1 := h2.cell (k := 1) rfl
  have f0 := h2.frozen 0
  have f1 := h2.frozen 1
  have h3 := (h2.set_ 0 (.int .i64 0)).set_ 1 (.int .i64 0)
  have hF : Frame (fun k => k = g) w ((w2.setCell ⟨g, 0, none⟩ (.int .i64 0)).setCell ⟨g, 1, none⟩ (.int .i64 0)) := ((Frame.of_below (F := fun k => k = g) hB).setAt ⟨g, 0, none⟩ _ rfl).setAt ⟨g, 1, none⟩ _ rfl
  unfold flt
  simp [go_sem, c0, c1, f0, f1, bodyPostS, results, Try.results26]
  cases c₀
  simp_all
end Go.Proofs.Ytfiijnpabmocdaa
