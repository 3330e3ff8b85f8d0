/-
  A map of dirty blocks that is nil, or that nobody made; none on no disk: what the program's calls do. Conditions: none.
-/
import Derived.Test.YtcahpodmcklnbaaDoorDyProg
namespace Go.Proofs.YtcahpodmcklnbaaDoor
open Go.RowKit Fix

def NoMp (w : World) (p : Value) : Prop := p = .pointer none ∨ ∃ g, p = .pointer (some ⟨g, 0, none⟩) ∧ w.cell? ⟨g, 2, none⟩ = some (.pointer none)
theorem NoMp.step {w w' : World} {p : Value} (h : NoMp w p) (B : Below w.heap.size w w') : NoMp w' p := by
  rcases h with h | ⟨g, h, h0⟩
  · exact .inl h
  · exact .inr ⟨g, h, (B.cell (p := ⟨g, 2, none⟩) (World.block_lt_of_cell? w _ h0)).trans h0⟩
set_option maxRecDepth 100000 in
theorem mpMade_no (w : World) (p : Value) (h : NoMp w p) : Calls Tryd.prog 23 #[p] w fun e w' => e = .returned (.bool false) ∧ w = w' := by
  rcases h with rfl | ⟨g, rfl, h0⟩
  · go_enter Tryd.func23, Tryd.ntmps23
    go_wp2
    go_ret
    exact ⟨rfl, rfl⟩
  · have he : ∀ w, (binOp .eql 23 (.pointer none) (.pointer (some ⟨g, 0, none⟩))).run Tryd.prog w = .ok (.bool false) w := fun w => by kernel_rfl
    go_enter Tryd.func23, Tryd.ntmps23
    go_wp2
    go_ret
    exact ⟨rfl, rfl⟩
section
variable {w : World} {p : Value} (h : NoMp w p)
include h
set_option maxRecDepth 100000 in
theorem mpBits_no : Calls Tryd.prog 11 #[p] w fun e w' => e = .returned (.int .u64 0) ∧ w = w' := by
  have zm := mpMade_no w p h
  clear h
  go_enter Tryd.func11, Tryd.ntmps11
  go_wp2_with (go_at_call 23; refine zm.mono ?_; (rintro e w1 ⟨rfl, rfl⟩))
  go_ret
  exact ⟨rfl, rfl⟩
set_option maxRecDepth 100000 in
theorem mpMark_no (n : Int) : Calls Tryd.prog 8 #[p, .int .i64 n] w fun e w' => e = .returned (.int .i64 1) ∧ w = w' := by
  have zm := mpMade_no w p h
  clear h
  go_enter Tryd.func8, Tryd.ntmps8
  go_wp2_with (go_at_call 23; refine zm.mono ?_; (rintro e w1 ⟨rfl, rfl⟩))
  go_ret
  exact ⟨rfl, rfl⟩
set_option maxRecDepth 100000 in
theorem mpBecome_no (f v : Value) : Calls Tryd.prog 25 #[p, f, v] w fun e w' => e = .returned (.int .i64 1) ∧ w = w' := by
  have zm := mpMade_no w p h
  clear h
  go_enter Tryd.func25, Tryd.ntmps25
  go_wp2_with (go_at_call 23; refine zm.mono ?_; (rintro e w1 ⟨rfl, rfl⟩))
  go_ret
  exact ⟨rfl, rfl⟩
set_option maxRecDepth 100000 in
theorem mpMerge_no (v : Int) : Calls Tryd.prog 9 #[p, .int .u64 v] w fun e w' => e = .returned (.int .i64 1) ∧ w = w' := by
  have hmf : ∀ (fn : Fn) (first cap : Array Value) (w : World), (Instr.makeFunc fn first cap).run Tryd.prog w = .ok (.func fn first cap) w := fun _ _ _ _ => rfl
  have zm := fun f => mpBecome_no h f (.int .u64 v)
  clear h
  go_enter Tryd.func9, Tryd.ntmps9
  go_wp2_with (go_at_call 25; refine (zm _).mono ?_; (rintro e w1 ⟨rfl, rfl⟩))
  go_ret
  exact ⟨rfl, rfl⟩
set_option maxRecDepth 100000 in
theorem mpClear_no (v : Int) : Calls Tryd.prog 10 #[p, .int .u64 v] w fun e w' => e = .returned (.int .i64 1) ∧ w = w' := by
  have hmf : ∀ (fn : Fn) (first cap : Array Value) (w : World), (Instr.makeFunc fn first cap).run Tryd.prog w = .ok (.func fn first cap) w := fun _ _ _ _ => rfl
  have zm := fun f => mpBecome_no h f (.int .u64 v)
  clear h
  go_enter Tryd.func10, Tryd.ntmps10
  go_wp2_with (go_at_call 25; refine (zm _).mono ?_; (rintro e w1 ⟨rfl, rfl⟩))
  go_ret
  exact ⟨rfl, rfl⟩
end
theorem mapZ_at {w : World} {g : Nat} (h : BlkR 28 w g [.pointer none, .int .i64 0, .pointer none, .int .u64 0]) : NoMp w (.pointer (some ⟨g, 0, none⟩)) := .inr ⟨g, rfl, h.cell rfl⟩
section
variable {w : World} {p : Value} (h : NoDisk w p)
include h
set_option maxRecDepth 100000 in
theorem mpMake_no (i : Int) : Calls Tryd.prog 12 #[p, .int .i64 i] w fun e w' => e = .returned (.int .i64 1) ∧ Below w.heap.size w w' := by
  obtain ⟨q, rfl⟩ : ∃ q, p = .pointer q := h.elim (fun e => ⟨_, e⟩) fun ⟨_, e, _⟩ => ⟨_, e⟩
  have z : Calls Tryd.prog 28 #[.agg #[.pointer q, .int .i64 i], .int .u64 0] w fun e w' => e = .returned (.int .i64 1) ∧ Below w.heap.size w w' := by
    refine (plSave_go q i 0 w 1 (fun w1 w2 => Below w1.heap.size w1 w2) (fun w1 w2 _ B x _ hx => B.block x hx) fun w1 A B _ => save_no (.pointer q) i _ w1 (h.step B)).mono ?_
    rintro e w' ⟨rfl, w1, B, B2⟩
    exact ⟨rfl, step_trans B B2⟩
  clear h
  go_enter Tryd.func12, Tryd.ntmps12
  go_wp2_with (go_at_call 28; refine z.mono ?_; (rintro e w2 ⟨rfl, B2⟩))
  go_ret
  exact ⟨rfl, B2⟩
set_option maxRecDepth 100000 in
theorem mpOpen_no (i : Int) : Calls Tryd.prog 7 #[p, .int .i64 i] w fun e w' => e = .returned (.tuple #[.pointer none, .int .i64 1]) ∧ Below w.heap.size w w' := by
  obtain ⟨q, rfl⟩ : ∃ q, p = .pointer q := h.elim (fun e => ⟨_, e⟩) fun ⟨_, e, _⟩ => ⟨_, e⟩
  obtain ⟨W, hW⟩ : ∃ W, W = w.alloc (.cells #[.pointer q, .int .i64 i, .pointer none, .int .u64 0] 28) := ⟨_, rfl⟩
  have bx : BlkR 28 W w.heap.size [.pointer q, .int .i64 i, .pointer none, .int .u64 0] := by rw [hW]; exact BlkR.new w [.pointer q, .int .i64 i, .pointer none, .int .u64 0] _
  have BW : Below w.heap.size w W := by rw [hW]; exact (Below.refl _ _).alloc (Nat.le_refl _) _
  have x0 := bx.cell (k := 0) rfl
  have x1 := bx.cell (k := 1) rfl
  have z := plLoad_go q i W [] 1 (by simp) 0 rfl fun w1 B => (load_no (.pointer q) i w1 (h.step (step_trans BW B))).mono fun _ _ ⟨h1, h2⟩ => ⟨none, 0, h1, Nat.le_refl _, bytes_nil, h2⟩
  rw [show plN 1 [] = 0 from rfl, show plE 1 [] = 1 from rfl] at z
  have HB := Lib.hid BW
  clear h bx BW
  go_enter Tryd.func7, Tryd.ntmps7
  go_wp2_with (go_at_call 22; rw [← hW]; refine z.mono ?_; (rintro e w2 ⟨rfl, B2⟩))
  go_ret2
  exact ⟨rfl, step_trans HB.out B2⟩
end
end Go.Proofs.YtcahpodmcklnbaaDoor
