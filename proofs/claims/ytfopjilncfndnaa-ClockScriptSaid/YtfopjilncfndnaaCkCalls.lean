/-
  Clocks: every call of them. Conditions: none.
-/
import Derived.Test.YtfopjilncfndnaaCkProg
namespace Go.Proofs.Ytfopjilncfndnaa
open Go.RowKit Ck

set_option maxRecDepth 100000 in
theorem ckMade_yes (b : Nat) (w : World) (h : w.cell? ⟨b, 0, none⟩ = some (.pointer (some ⟨b, 0, none⟩))) : Calls Try.prog 19 #[.pointer (some ⟨b, 0, none⟩)] w fun e w' => e = .returned (.bool true) ∧ w = w' := by
  have he : ∀ w, (binOp .eql 24 (.pointer (some ⟨b, 0, none⟩)) (.pointer (some ⟨b, 0, none⟩))).run Try.prog w = .ok (.bool true) w := fun w => by
    obtain ⟨j, hj⟩ : ∃ j, Try.prog.info? 40 = some j := Option.isSome_iff_exists.1 (by kernel_rfl)
    exact run_eql_ptr_same w _ (tp := 24) (te := 40) (by kernel_rfl) hj
  go_enter Try.func19, Try.ntmps19
  go_wp2
  go_ret
  exact ⟨rfl, rfl⟩
set_option maxRecDepth 100000 in
theorem ckMade_nil (w : World) : Calls Try.prog 19 #[.pointer none] w fun e w' => e = .returned (.bool false) ∧ w = w' := by
  go_enter Try.func19, Try.ntmps19
  go_wp2
  go_ret
  exact ⟨rfl, rfl⟩
set_option maxRecDepth 100000 in
theorem ckMade_no (b : Nat) (w : World) (h : w.cell? ⟨b, 0, none⟩ = some (.pointer none)) : Calls Try.prog 19 #[.pointer (some ⟨b, 0, none⟩)] w fun e w' => e = .returned (.bool false) ∧ w = w' := by
  have he : ∀ w, (binOp .eql 24 (.pointer none) (.pointer (some ⟨b, 0, none⟩))).run Try.prog w = .ok (.bool false) w := fun w => by kernel_rfl
  go_enter Try.func19, Try.ntmps19
  go_wp2
  go_ret
  exact ⟨rfl, rfl⟩
/-- the cells of clocks at b -/
def ckC (b : Nat) (t : T3) (kept : Bool) (n : Nat) : List Value := [.pointer (some ⟨b, 0, none⟩), .int .i64 t.a, .int .i64 t.b, .int .i64 t.c, .bool (!kept), .int .i64 (n : Int)]
/-- clocks at b -/
structure CkAt (w : World) (b : Nat) (s : S) : Prop where
  blk : BlkR 40 w b (ckC b s.t s.kept s.n)
  ok : s.Ok
section
variable {w w' : World} {b : Nat} {s : S}
theorem CkAt.frame {X : Nat → Prop} (h : CkAt w b s) (hX : Frame X w w') (hb : ¬ X b) : CkAt w' b s := ⟨(hX.block b h.blk.lt hb).trans h.blk, h.ok⟩
theorem CkAt.step (h : CkAt w b s) (hb : Below w.heap.size w w') : CkAt w' b s := ⟨h.blk.below hb h.blk.lt, h.ok⟩
theorem ck_cells {t : T3} {kept : Bool} {n : Nat} (r : BlkR 40 w b (ckC b t kept n)) : w.cell? ⟨b, 0, none⟩ = some (.pointer (some ⟨b, 0, none⟩)) ∧ w.cell? ⟨b, 1, none⟩ = some (.int .i64 t.a) ∧ w.cell? ⟨b, 2, none⟩ = some (.int .i64 t.b) ∧ w.cell? ⟨b, 3, none⟩ = some (.int .i64 t.c) ∧ w.cell? ⟨b, 4, none⟩ = some (.bool (!kept)) ∧ w.cell? ⟨b, 5, none⟩ = some (.int .i64 (n : Int)) :=
  ⟨r.cell rfl, r.cell rfl, r.cell rfl, r.cell rfl, r.cell rfl, r.cell rfl⟩
set_option maxRecDepth 100000 in
theorem ckTicks_any (h : CkAt w b s) : Calls Try.prog 13 #[.pointer (some ⟨b, 0, none⟩)] w fun e w' => e = .returned (.int .i64 (s.n : Int)) ∧ w = w' := by
  obtain ⟨c0, _, _, _, _, c5⟩ := ck_cells h.blk
  have zm := ckMade_yes b w c0
  clear h
  go_enter Try.func13, Try.ntmps13
  go_wp2_with (go_at_call 19; refine zm.mono ?_; (rintro e w2 ⟨rfl, rfl⟩))
  go_ret
  exact ⟨rfl, rfl⟩
set_option maxRecDepth 100000 in
theorem ckKept_any (h : CkAt w b s) : Calls Try.prog 14 #[.pointer (some ⟨b, 0, none⟩)] w fun e w' => e = .returned (.bool s.kept) ∧ w = w' := by
  obtain ⟨c0, _, _, _, c4, _⟩ := ck_cells h.blk
  have zm := ckMade_yes b w c0
  obtain ⟨k, hk⟩ : ∃ k, k = s.kept := ⟨_, rfl⟩
  rw [← hk] at c4 ⊢
  clear h hk
  cases k
  all_goals
    go_enter Try.func14, Try.ntmps14
    go_wp2_with (go_at_call 19; refine zm.mono ?_; (rintro e w2 ⟨rfl, rfl⟩))
    go_ret
    exact ⟨rfl, rfl⟩
set_option maxRecDepth 100000 in
theorem ckNow_any (h : CkAt w b s) (k : Int) : Calls Try.prog 15 #[.pointer (some ⟨b, 0, none⟩), .int .i64 k] w fun e w' => e = .returned (.int .i64 (s.now k)) ∧ w = w' := by
  obtain ⟨c0, c1, c2, c3, _, _⟩ := ck_cells h.blk
  have zm := ckMade_yes b w c0
  have hc : k < 0 ∨ 3 ≤ k ∨ k = 0 ∨ k = 1 ∨ k = 2 := by omega
  clear h
  rcases hc with hc | hc | rfl | rfl | rfl
  · have e0 : s.now k = 0 := by unfold S.now; rw [if_neg (by omega), if_neg (by omega), if_neg (by omega)]
    rw [e0]
    clear e0
    go_enter Try.func15, Try.ntmps15
    go_wp2_with (go_at_call 19; refine zm.mono ?_; (rintro e w2 ⟨rfl, rfl⟩))
    go_ret
    exact ⟨rfl, rfl⟩
  · have e0 : s.now k = 0 := by unfold S.now; rw [if_neg (by omega), if_neg (by omega), if_neg (by omega)]
    rw [e0]
    have h0 : ¬ k < 0 := by omega
    clear e0
    go_enter Try.func15, Try.ntmps15
    go_wp2_with (go_at_call 19; refine zm.mono ?_; (rintro e w2 ⟨rfl, rfl⟩))
    go_ret
    exact ⟨rfl, rfl⟩
  all_goals
    go_enter Try.func15, Try.ntmps15
    go_wp2_with (go_at_call 19; refine zm.mono ?_; (rintro e w2 ⟨rfl, rfl⟩))
    go_ret
    exact ⟨rfl, rfl⟩
end
end Go.Proofs.Ytfopjilncfndnaa
