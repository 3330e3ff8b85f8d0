/-
  The program's own disk: whether it was made, whether a sector is there, a change more, Fuse, Up, Sectors, Ops. Conditions: none.
-/
import Derived.Test.YtgnfajmjhlnobaaDoorDmMem
import Derived.LaidEqlPtr
namespace Go.Proofs.YtgnfajmjhlnobaaDoor
open Go.RowKit Go.Maps

set_option maxRecDepth 100000 in
theorem made_yes (w : World) (b : Nat) (h0 : w.cell? ⟨b, 0, none⟩ = some (.pointer (some ⟨b, 0, none⟩))) : Calls Tryd.prog 46 #[.pointer (some ⟨b, 0, none⟩)] w fun e w' => e = .returned (.bool true) ∧ w = w' := by
  have he : ∀ w, (binOp .eql 33 (.pointer (some ⟨b, 0, none⟩)) (.pointer (some ⟨b, 0, none⟩))).run Tryd.prog w = .ok (.bool true) w := fun w => by
    obtain ⟨j, hj⟩ : ∃ j, Tryd.prog.info? 42 = some j := Option.isSome_iff_exists.1 (by kernel_rfl)
    exact run_eql_ptr_same w _ (tp := 33) (te := 42) (by kernel_rfl) hj
  go_enter Tryd.func46, Tryd.ntmps46
  go_wp2
  go_ret
  exact ⟨rfl, rfl⟩
theorem dHas (w : World) (b g c n : Nat) (i : Int) (x1 : w.cell? ⟨b, 1, none⟩ = some (.slice (some ⟨g, 0, none⟩) n c)) : Calls Tryd.prog 48 #[.pointer (some ⟨b, 0, none⟩), .int .i64 i] w fun e w' => e = .returned (.bool (decide (0 ≤ i) && decide (i < (n : Int)))) ∧ w = w' := by
  by_cases h1 : 0 ≤ i
  · go_enter Tryd.func48, Tryd.ntmps48
    go_wp2
    go_ret
    exact ⟨by simp [h1], rfl⟩
  · go_enter Tryd.func48, Tryd.ntmps48
    go_wp2
    go_ret
    exact ⟨by simp; omega, rfl⟩
theorem atomAdd (w : World) (b : Nat) (x s : Int) (x3 : w.cell? ⟨b, 3, none⟩ = some (.int .i64 x)) (f3 : w.frozen? ⟨b, 3, none⟩ = false) (hs : IntKind.i64.wrap (x + 1) = s) :
    Calls Tryd.prog 71 #[.pointer (some ⟨b, 3, none⟩), .int .i64 1] w fun e w' => e = .returned (.int .i64 s) ∧ w' = w.setCell ⟨b, 3, none⟩ (.int .i64 s) := by
  have hc := run_call_add (P := Tryd.prog) (f := 75) (fn := Tryd.f75) (by kernel_rfl) (by kernel_rfl) (by kernel_rfl) (by kernel_rfl) .i64 (by kernel_rfl) (a := ⟨b, 3, none⟩) (x := x) (y := 1) (s := s) x3 f3 (by simp [Op.intArith, hs])
  go_enter Tryd.func71, Tryd.ntmps71
  go_wp2
  go_ret
  exact ⟨rfl, rfl⟩
/-- what a method answers that turns the disk -/
def DPost (r : Int) (S : DS) (b : Nat) (F : Nat → Prop) (w : World) (e : Ending) (w' : World) : Prop :=
  ∃ F', e = .returned (.int .i64 r) ∧ DiskAt w' b F' S ∧ (∀ k, F' k → F k ∨ w.heap.size ≤ k) ∧ Frame F w w'

theorem dFuse (w : World) (b : Nat) (F : Nat → Prop) (S : DS) (n : Int) (h : DiskAt w b F S) (hn : -9223372036854775808 ≤ n) (hn2 : n ≤ 9223372036854775807) :
    Calls Tryd.prog 23 #[.pointer (some ⟨b, 0, none⟩), .int .i64 n] w (DPost (S.fuse n).2 (S.fuse n).1 b F w) := by
  have hM := h
  obtain ⟨g, c, m, nn, D, h⟩ := h
  have zm := made_yes w b h.cell0
  have x5 := h.cell5
  have f4 := h.head.frozen 4
  have x4 := h.cell4
  have HH := Lib.hid h
  replace hM := Lib.hid hM
  clear h
  cases ho : S.out with
  | true =>
    rw [show S.fuse n = (S, 10) by simp [DS.fuse, ho]]
    rw [ho] at x5
    go_enter Tryd.func23, Tryd.ntmps23
    go_wp2_with (go_at_call 46; refine zm.mono ?_; (rintro e w2 ⟨rfl, rfl⟩))
    go_ret
    exact ⟨F, rfl, hM.out, fun k hk => .inl hk, Frame.refl _ _⟩
  | false =>
    rw [ho] at x5
    by_cases h1 : n < 0
    · rw [show S.fuse n = (S, 2) by simp [DS.fuse, ho, h1]]
      go_enter Tryd.func23, Tryd.ntmps23
      go_wp2_with (go_at_call 46; refine zm.mono ?_; (rintro e w2 ⟨rfl, rfl⟩))
      go_ret
      exact ⟨F, rfl, hM.out, fun k hk => .inl hk, Frame.refl _ _⟩
    · rw [show S.fuse n = ({ S with left := some n.toNat }, 0) by simp [DS.fuse, ho, h1]]
      clear ho
      go_enter Tryd.func23, Tryd.ntmps23
      go_wp2_with (go_at_call 46; refine zm.mono ?_; (rintro e w2 ⟨rfl, rfl⟩))
      go_ret
      refine ⟨F, rfl, ⟨g, c, m, nn, D, HH.out.head_set (T := { S with left := some n.toNat }) 4 (.int .i64 n) ⟨rfl, rfl, rfl, Nat.le_refl _⟩ (fun k hk => ?_) ?_⟩, fun k hk => .inl hk, frameSet w b 4 _ HH.out.Fb⟩
      · have := Option.some.inj hk; omega
      · simp [DS.fuseI]; omega
theorem dSectors (w : World) (b : Nat) (F : Nat → Prop) (S : DS) (h : DiskAt w b F S) : Calls Tryd.prog 44 #[.pointer (some ⟨b, 0, none⟩)] w fun e w' => e = .returned (.int .i64 (S.n : Int)) ∧ Below w.heap.size w w' := by
  obtain ⟨g, c, m, nn, D, h⟩ := h
  have zm := made_yes w b h.cell0
  have x1 := h.cell1
  obtain ⟨o, ho⟩ : ∃ o, o = S.n := ⟨_, rfl⟩
  rw [← ho] at x1 ⊢
  clear h ho
  go_enter Tryd.func44, Tryd.ntmps44
  go_wp2_with (go_at_call 46; refine zm.mono ?_; (rintro e w2 ⟨rfl, rfl⟩))
  go_ret
  exact ⟨rfl, Below.refl _ _⟩
/-- a change more, if one is allowed -/
theorem dChange (w : World) (b : Nat) (F : Nat → Prop) (S : DS) (g c m nn : Nat) (D : DU) (h : DskL w b F S g c m nn D) (ho : S.ops ≤ 1000000) :
    Calls Tryd.prog 68 #[.pointer (some ⟨b, 0, none⟩)] w fun e w' => e = .returned (.bool S.chg.isSome) ∧ DskL w' b F (S.chg.getD { S with out := true }) g c m nn D ∧ Frame (fun k => k = b) w w' := by
  have x3 := h.cell3
  have x4 := h.cell4
  have x5 := h.cell5
  have f3 := h.head.frozen 3
  have f4 := h.head.frozen 4
  have f5 := h.head.frozen 5
  have hl := h.left
  have HH := Lib.hid h
  unfold DS.chg
  clear h
  have e4 : IntKind.i64.wrap ((S.ops : Int) + 1) = (S.ops : Int) + 1 := IntWalk.i64_in _ (by omega)
  match hS : S.left with
  | none =>
    rw [show S.fuseI = -1 by simp [DS.fuseI, hS]] at x4
    have za := atomAdd w b _ _ x3 f3 e4
    go_enter Tryd.func68, Tryd.ntmps68
    go_wp2_with (go_at_call 71; refine za.mono ?_; (rintro e w2 ⟨rfl, rfl⟩))
    go_ret
    refine ⟨rfl, HH.out.head_set (T := { S with left := none, ops := S.ops + 1 }) 3 _ ⟨rfl, rfl, rfl, Nat.le_succ _⟩ (fun k hk => by cases hk) ?_, frameSet w b 3 _ rfl⟩
    simp [DS.fuseI, hS]
  | some 0 =>
    rw [show S.fuseI = 0 by simp [DS.fuseI, hS]] at x4
    go_enter Tryd.func68, Tryd.ntmps68
    go_wp2
    go_ret
    rw [← hS]
    exact ⟨rfl, HH.out.head_set (T := { S with out := true }) 5 (.bool true) ⟨rfl, rfl, rfl, Nat.le_refl _⟩ (fun k hk => hl k hk) (by simp [DS.fuseI]), frameSet w b 5 _ rfl⟩
  | some (k + 1) =>
    have hk := hl _ hS
    rw [show S.fuseI = (k : Int) + 1 by simp [DS.fuseI, hS]] at x4
    have e3 : IntKind.i64.wrap ((k : Int) + 1 - 1) = (k : Int) := by rw [IntWalk.i64_in _ (by omega)]; omega
    have x3' : (w.setCell ⟨b, 4, none⟩ (.int .i64 (k : Int))).cell? ⟨b, 3, none⟩ = some (.int .i64 (S.ops : Int)) := by rw [World.cell?_setCell_other _ _ _ _ (by simp)]; exact x3
    have za := atomAdd (w.setCell ⟨b, 4, none⟩ (.int .i64 (k : Int))) b _ _ x3' (by rw [World.frozen?_setCell]; exact f3) e4
    go_enter Tryd.func68, Tryd.ntmps68
    go_wp2_with (go_at_call 71; refine za.mono ?_; (rintro e w2 ⟨rfl, rfl⟩))
    go_ret
    have h1 := HH.out.head_set (T := { S with left := some k }) 4 (.int .i64 (k : Int)) ⟨rfl, rfl, rfl, Nat.le_refl _⟩ (fun j hj => by have := Option.some.inj hj; omega) (by simp [DS.fuseI])
    have h2 := h1.head_set (T := { S with left := some k, ops := S.ops + 1 }) 3 (.int .i64 ((S.ops : Int) + 1)) ⟨rfl, rfl, rfl, Nat.le_succ _⟩ (fun j hj => by have := Option.some.inj hj; omega) (by simp [DS.fuseI])
    refine ⟨rfl, ?_, ?_⟩
    · exact h2
    · exact Frame.trans (F := fun k => k = b) (G := fun k => k = b) (frameSet w b 4 _ rfl) (frameSet _ b 3 _ rfl) (fun k hk => .inl hk)
end Go.Proofs.YtgnfajmjhlnobaaDoor
