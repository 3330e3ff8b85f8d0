/-
  The walk of MetaOrders. Conditions: none.
-/
import Derived.Test.YtebicjblplkdeaaMetaAwake
namespace Go.Proofs.Ytebicjblplkdeaa
open Go.RowKit Fix

/-- three records in new variables -/
def recW (w : World) (a0 a1 a2 b0 b1 b2 c0 c1 c2 : Int) : World := ((w.alloc (.cells #[.int .i64 a0, .int .i64 a1, .int .i64 a2] 23)).alloc (.cells #[.int .i64 b0, .int .i64 b1, .int .i64 b2] 23)).alloc (.cells #[.int .i64 c0, .int .i64 c1, .int .i64 c2] 23)
def RecIn (w' : World) (h : Nat) (a0 a1 a2 b0 b1 b2 c0 c1 c2 : Int) : Prop :=
  (w'.cell? ⟨h, 0, none⟩ = some (.int .i64 a0) ∧ w'.cell? ⟨h, 1, none⟩ = some (.int .i64 a1) ∧ w'.cell? ⟨h, 2, none⟩ = some (.int .i64 a2)) ∧
  (w'.cell? ⟨h + 1, 0, none⟩ = some (.int .i64 b0) ∧ w'.cell? ⟨h + 1, 1, none⟩ = some (.int .i64 b1) ∧ w'.cell? ⟨h + 1, 2, none⟩ = some (.int .i64 b2)) ∧
  (w'.cell? ⟨h + 2, 0, none⟩ = some (.int .i64 c0) ∧ w'.cell? ⟨h + 2, 1, none⟩ = some (.int .i64 c1) ∧ w'.cell? ⟨h + 2, 2, none⟩ = some (.int .i64 c2))
theorem recIn (w : World) (a0 a1 a2 b0 b1 b2 c0 c1 c2 : Int) (w' : World) (hb : Below (recW w a0 a1 a2 b0 b1 b2 c0 c1 c2).heap.size (recW w a0 a1 a2 b0 b1 b2 c0 c1 c2) w') : RecIn w' w.heap.size a0 a1 a2 b0 b1 b2 c0 c1 c2 := by
  unfold recW at hb
  have s2 : ((w.alloc (.cells #[.int .i64 a0, .int .i64 a1, .int .i64 a2] 23)).alloc (.cells #[.int .i64 b0, .int .i64 b1, .int .i64 b2] 23)).heap.size = w.heap.size + 2 := by simp
  have s1 : (w.alloc (.cells #[.int .i64 a0, .int .i64 a1, .int .i64 a2] 23)).heap.size = w.heap.size + 1 := by simp
  have ba := BlkR.go (BlkR.go (BlkR.go (BlkR.new w [.int .i64 a0, .int .i64 a1, .int .i64 a2] 23) ((Below.refl _ _).alloc (Nat.le_refl _) (.cells #[.int .i64 b0, .int .i64 b1, .int .i64 b2] 23))) ((Below.refl _ _).alloc (Nat.le_refl _) (.cells #[.int .i64 c0, .int .i64 c1, .int .i64 c2] 23))) hb
  have bb := BlkR.go (BlkR.go (BlkR.new (w.alloc (.cells #[.int .i64 a0, .int .i64 a1, .int .i64 a2] 23)) [.int .i64 b0, .int .i64 b1, .int .i64 b2] 23) ((Below.refl _ _).alloc (Nat.le_refl _) (.cells #[.int .i64 c0, .int .i64 c1, .int .i64 c2] 23))) hb
  have bc := BlkR.go (BlkR.new ((w.alloc (.cells #[.int .i64 a0, .int .i64 a1, .int .i64 a2] 23)).alloc (.cells #[.int .i64 b0, .int .i64 b1, .int .i64 b2] 23)) [.int .i64 c0, .int .i64 c1, .int .i64 c2] 23) hb
  rw [s1] at bb
  rw [s2] at bc
  exact ⟨⟨ba.cell rfl, ba.cell rfl, ba.cell rfl⟩, ⟨bb.cell rfl, bb.cell rfl, bb.cell rfl⟩, ⟨bc.cell rfl, bc.cell rfl, bc.cell rfl⟩⟩
theorem recW_below (w : World) (a0 a1 a2 b0 b1 b2 c0 c1 c2 : Int) : Below w.heap.size w (recW w a0 a1 a2 b0 b1 b2 c0 c1 c2) := (((Below.refl _ _).alloc (Nat.le_refl _) _).alloc (by simp) _).alloc (by simp; omega) _
theorem newB_self (a b : Int) : newB a b a b = false := by simp [newB]
theorem newB_one (a0 a1 b0 b1 : Int) : (newB a0 a1 b0 b1 || newB b0 b1 a0 a1) = !((a0 == b0) && (a1 == b1)) := by
  rw [Bool.eq_iff_iff]; simp [newB]; omega
theorem newB_two (a0 a1 b0 b1 : Int) : (newB a0 a1 b0 b1 && newB b0 b1 a0 a1) = false := by
  rw [← Bool.not_eq_true]; simp [newB]; omega
theorem newB_three {a0 a1 b0 b1 c0 c1 : Int} (h : newB a0 a1 b0 b1 = true) (h2 : newB b0 b1 c0 c1 = true) : newB a0 a1 c0 c1 = true := by
  simp [newB] at *; omega
set_option maxHeartbeats 2000000 in
theorem orders_core (a0 a1 a2 b0 b1 b2 c0 c1 c2 : Int) (w : World) (x0 x1 p q r s : Bool) (d0 : (a0 == b0) = x0) (d1 : (a1 == b1) = x1) (h1 : (p || q) = !(x0 && x1)) (h2 : (p && q) = false) (h3 : p = true → r = true → s = true)
    (zab : ∀ w, Calls Try.prog 14 #[.agg #[.int .i64 a0, .int .i64 a1, .int .i64 a2], .agg #[.int .i64 b0, .int .i64 b1, .int .i64 b2]] w fun e w' => e = .returned (.bool p) ∧ Below w.heap.size w w')
    (zba : ∀ w, Calls Try.prog 14 #[.agg #[.int .i64 b0, .int .i64 b1, .int .i64 b2], .agg #[.int .i64 a0, .int .i64 a1, .int .i64 a2]] w fun e w' => e = .returned (.bool q) ∧ Below w.heap.size w w')
    (zbc : ∀ w, Calls Try.prog 14 #[.agg #[.int .i64 b0, .int .i64 b1, .int .i64 b2], .agg #[.int .i64 c0, .int .i64 c1, .int .i64 c2]] w fun e w' => e = .returned (.bool r) ∧ Below w.heap.size w w')
    (zac : ∀ w, Calls Try.prog 14 #[.agg #[.int .i64 a0, .int .i64 a1, .int .i64 a2], .agg #[.int .i64 c0, .int .i64 c1, .int .i64 c2]] w fun e w' => e = .returned (.bool s) ∧ Below w.heap.size w w') :
    Calls Try.prog 5 #[.agg #[.int .i64 a0, .int .i64 a1, .int .i64 a2], .agg #[.int .i64 b0, .int .i64 b1, .int .i64 b2], .agg #[.int .i64 c0, .int .i64 c1, .int .i64 c2]] w fun e w' => e = .returned (.bool true) ∧ Below w.heap.size w w' := by
  have zw := fun w => awake_any w
  have zaa := fun w => newer_any a0 a1 a2 a0 a1 a2 w
  rw [newB_self] at zaa
  have K := Lib.hid (recIn w a0 a1 a2 b0 b1 b2 c0 c1 c2)
  have B := Below.refl (recW w a0 a1 a2 b0 b1 b2 c0 c1 c2).heap.size (recW w a0 a1 a2 b0 b1 b2 c0 c1 c2)
  have BW := Lib.hid (recW_below w a0 a1 a2 b0 b1 b2 c0 c1 c2)
  unfold RecIn at K
  unfold recW at K B BW
  cases p with
  | false =>
    cases x0 <;> cases x1 <;> cases q <;> try (simp at h1; done)
    all_goals
      clear h1 h2 h3
      go_enter Try.func5, Try.ntmps5
      go_wp2_with (first
        | (go_at_call 20; refine (zw _).mono ?_; (rintro e w1 ⟨rfl, B1⟩; have B := step_trans B B1; obtain ⟨⟨a00, a01, a02⟩, ⟨b00, b01, b02⟩, c00, c01, c02⟩ := K.out w1 B))
        | (go_at_call 14; first
          | ((with_reducible refine (zaa _).mono ?_); (rintro e w1 ⟨rfl, B1⟩; have B := step_trans B B1; obtain ⟨⟨a00, a01, a02⟩, ⟨b00, b01, b02⟩, c00, c01, c02⟩ := K.out w1 B))
          | ((with_reducible refine (zab _).mono ?_); (rintro e w1 ⟨rfl, B1⟩; have B := step_trans B B1; obtain ⟨⟨a00, a01, a02⟩, ⟨b00, b01, b02⟩, c00, c01, c02⟩ := K.out w1 B))
          | ((with_reducible refine (zba _).mono ?_); (rintro e w1 ⟨rfl, B1⟩; have B := step_trans B B1; obtain ⟨⟨a00, a01, a02⟩, ⟨b00, b01, b02⟩, c00, c01, c02⟩ := K.out w1 B))
          | ((with_reducible refine (zbc _).mono ?_); (rintro e w1 ⟨rfl, B1⟩; have B := step_trans B B1; obtain ⟨⟨a00, a01, a02⟩, ⟨b00, b01, b02⟩, c00, c01, c02⟩ := K.out w1 B))
          | ((with_reducible refine (zac _).mono ?_); (rintro e w1 ⟨rfl, B1⟩; have B := step_trans B B1; obtain ⟨⟨a00, a01, a02⟩, ⟨b00, b01, b02⟩, c00, c01, c02⟩ := K.out w1 B))))
      go_ret
      exact ⟨rfl, BW.out.trans (B.mono BW.out.size)⟩
  | true =>
    obtain rfl : q = false := by simpa using h2
    cases x0 <;> cases x1 <;> try (simp at h1; done)
    all_goals cases r
    all_goals try (obtain rfl := h3 rfl rfl)
    all_goals
      clear h1 h2 h3
      go_enter Try.func5, Try.ntmps5
      go_wp2_with (first
        | (go_at_call 20; refine (zw _).mono ?_; (rintro e w1 ⟨rfl, B1⟩; have B := step_trans B B1; obtain ⟨⟨a00, a01, a02⟩, ⟨b00, b01, b02⟩, c00, c01, c02⟩ := K.out w1 B))
        | (go_at_call 14; first
          | ((with_reducible refine (zaa _).mono ?_); (rintro e w1 ⟨rfl, B1⟩; have B := step_trans B B1; obtain ⟨⟨a00, a01, a02⟩, ⟨b00, b01, b02⟩, c00, c01, c02⟩ := K.out w1 B))
          | ((with_reducible refine (zab _).mono ?_); (rintro e w1 ⟨rfl, B1⟩; have B := step_trans B B1; obtain ⟨⟨a00, a01, a02⟩, ⟨b00, b01, b02⟩, c00, c01, c02⟩ := K.out w1 B))
          | ((with_reducible refine (zba _).mono ?_); (rintro e w1 ⟨rfl, B1⟩; have B := step_trans B B1; obtain ⟨⟨a00, a01, a02⟩, ⟨b00, b01, b02⟩, c00, c01, c02⟩ := K.out w1 B))
          | ((with_reducible refine (zbc _).mono ?_); (rintro e w1 ⟨rfl, B1⟩; have B := step_trans B B1; obtain ⟨⟨a00, a01, a02⟩, ⟨b00, b01, b02⟩, c00, c01, c02⟩ := K.out w1 B))
          | ((with_reducible refine (zac _).mono ?_); (rintro e w1 ⟨rfl, B1⟩; have B := step_trans B B1; obtain ⟨⟨a00, a01, a02⟩, ⟨b00, b01, b02⟩, c00, c01, c02⟩ := K.out w1 B))))
      go_ret
      exact ⟨rfl, BW.out.trans (B.mono BW.out.size)⟩
theorem orders_any (a0 a1 a2 b0 b1 b2 c0 c1 c2 : Int) (w : World) : Calls Try.prog 5 #[.agg #[.int .i64 a0, .int .i64 a1, .int .i64 a2], .agg #[.int .i64 b0, .int .i64 b1, .int .i64 b2], .agg #[.int .i64 c0, .int .i64 c1, .int .i64 c2]] w fun e w' => e = .returned (.bool true) ∧ Below w.heap.size w w' :=
  orders_core a0 a1 a2 b0 b1 b2 c0 c1 c2 w _ _ _ _ _ _ rfl rfl (newB_one a0 a1 b0 b1) (newB_two a0 a1 b0 b1) newB_three (fun w => newer_any a0 a1 a2 b0 b1 b2 w) (fun w => newer_any b0 b1 b2 a0 a1 a2 w) (fun w => newer_any b0 b1 b2 c0 c1 c2 w) (fun w => newer_any a0 a1 a2 c0 c1 c2 w)
end Go.Proofs.Ytebicjblplkdeaa
