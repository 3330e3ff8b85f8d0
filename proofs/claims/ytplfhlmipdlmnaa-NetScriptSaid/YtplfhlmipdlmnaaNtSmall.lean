/-
  A net's small calls: isNode, isLink, isMade, isFull, fault, New, Count, Lost, IsCut. Conditions: the net was made, where it says so.
-/
import Derived.Test.YtplfhlmipdlmnaaNtMem
namespace Go.Proofs.Ytplfhlmipdlmnaa
open Go.RowKit Nt

def node (i : Int) : Bool := decide (0 ≤ i) && decide (i < 3)
theorem link_node (i j : Int) : link i j = (node i && node j && decide (i ≠ j)) := by
  unfold link node
  cases decide (0 ≤ i) <;> cases decide (i < 3) <;> cases decide (0 ≤ j) <;> cases decide (j < 3) <;> rfl
set_option maxRecDepth 100000 in
theorem isNode_any (i : Int) (w : World) : Calls Try.prog 47 #[.int .i64 i] w fun e w' => e = .returned (.bool (node i)) ∧ w = w' := by
  unfold node
  by_cases h0 : 0 ≤ i
  · by_cases h3 : i < 3
    · rw [decide_eq_true h0, decide_eq_true h3]
      go_enter Try.func47, Try.ntmps47
      go_wp2
      go_ret
      exact ⟨rfl, rfl⟩
    · rw [decide_eq_true h0, decide_eq_false h3]
      go_enter Try.func47, Try.ntmps47
      go_wp2
      go_ret
      exact ⟨rfl, rfl⟩
  · rw [decide_eq_false h0]
    go_enter Try.func47, Try.ntmps47
    go_wp2
    go_ret
    exact ⟨rfl, rfl⟩
set_option maxRecDepth 100000 in
theorem isLink_any (i j : Int) (w : World) : Calls Try.prog 37 #[.int .i64 i, .int .i64 j] w fun e w' => e = .returned (.bool (link i j)) ∧ w = w' := by
  have z1 := fun w => isNode_any i w
  have z2 := fun w => isNode_any j w
  rw [link_node]
  cases hi : node i with
  | false =>
    rw [hi] at z1
    simp only [Bool.false_and]
    go_enter Try.func37, Try.ntmps37
    go_wp2_with (go_at_call 47; first | ((with_reducible refine (z1 _).mono ?_); (rintro e w2 ⟨rfl, rfl⟩)))
    go_ret
    exact ⟨rfl, rfl⟩
  | true =>
    rw [hi] at z1
    cases hj : node j with
    | false =>
      rw [hj] at z2
      simp only [Bool.and_false, Bool.false_and]
      go_enter Try.func37, Try.ntmps37
      go_wp2_with (go_at_call 47; first | ((with_reducible refine (z1 _).mono ?_); (rintro e w2 ⟨rfl, rfl⟩)) | ((with_reducible refine (z2 _).mono ?_); (rintro e w2 ⟨rfl, rfl⟩)))
      go_ret
      exact ⟨rfl, rfl⟩
    | true =>
      rw [hj] at z2
      simp only [Bool.true_and]
      by_cases hne : i = j
      · have hb : (i != j) = false := by simp [hne]
        rw [show decide (i ≠ j) = false by simp [hne]]
        clear hi hj hne
        go_enter Try.func37, Try.ntmps37
        go_wp2_with (go_at_call 47; first | ((with_reducible refine (z1 _).mono ?_); (rintro e w2 ⟨rfl, rfl⟩)) | ((with_reducible refine (z2 _).mono ?_); (rintro e w2 ⟨rfl, rfl⟩)))
        go_ret
        exact ⟨rfl, rfl⟩
      · have hb : (i != j) = true := by simp [hne]
        rw [show decide (i ≠ j) = true by simp [hne]]
        clear hi hj
        go_enter Try.func37, Try.ntmps37
        go_wp2_with (go_at_call 47; first | ((with_reducible refine (z1 _).mono ?_); (rintro e w2 ⟨rfl, rfl⟩)) | ((with_reducible refine (z2 _).mono ?_); (rintro e w2 ⟨rfl, rfl⟩)))
        go_ret
        exact ⟨rfl, rfl⟩
set_option maxRecDepth 100000 in
theorem ntMade_yes (b : Nat) (w : World) (h : w.cell? ⟨b, 0, none⟩ = some (.pointer (some ⟨b, 0, none⟩))) : Calls Try.prog 36 #[.pointer (some ⟨b, 0, none⟩)] w fun e w' => e = .returned (.bool true) ∧ w = w' := by
  have he : ∀ w, (binOp .eql 23 (.pointer (some ⟨b, 0, none⟩)) (.pointer (some ⟨b, 0, none⟩))).run Try.prog w = .ok (.bool true) w := fun w => by
    obtain ⟨j, hj⟩ : ∃ j, Try.prog.info? 45 = some j := Option.isSome_iff_exists.1 (by kernel_rfl)
    exact run_eql_ptr_same w _ (tp := 23) (te := 45) (by kernel_rfl) hj
  go_enter Try.func36, Try.ntmps36
  go_wp2
  go_ret
  exact ⟨rfl, rfl⟩
set_option maxRecDepth 100000 in
theorem ntMade_nil (w : World) : Calls Try.prog 36 #[.pointer none] w fun e w' => e = .returned (.bool false) ∧ w = w' := by
  go_enter Try.func36, Try.ntmps36
  go_wp2
  go_ret
  exact ⟨rfl, rfl⟩
set_option maxRecDepth 100000 in
theorem ntMade_no (b : Nat) (w : World) (h : w.cell? ⟨b, 0, none⟩ = some (.pointer none)) : Calls Try.prog 36 #[.pointer (some ⟨b, 0, none⟩)] w fun e w' => e = .returned (.bool false) ∧ w = w' := by
  have he : ∀ w, (binOp .eql 23 (.pointer none) (.pointer (some ⟨b, 0, none⟩))).run Try.prog w = .ok (.bool false) w := fun w => by kernel_rfl
  go_enter Try.func36, Try.ntmps36
  go_wp2
  go_ret
  exact ⟨rfl, rfl⟩
/-- the row of a net that was made -/
theorem way_form {F : Nat → Prop} {w : World} {v : Value} {ms : List PkM} (h : WayAt F w v ms) : ∃ A c, v = .slice A ms.length c ∧ ms.length ≤ c ∧ c ≤ maxLen := by
  obtain ⟨A, c, h1, h2, h3, _⟩ := h.own.form
  exact ⟨A, c, h1, h2, h3⟩
section
variable {w : World} {b : Nat} {F : Nat → Prop} {s : N}
/-- what the calls that only read want -/
theorem NetAt.cells (h : NetAt w b F s) : w.cell? ⟨b, 0, none⟩ = some (.pointer (some ⟨b, 0, none⟩)) ∧ (∃ A c, w.cell? ⟨b, 10, none⟩ = some (.slice A s.way.length c) ∧ s.way.length ≤ c) ∧ w.cell? ⟨b, 11, none⟩ = some (.int .i64 (s.lost : Int)) ∧ ∀ k, k < 9 → w.cell? ⟨b, 1 + k, none⟩ = some (.bool (s.down k)) := by
  obtain ⟨v, ms, h1, h2, h3⟩ := h.mem
  obtain ⟨c0, c1, c2, c3⟩ := net_cells h1
  obtain ⟨A, c, rfl, hc, _⟩ := way_form h2
  have hl : ms.length = s.way.length := by rw [← h3, List.length_map]
  rw [hl] at c1 hc
  exact ⟨c0, ⟨A, c, c1, hc⟩, c2, c3⟩
set_option maxRecDepth 100000 in
theorem count_any (h : NetAt w b F s) : Calls Try.prog 12 #[.pointer (some ⟨b, 0, none⟩)] w fun e w' => e = .returned (.int .i64 (s.way.length : Int)) ∧ w = w' := by
  obtain ⟨c0, ⟨A, c, c1, _⟩, _, _⟩ := h.cells
  have zm := ntMade_yes b w c0
  obtain ⟨n, hn⟩ : ∃ n, n = s.way.length := ⟨_, rfl⟩
  rw [← hn] at c1 ⊢
  clear h hn
  go_enter Try.func12, Try.ntmps12
  go_wp2_with (go_at_call 36; refine zm.mono ?_; (rintro e w2 ⟨rfl, rfl⟩))
  go_ret
  exact ⟨rfl, rfl⟩
set_option maxRecDepth 100000 in
theorem lost_any (h : NetAt w b F s) : Calls Try.prog 13 #[.pointer (some ⟨b, 0, none⟩)] w fun e w' => e = .returned (.int .i64 (s.lost : Int)) ∧ w = w' := by
  obtain ⟨c0, _, c2, _⟩ := h.cells
  have zm := ntMade_yes b w c0
  clear h
  go_enter Try.func13, Try.ntmps13
  go_wp2_with (go_at_call 36; refine zm.mono ?_; (rintro e w2 ⟨rfl, rfl⟩))
  go_ret
  exact ⟨rfl, rfl⟩
set_option maxRecDepth 100000 in
theorem isFull_any (h : NetAt w b F s) : Calls Try.prog 39 #[.pointer (some ⟨b, 0, none⟩)] w fun e w' => e = .returned (.bool s.full) ∧ w = w' := by
  obtain ⟨_, ⟨A, c, c1, _⟩, _, _⟩ := h.cells
  have hf : ((s.way.length : Int) == 4096) = s.full := by
    unfold N.full
    by_cases e : s.way.length = 4096
    · rw [decide_eq_true e, e]; rfl
    · rw [decide_eq_false e]; simp; omega
  obtain ⟨n, hn⟩ : ∃ n, n = s.way.length := ⟨_, rfl⟩
  obtain ⟨x, hx⟩ : ∃ x, x = s.full := ⟨_, rfl⟩
  rw [← hn] at c1 hf
  rw [← hx] at hf ⊢
  clear h hn hx
  go_enter Try.func39, Try.ntmps39
  go_wp2
  go_ret
  exact ⟨rfl, rfl⟩
set_option maxRecDepth 100000 in
theorem fault_any (h : NetAt w b F s) (i : Int) : Calls Try.prog 42 #[.pointer (some ⟨b, 0, none⟩), .int .i64 i] w fun e w' => e = .returned (.int .i64 (if s.has i = true then 0 else 5)) ∧ w = w' := by
  obtain ⟨c0, ⟨A, c, c1, _⟩, _, _⟩ := h.cells
  have zm := ntMade_yes b w c0
  unfold N.has
  obtain ⟨n, hn⟩ : ∃ n, n = s.way.length := ⟨_, rfl⟩
  rw [← hn] at c1 ⊢
  clear h hn
  by_cases h0 : i < 0
  · rw [if_neg (by simp; omega)]
    go_enter Try.func42, Try.ntmps42
    go_wp2_with (go_at_call 36; refine zm.mono ?_; (rintro e w2 ⟨rfl, rfl⟩))
    go_ret
    exact ⟨rfl, rfl⟩
  · by_cases h1 : i < n
    · rw [if_pos (by simp; omega)]
      have g1 : ¬ ((n : Int) ≤ i) := by omega
      go_enter Try.func42, Try.ntmps42
      go_wp2_with (go_at_call 36; refine zm.mono ?_; (rintro e w2 ⟨rfl, rfl⟩))
      go_ret
      exact ⟨rfl, rfl⟩
    · rw [if_neg (by simp; omega)]
      have g1 : (n : Int) ≤ i := by omega
      go_enter Try.func42, Try.ntmps42
      go_wp2_with (go_at_call 36; refine zm.mono ?_; (rintro e w2 ⟨rfl, rfl⟩))
      go_ret
      exact ⟨rfl, rfl⟩
def N.isCut (s : N) (i j : Int) : Bool := link i j && s.down (at_ i j)
set_option maxRecDepth 100000 in
theorem isCut_any (h : NetAt w b F s) (i j : Int) : Calls Try.prog 14 #[.pointer (some ⟨b, 0, none⟩), .int .i64 i, .int .i64 j] w fun e w' => e = .returned (.bool (N.isCut s i j)) ∧ w = w' := by
  obtain ⟨c0, _, _, c3⟩ := h.cells
  have zm := ntMade_yes b w c0
  have zl := isLink_any i j w
  unfold N.isCut
  cases hl : link i j with
  | false =>
    rw [hl] at zl
    simp only [Bool.false_and]
    clear h hl c3
    go_enter Try.func14, Try.ntmps14
    go_wp2_with (first
      | (go_at_call 36; refine zm.mono ?_; (rintro e w2 ⟨rfl, rfl⟩))
      | (go_at_call 37; refine zl.mono ?_; (rintro e w2 ⟨rfl, rfl⟩)))
    go_ret
    exact ⟨rfl, rfl⟩
  | true =>
    rw [hl] at zl
    simp only [Bool.true_and]
    obtain ⟨a1, a2, a3, a4, _⟩ := link_iff.1 hl
    obtain ⟨p, rfl⟩ := Int.eq_ofNat_of_zero_le a1
    obtain ⟨q, rfl⟩ := Int.eq_ofNat_of_zero_le a3
    have hp : p < 3 := by omega
    have hq : q < 3 := by omega
    have x := c3 (at_ p q) (by unfold at_; simp; omega)
    obtain ⟨y, hy⟩ : ∃ y, y = s.down (at_ p q) := ⟨_, rfl⟩
    rw [← hy] at x ⊢
    rw [show 1 + at_ (p : Int) (q : Int) = 1 + p * 3 + q by unfold at_; simp; omega] at x
    clear h hl c3 hy a1 a2 a3 a4
    go_enter Try.func14, Try.ntmps14
    go_wp2_with (first
      | (go_at_call 36; refine zm.mono ?_; (rintro e w2 ⟨rfl, rfl⟩))
      | (go_at_call 37; refine zl.mono ?_; (rintro e w2 ⟨rfl, rfl⟩)))
    go_ret
    exact ⟨rfl, rfl⟩
end
set_option maxRecDepth 100000 in
set_option maxHeartbeats 1000000 in
theorem ntNew_any (w : World) : Calls Try.prog 9 #[] w fun e w' => e = .returned (.pointer (some ⟨w.heap.size, 0, none⟩)) ∧ NetAt w' w.heap.size (fun _ => False) Nt.new ∧ Below w.heap.size w w' := by
  go_enter Try.func9, Try.ntmps9
  go_wp2
  go_ret
  refine ⟨rfl, ⟨⟨.slice none 0 0, [], ?_, ⟨OwnK.nil_, (fun j e => by cases e), (fun m h => by cases h)⟩, rfl⟩, fun e => e, fun j e => e.elim, new_ok⟩, ?_⟩
  · exact heap_alloc_new w _
  · exact step_alloc (Below.refl _ w) _
end Go.Proofs.Ytplfhlmipdlmnaa
