/-
  tandemkit.SameMsg: what it returns. Conditions: the bytes can be read.
-/
import Derived.Test.YtfiijnpabmocdaaMgBare
import Derived.Test.YtfiijnpabmocdaaBa
namespace Go.Proofs.Ytfiijnpabmocdaa
open Go.RowKit Mg

/-- are two messages the same -/
def sameM (m n : M) : Bool :=
  (m.kind == n.kind) && (m.src == n.src) && (m.term == n.term) && (m.seq == n.seq) && (m.stamp == n.stamp) && (m.block == n.block) && (m.ok == n.ok) && (m.rt == n.rt && (m.rn == n.rn && m.rs == n.rs)) && ((m.bits : Int) == (n.bits : Int)) && (m.data == n.data)
theorem sameM_iff (m n : M) : sameM m n = true ↔ m = n := by
  unfold sameM
  simp only [Bool.and_eq_true, beq_iff_eq]
  constructor
  · rintro ⟨⟨⟨⟨⟨⟨⟨⟨⟨h0, h1⟩, h2⟩, h3⟩, h4⟩, h5⟩, h6⟩, h7, h8, h9⟩, h10⟩, h11⟩
    cases m; cases n
    simp only at h0 h1 h2 h3 h4 h5 h6 h7 h8 h9 h10 h11
    simp only [M.mk.injEq]
    refine ⟨h0, h1, h2, h3, h4, h5, h6, h7, h8, h9, ?_, h11⟩
    omega
  · rintro rfl
    exact ⟨⟨⟨⟨⟨⟨⟨⟨⟨rfl, rfl⟩, rfl⟩, rfl⟩, rfl⟩, rfl⟩, rfl⟩, rfl, rfl, rfl⟩, rfl⟩, rfl⟩
theorem eqRec2 (a b c x y z : Int) (w : World) : (Op.equalIn 10000 23 (.agg #[.int .i64 a, .int .i64 b, .int .i64 c]) (.agg #[.int .i64 x, .int .i64 y, .int .i64 z])).run Try.prog w = .ok (a == x && (b == y && c == z)) w := by
  obtain ⟨q, hq⟩ : ∃ q, q = (a == x && (b == y && c == z)) := ⟨_, rfl⟩
  have HQ := Lib.hid hq
  rw [← hq]
  clear hq
  go_simp
  rw [HQ.out]
  by_cases h1 : a = x <;> by_cases h2 : b = y <;> by_cases h3 : c = z <;> simp [h1, h2, h3]
set_option maxRecDepth 100000 in
set_option maxHeartbeats 2000000 in
theorem sameMsg_any (m n : M) (A : Option Addr) (c : Nat) (A' : Option Addr) (c' : Nat) (w : World) (hr : BytesAt w w.heap.size A m.data) (hr' : BytesAt w w.heap.size A' n.data) :
    Calls Try.prog 16 #[.agg (mCells m (.slice A m.data.length c)).toArray, .agg (mCells n (.slice A' n.data.length c')).toArray] w fun e w' => e = .returned (.bool (sameM m n)) ∧ Below w.heap.size w w' := by
  have hB : Below w.heap.size w ((w.alloc (.cells (mCells m (.slice A m.data.length c)).toArray 27)).alloc (.cells (mCells n (.slice A' n.data.length c')).toArray 27)) := step_alloc (step_alloc (Below.refl _ _) _) _
  have zb := sameBytes_any A m.data m.data.length c rfl A' n.data n.data.length c' rfl _ _ (hr.step hB) (hr'.step hB)
  have E := fun w => eqRec2 m.rt m.rn m.rs n.rt n.rn n.rs w
  obtain ⟨b0, h0⟩ : ∃ x, x = (m.kind == n.kind) := ⟨_, rfl⟩
  obtain ⟨b1, h1⟩ : ∃ x, x = (m.src == n.src) := ⟨_, rfl⟩
  obtain ⟨b2, h2⟩ : ∃ x, x = (m.term == n.term) := ⟨_, rfl⟩
  obtain ⟨b3, h3⟩ : ∃ x, x = (m.seq == n.seq) := ⟨_, rfl⟩
  obtain ⟨b4, h4⟩ : ∃ x, x = (m.stamp == n.stamp) := ⟨_, rfl⟩
  obtain ⟨b5, h5⟩ : ∃ x, x = (m.block == n.block) := ⟨_, rfl⟩
  obtain ⟨b6, h6⟩ : ∃ x, x = (m.ok == n.ok) := ⟨_, rfl⟩
  obtain ⟨b7, h7⟩ : ∃ x, x = (m.rt == n.rt && (m.rn == n.rn && m.rs == n.rs)) := ⟨_, rfl⟩
  obtain ⟨b8, h8⟩ : ∃ x, x = ((m.bits : Int) == (n.bits : Int)) := ⟨_, rfl⟩
  obtain ⟨b9, h9⟩ : ∃ x, x = (m.data == n.data) := ⟨_, rfl⟩
  have hs : sameM m n = (b0 && b1 && b2 && b3 && b4 && b5 && b6 && b7 && b8 && b9) := by rw [h0, h1, h2, h3, h4, h5, h6, h7, h8, h9]; rfl
  rw [hs]
  rw [← h7] at E
  rw [← h9] at zb
  have HB := Lib.hid hB
  unfold mCells at zb HB ⊢
  replace h0 := h0.symm
  replace h1 := h1.symm
  replace h2 := h2.symm
  replace h3 := h3.symm
  replace h4 := h4.symm
  replace h5 := h5.symm
  replace h6 := h6.symm
  replace h8 := h8.symm
  clear hs h7 h9 hB hr hr'
  have key : ∀ b0 b1 b2 b3 b4 b5 b6 b7 b8 : Bool, b0 = false ∨ (b0 = true ∧ b1 = false) ∨ (b0 = true ∧ b1 = true ∧ b2 = false) ∨ (b0 = true ∧ b1 = true ∧ b2 = true ∧ b3 = false) ∨ (b0 = true ∧ b1 = true ∧ b2 = true ∧ b3 = true ∧ b4 = false) ∨
      (b0 = true ∧ b1 = true ∧ b2 = true ∧ b3 = true ∧ b4 = true ∧ b5 = false) ∨ (b0 = true ∧ b1 = true ∧ b2 = true ∧ b3 = true ∧ b4 = true ∧ b5 = true ∧ b6 = false) ∨ (b0 = true ∧ b1 = true ∧ b2 = true ∧ b3 = true ∧ b4 = true ∧ b5 = true ∧ b6 = true ∧ b7 = false) ∨
      (b0 = true ∧ b1 = true ∧ b2 = true ∧ b3 = true ∧ b4 = true ∧ b5 = true ∧ b6 = true ∧ b7 = true ∧ b8 = false) ∨ (b0 = true ∧ b1 = true ∧ b2 = true ∧ b3 = true ∧ b4 = true ∧ b5 = true ∧ b6 = true ∧ b7 = true ∧ b8 = true) := by
    intro b0 b1 b2 b3 b4 b5 b6 b7 b8
    cases b0; simp; cases b1; simp; cases b2; simp; cases b3; simp; cases b4; simp; cases b5; simp; cases b6; simp; cases b7; simp; cases b8 <;> simp
  rcases key b0 b1 b2 b3 b4 b5 b6 b7 b8 with rfl | ⟨rfl, rfl⟩ | ⟨rfl, rfl, rfl⟩ | ⟨rfl, rfl, rfl, rfl⟩ | ⟨rfl, rfl, rfl, rfl, rfl⟩ | ⟨rfl, rfl, rfl, rfl, rfl, rfl⟩ | ⟨rfl, rfl, rfl, rfl, rfl, rfl, rfl⟩ | ⟨rfl, rfl, rfl, rfl, rfl, rfl, rfl, rfl⟩ | ⟨rfl, rfl, rfl, rfl, rfl, rfl, rfl, rfl, rfl⟩ | ⟨rfl, rfl, rfl, rfl, rfl, rfl, rfl, rfl, rfl⟩
  all_goals
    clear key
    go_enter Try.func16, Try.ntmps16
    go_wp2_with (go_at_call 10; (with_reducible refine zb.mono ?_); (rintro e w3 ⟨rfl, rfl⟩))
    go_ret
    exact ⟨by simp, HB.out⟩
end Go.Proofs.Ytfiijnpabmocdaa
