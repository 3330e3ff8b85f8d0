/-
  bytes.Clone. Conditions: at most 1000 bytes, that can be read.
-/
import Derived.Test.YtfopjilncfndnaaDoorWhole
namespace Go.Proofs.YtfopjilncfndnaaDoor
open Go.RowKit

set_option maxRecDepth 100000 in
theorem clone_any (l : List UInt8) (ad : Addr) (n c : Nat) (hn : l.length = n) (h100 : n ≤ 1000) (w : World) (hr : BytesAt w w.heap.size (some ad) l) : Calls Tryd.prog 35 #[.slice (some ad) n c] w (ClonePost l n w) := by
  rcases Nat.eq_zero_or_pos n with h0 | h0
  · subst h0
    obtain rfl : l = [] := List.eq_nil_of_length_eq_zero hn
    have hp : ∀ b w', Below w.heap.size w w' → ClonePost [] 0 w (.returned (.slice b 0 0)) w' := fun b w' hB => ⟨b, 0, rfl, by decide, Whole.none_, hB⟩
    replace hp := Lib.hid hp
    have q : ∀ W b, (Builtin.append_ #[39, 39] 39 #[.slice (some b) 0 0, .slice (some ad) 0 c]).run Tryd.prog W = .ok (.slice (some b) 0 0) W := fun W b => by
      obtain ⟨i, h1, h2, h3, h4⟩ := infoU8
      simp [Builtin.append_, run_underlying Tryd.underlying39, sizeOf, typeInfo, h1, Builtin.lenOf, Builtin.firstCells, loadCells, loadCellsFrom, storeCells]
    have qn := some_eql ad
    go_enter Tryd.func35, Tryd.ntmps35
    go_wp2
    go_ret
    exact hp.out _ _ (emptyB w)
  · have B1 := emptyB w
    obtain ⟨c', w', hrun, hc, hW, hB⟩ := run_clone (w.alloc (.cells #[] 5)) 39 l ad n c hn h0 h100 ⟨w.heap.size, 0, none⟩ (hr.step B1)
    have hp : ClonePost l n w (.returned (.slice (some ⟨w.heap.size + 1, 0, none⟩) n c')) w' := ⟨some ⟨w.heap.size + 1, 0, none⟩, c', rfl, hc, by have := hW.less B1.size; simpa using this, step_trans B1 hB⟩
    replace hp := Lib.hid hp
    rw [show (w.alloc (.cells #[] 5)).heap.size = w.heap.size + 1 by simp] at hrun
    clear hr B1 hc hW hB
    replace hrun := Lib.hid hrun
    have qn := some_eql ad
    go_enter Tryd.func35, Tryd.ntmps35
    go_wp2_with (at_builtin; refine wpList_append_runR rfl (.tmp 5) (.tmp 6) 39 rfl rfl rfl hrun.out ?_)
    go_ret
    exact hp.out
set_option maxRecDepth 100000 in
theorem clone_none (n c : Nat) (w : World) : Calls Tryd.prog 35 #[.slice none n c] w fun e w' => e = .returned (.slice none 0 0) ∧ w = w' := by
  have qn : ∀ w, (binOp .eql 39 (.slice none n c) (.slice none 0 0)).run Tryd.prog w = .ok (.bool true) w := fun w => by kernel_rfl
  go_enter Tryd.func35, Tryd.ntmps35
  go_wp2
  go_ret
  exact ⟨rfl, rfl⟩
theorem cloneZ (A : Option Addr) (l : List UInt8) (n c : Nat) (hn : l.length = n) (h100 : n ≤ 1000) (w : World) (hr : BytesAt w w.heap.size A l) : Calls Tryd.prog 35 #[.slice A n c] w (ClonePost l n w) := by
  cases A with
  | none =>
    have : l = [] := Classical.byContradiction fun h => by obtain ⟨ad, e, _⟩ := hr h; cases e
    subst this
    refine (clone_none n c w).mono fun e w' ⟨he, hw⟩ => ?_
    subst hw
    obtain rfl : n = 0 := by simpa using hn.symm
    exact ⟨none, 0, he, by decide, Whole.none_, Below.refl _ _⟩
  | some ad => exact clone_any l ad n c hn h100 w hr
end Go.Proofs.YtfopjilncfndnaaDoor
