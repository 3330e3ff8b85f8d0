/-
  Variables of a struct's or an array's type, in a region whose order is drawn: made, loaded whole, stored whole. Conditions: none.
-/
import Derived.Test.YtfopjilncfndnaaBa
namespace Go.Proofs.Ytfopjilncfndnaa
open Go.RowKit

section
variable {P : Program} {T E : TypeId} {z xs ys : List Value} {w w' : World} {ops : Array Oper} {o : Oper} {a : Act} {K : Act → World → Prop} {Q : Exit → Act → World → Prop} {X : Prop}
theorem step_allocRow (R : RowTy P T z) (hgd : o.guard = none) (ho : o.op = .alloc T)
    (h : ∀ w', BlkR T w' w.heap.size z → Below w.heap.size w w' → w'.heap.size = w.heap.size + 1 → K (a.put o.dst (.pointer (some ⟨w.heap.size, 0, none⟩))) w') : if Region.wanted o (yielded ops a.tmps) = true then Oper.wp P o a w K Q else X := by
  have hw : Region.wanted o (yielded ops a.tmps) = true := by simp [Region.wanted, hgd]
  rw [if_pos hw]
  have e : (Instr.alloc T true (.tuple #[])).run P w = .ok (.pointer (some ⟨w.heap.size, 0, none⟩)) (w.alloc (.cells z.toArray T)) := by
    obtain ⟨Z, hZ⟩ : ∃ Z, Z = z.toArray := ⟨_, rfl⟩
    have hz : (zeroValue T).run P w = .ok (.agg Z) w := by rw [hZ]; exact R.zero w
    rw [← hZ]
    unfold Instr.alloc
    simp only [Sem.run_bind, hz, Result.andThen_ok, newVar, newRow, Value.cells]
    rfl
  unfold Oper.wp execOp
  simp only [ho, Sem.run_bind, e, Result.andThen_ok]
  exact h _ (BlkR.new w _ _) ((Below.refl _ _).alloc (Nat.le_refl _) _) (by simp)
theorem step_storeRow (R : RowTy P T z) (hgd : o.guard = none) (x y : Operand) (ho : o.op = .store T x y) (g : Nat) (xs xs0 : List Value) (hx : a.eval x = .pointer (some ⟨g, 0, none⟩)) (hy : a.eval y = .agg xs.toArray) (hl : xs.length = z.length) (hl0 : xs0.length = z.length)
    (h1 : ∀ v ∈ xs, v.oneCell' = true) (hb : BlkR E w g xs0)
    (h : ∀ w', BlkR E w' g xs → Below g w w' → w'.heap.size = w.heap.size → (∀ k, k ≠ g → w'.heap[k]? = w.heap[k]?) → K (a.put o.dst undef) w') : if Region.wanted o (yielded ops a.tmps) = true then Oper.wp P o a w K Q else X := by
  have hw : Region.wanted o (yielded ops a.tmps) = true := by simp [Region.wanted, hgd]
  rw [if_pos hw]
  refine wp_store_mid T x y ho g 0 xs.toArray hx hy (by rw [List.size_toArray, hl]; exact thereOf hb (by omega)) (by rw [List.size_toArray, hl]; exact R.size) (all_oneCell_toArray h1) ?_
  rw [List.toList_toArray]
  have hb2 := setCells_at xs w 0 xs0 hb (by omega)
  rw [List.take_zero, List.nil_append, Nat.zero_add, hl, ← hl0, List.drop_length, List.append_nil] at hb2
  obtain ⟨f1, f2, f3, f4⟩ := setCells_frame xs w g 0
  exact h _ hb2 ⟨f1, f2, f3, Nat.le_of_eq f4.symm, fun k hk => setCells_keep xs w g 0 k (by omega)⟩ f4 fun k hk => setCells_keep xs w g 0 k hk
theorem step_loadRow (R : RowTy P T z) (hgd : o.guard = none) (x : Operand) (ho : o.op = .load T x) (g k : Nat) (xs : List Value) (hx : a.eval x = .pointer (some ⟨g, k, none⟩)) (hl : xs.length = z.length) (hr : w.rangeAt g k xs)
    (h : K (a.put o.dst (.agg xs.toArray)) w) : if Region.wanted o (yielded ops a.tmps) = true then Oper.wp P o a w K Q else X := by
  have hw : Region.wanted o (yielded ops a.tmps) = true := by simp [Region.wanted, hgd]
  rw [if_pos hw]
  obtain ⟨d, hu, hd⟩ := R.under
  exact wp_load_mid T x ho g k hx xs d hr hu hd (by rw [hl]; exact R.size) h
end
end Go.Proofs.Ytfopjilncfndnaa
