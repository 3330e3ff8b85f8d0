/-
  A store into one cell of a block, and into a few of its cells. Conditions: none.
-/
import Derived.Test.YtofecokbpopdnaaBa
namespace Go.Proofs.Ytofecokbpopdnaa
open Go.RowKit

theorem run_storeCell {P : Program} {E : TypeId} {w : World} {q k : Nat} {xs : List Value} (ty : TypeId) (v : Value) (hb : BlkR E w q xs) (hk : k < xs.length) (hi : (P.info? ty).map (·.size) = some 1) (h1 : v.oneCell' = true) : (storeVar ty ⟨q, k, none⟩ v).run P w = .ok () (w.setCell ⟨q, k, none⟩ v) := by
  have hc : v.cells = #[v] := by cases v <;> first | rfl | cases h1
  have hs : (w.cell? ⟨q, k, none⟩).isSome = true := by rw [hb.cell (List.getElem?_eq_getElem hk)]; rfl
  have hf := hb.frozen k
  have e := run_storeCells_cells (P := P) q k [v] 0 w (fun j hj => by
    simp only [List.length_cons, List.length_nil] at hj
    obtain rfl : j = 0 := by omega
    exact hs) (fun j hj => by
    simp only [List.length_cons, List.length_nil] at hj
    obtain rfl : j = 0 := by omega
    exact hf) (fun x hx => by simp at hx; subst hx; exact h1)
  rw [World.setCells, World.setCells, Nat.add_zero] at e
  cases hq : P.info? ty with
  | none => simp [hq] at hi
  | some i =>
    have hs1 : i.size = 1 := by simpa [hq] using hi
    simp [storeVar, sizeOf, typeInfo, hq, hc, hs1, e]
theorem wpList_storeCell {P : Program} {E : TypeId} {w : World} {q k : Nat} {xs : List Value} {ops : Array Oper} {rest : List Oper} {o : Oper} {a : Act} {Q : Exit → Act → World → Prop} (hgd : o.guard = none) (ty : TypeId) (x y : Operand) (ho : o.op = .store ty x y) (v : Value) (hx : a.eval x = .pointer (some ⟨q, k, none⟩)) (hy : a.eval y = v)
    (hb : BlkR E w q xs) (hk : k < xs.length) (hi : (P.info? ty).map (·.size) = some 1) (h1 : v.oneCell' = true)
    (h : ∀ w', BlkR E w' q (xs.set k v) → Below q w w' → w'.heap.size = w.heap.size → (∀ j, j ≠ q → w'.heap[j]? = w.heap[j]?) → wpList P ops Q rest (a.put o.dst undef) w') : wpList P ops Q (o :: rest) a w := by
  refine wpList_plain hgd fun _ hK => ?_
  unfold Oper.wp execOp
  simp only [ho, hx, hy, Instr.storeAt, Instr.sureAddr, Sem.run_bind, Sem.run_pure, Result.andThen_ok, run_storeCell ty v hb hk hi h1]
  exact hK _ _ (h _ (hb.set_ k v) ((Below.refl _ _).setCell (p := ⟨q, k, none⟩) (Nat.le_refl _) v) (by simp [World.setCell]) fun j hj => Below.heap_setCell w ⟨q, k, none⟩ v j hj)
/-- a store of a struct into a block's cells from k on -/
theorem wpList_putRow {P : Program} {T E : TypeId} {z : List Value} {w : World} {g : Nat} {ops : Array Oper} {rest : List Oper} {o : Oper} {a : Act} {Q : Exit → Act → World → Prop} (R : RowTy P T z) (hgd : o.guard = none) (x y : Operand) (ho : o.op = .store T x y) (k : Nat) (xs ys : List Value) (hx : a.eval x = .pointer (some ⟨g, k, none⟩)) (hy : a.eval y = .agg xs.toArray) (hl : xs.length = z.length) (hk : k + xs.length ≤ ys.length)
    (h1 : ∀ v ∈ xs, v.oneCell' = true) (hb : BlkR E w g ys)
    (h : ∀ w', BlkR E w' g (ys.take k ++ xs ++ ys.drop (k + xs.length)) → Below g w w' → w'.heap.size = w.heap.size → (∀ j, j ≠ g → w'.heap[j]? = w.heap[j]?) → wpList P ops Q rest (a.put o.dst undef) w') : wpList P ops Q (o :: rest) a w := by
  refine wpList_store_mid hgd T x y ho g k xs.toArray hx hy (by rw [List.size_toArray]; exact fun j hj => ⟨by rw [hb.cell (List.getElem?_eq_getElem (by omega : k + j < ys.length))]; rfl, hb.frozen (k + j)⟩) (by rw [List.size_toArray, hl]; exact R.size) (all_oneCell_toArray h1) ?_
  rw [List.toList_toArray]
  have hb2 := setCells_at xs w k ys hb hk
  obtain ⟨f1, f2, f3, f4⟩ := setCells_frame xs w g k
  exact h _ hb2 ⟨f1, f2, f3, Nat.le_of_eq f4.symm, fun j hj => setCells_keep xs w g k j (by omega)⟩ f4 fun j hj => setCells_keep xs w g k j hj
end Go.Proofs.Ytofecokbpopdnaa
