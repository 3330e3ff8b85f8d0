/-
  Variables of a struct's or an array's type, of any cells: made, loaded whole, stored whole, told. Conditions: none.
-/
import Derived.Test.YtebicjblplkdeaaRow
import Derived.Deep.MidRow
import Derived.Laws.ResultCell
namespace Go.Proofs.Ytebicjblplkdeaa
open Go.RowKit

/-- a type whose variables are the cells z when they are new -/
structure RowTy (P : Program) (T : TypeId) (z : List Value) : Prop where
  zero : ∀ w, (zeroValue T).run P w = .ok (.agg z.toArray) w
  size : (P.info? T).map (·.size) = some z.length
  under : ∃ d, P.underlying T = some d ∧ d.isRow = true
section
variable {P : Program} {T E : TypeId} {z xs ys : List Value} {w w' : World} {g : Nat} {ops : Array Oper} {rest : List Oper} {o : Oper} {a : Act} {Q : Exit → Act → World → Prop}
theorem rangeOf (h : BlkR E w g xs) : w.rangeAt g 0 xs := fun j v hv => by rw [Nat.zero_add]; exact h.cell hv
theorem rangeMid (h : BlkR E w g xs) {k n : Nat} {ys : List Value} (e : (xs.drop k).take n = ys) : w.rangeAt g k ys := fun j v hv => by
  subst e
  rw [List.getElem?_take] at hv
  split at hv
  · rw [List.getElem?_drop] at hv; exact h.cell hv
  · cases hv
theorem thereOf (h : BlkR E w g xs) {n : Nat} (hn : n ≤ xs.length) : w.there g 0 n := fun j hj => by
  rw [Nat.zero_add]
  exact ⟨by rw [h.cell (List.getElem?_eq_getElem (by omega : j < xs.length))]; rfl, h.frozen j⟩
theorem setCells_at : ∀ (ys : List Value) (w : World) (o : Nat) (xs : List Value), BlkR E w g xs → o + ys.length ≤ xs.length → BlkR E (w.setCells g o ys) g (xs.take o ++ ys ++ xs.drop (o + ys.length))
  | [], w, o, xs, h, _ => by
    rw [World.setCells, List.append_nil, List.length_nil, Nat.add_zero, List.take_append_drop]
    exact h
  | v :: r, w, o, xs, h, hle => by
    rw [World.setCells]
    rw [List.length_cons] at hle
    have h2 := setCells_at r _ (o + 1) _ (h.set_ o v) (by rw [List.length_set]; omega)
    have e : (xs.set o v).take (o + 1) ++ r ++ (xs.set o v).drop (o + 1 + r.length) = xs.take o ++ (v :: r) ++ xs.drop (o + (v :: r).length) := by
      rw [List.drop_set_of_lt (by omega), List.length_cons, show o + (r.length + 1) = o + 1 + r.length by omega, List.take_add_one, List.take_set_of_le (Nat.le_refl o)]
      simp [show o < xs.length by omega]
    rw [← e]
    exact h2
theorem setCells_keep : ∀ (vs : List Value) (w : World) (g o k : Nat), k ≠ g → (w.setCells g o vs).heap[k]? = w.heap[k]?
  | [], _, _, _, _, _ => rfl
  | v :: r, w, g, o, k, hk => by rw [World.setCells, setCells_keep r _ g (o + 1) k hk]; exact Below.heap_setCell w ⟨g, o, none⟩ v k hk
theorem setCells_frame : ∀ (vs : List Value) (w : World) (g o : Nat), (w.setCells g o vs).os = w.os ∧ (w.setCells g o vs).tape = w.tape ∧ (w.setCells g o vs).output = w.output ∧ (w.setCells g o vs).heap.size = w.heap.size
  | [], _, _, _ => ⟨rfl, rfl, rfl, rfl⟩
  | v :: r, w, g, o => by
    rw [World.setCells]
    obtain ⟨h1, h2, h3, h4⟩ := setCells_frame r (w.setCell ⟨g, o, none⟩ v) g (o + 1)
    exact ⟨h1, h2, h3, by rw [h4]; simp [World.setCell]⟩
theorem atWorld {l : List Oper} (w : World) (h : wpList P ops Q l a w) : wpList P ops Q l a w := h
theorem wpList_allocRow (R : RowTy P T z) (hgd : o.guard = none) (ho : o.op = .alloc T)
    (h : ∀ w', BlkR T w' w.heap.size z → Below w.heap.size w w' → w'.heap.size = w.heap.size + 1 → wpList P ops Q rest (a.put o.dst (.pointer (some ⟨w.heap.size, 0, none⟩))) w') : wpList P ops Q (o :: rest) a w := by
  refine wpList_plain hgd fun K hK => ?_
  have e : (Instr.alloc T true (.tuple #[])).run P w = .ok (.pointer (some ⟨w.heap.size, 0, none⟩)) (w.alloc (.cells z.toArray T)) := by
    obtain ⟨Z, hZ⟩ : ∃ Z, Z = z.toArray := ⟨_, rfl⟩
    have hz : (zeroValue T).run P w = .ok (.agg Z) w := by rw [hZ]; exact R.zero w
    rw [← hZ]
    unfold Instr.alloc
    simp only [Sem.run_bind, hz, Result.andThen_ok, newVar, newRow, Value.cells]
    rfl
  unfold Oper.wp execOp
  simp only [ho, Sem.run_bind, e, Result.andThen_ok]
  exact hK _ _ (h _ (BlkR.new w _ _) ((Below.refl _ _).alloc (Nat.le_refl _) _) (by simp))
theorem loadRow (R : RowTy P T z) (hl : xs.length = z.length) (hr : BlkR E w g xs) : (loadVar T ⟨g, 0, none⟩).run P w = .ok (.agg xs.toArray) w := by
  obtain ⟨d, hu, hd⟩ := R.under
  exact run_loadVar_mid w g 0 T xs d (rangeOf hr) hu hd (by rw [hl]; exact R.size)
theorem wpList_loadRow (R : RowTy P T z) (hgd : o.guard = none) (x : Operand) (ho : o.op = .load T x) (g k : Nat) (xs : List Value) (hx : a.eval x = .pointer (some ⟨g, k, none⟩)) (hl : xs.length = z.length) (hr : w.rangeAt g k xs)
    (h : wpList P ops Q rest (a.put o.dst (.agg xs.toArray)) w) : wpList P ops Q (o :: rest) a w := by
  obtain ⟨d, hu, hd⟩ := R.under
  exact wpList_load_mid hgd T x ho g k hx xs d hr hu hd (by rw [hl]; exact R.size) h
theorem storeRow (R : RowTy P T z) {xs xs0 : List Value} (hl : xs.length = z.length) (hl0 : xs0.length = z.length) (h1 : ∀ v ∈ xs, v.oneCell' = true) (hb : BlkR E w g xs0) :
    ∃ w', (Instr.storeAt T (.pointer (some ⟨g, 0, none⟩)) (.agg xs.toArray)).run P w = .ok () w' ∧ BlkR E w' g xs ∧ Below g w w' ∧ w'.heap.size = w.heap.size ∧ (∀ k, k ≠ g → w'.heap[k]? = w.heap[k]?) := by
  have hb2 := setCells_at xs w 0 xs0 hb (by omega)
  rw [List.take_zero, List.nil_append, Nat.zero_add, hl, ← hl0, List.drop_length, List.append_nil] at hb2
  obtain ⟨f1, f2, f3, f4⟩ := setCells_frame xs w g 0
  have h := run_storeAt_mid (P := P) w g 0 T xs.toArray (by rw [List.size_toArray, hl]; exact thereOf hb (by omega)) (by rw [List.size_toArray, hl]; exact R.size) (all_oneCell_toArray h1)
  rw [List.toList_toArray] at h
  exact ⟨_, h, hb2, ⟨f1, f2, f3, Nat.le_of_eq f4.symm, fun k hk => setCells_keep xs w g 0 k (by omega)⟩, f4, fun k hk => setCells_keep xs w g 0 k hk⟩
/-- a store over a whole block; the world behind it is a letter -/
theorem wpList_storeRow (R : RowTy P T z) (hgd : o.guard = none) (x y : Operand) (ho : o.op = .store T x y) (g : Nat) (xs xs0 : List Value) (hx : a.eval x = .pointer (some ⟨g, 0, none⟩)) (hy : a.eval y = .agg xs.toArray) (hl : xs.length = z.length) (hl0 : xs0.length = z.length)
    (h1 : ∀ v ∈ xs, v.oneCell' = true) (hb : BlkR E w g xs0)
    (h : ∀ w', BlkR E w' g xs → Below g w w' → w'.heap.size = w.heap.size → (∀ k, k ≠ g → w'.heap[k]? = w.heap[k]?) → wpList P ops Q rest (a.put o.dst undef) w') : wpList P ops Q (o :: rest) a w := by
  refine wpList_store_mid hgd T x y ho g 0 xs.toArray hx hy (by rw [List.size_toArray, hl]; exact thereOf hb (by omega)) (by rw [List.size_toArray, hl]; exact R.size) (all_oneCell_toArray h1) ?_
  rw [List.toList_toArray]
  have hb2 := setCells_at xs w 0 xs0 hb (by omega)
  rw [List.take_zero, List.nil_append, Nat.zero_add, hl, ← hl0, List.drop_length, List.append_nil] at hb2
  obtain ⟨f1, f2, f3, f4⟩ := setCells_frame xs w g 0
  exact h _ hb2 ⟨f1, f2, f3, Nat.le_of_eq f4.symm, fun k hk => setCells_keep xs w g 0 k (by omega)⟩ f4 fun k hk => setCells_keep xs w g 0 k hk
/-- what a function with one result variable in memory tells -/
theorem results_cell1 {fn : Func} {p : Tmp} {ty : TypeId} (h : fn.results = #[.cell p ty]) (tmps : Array Value) (P : Program) (w : World) (a : Addr) (v : Value) (hp : tmps.getD p undef = .pointer (some a)) (hl : (loadVar ty a).run P w = .ok v w) :
    (results fn tmps).run P w = .ok v w := by
  have ha : (asAddr (.pointer (some a))).run P w = .ok a w := rfl
  rw [Array.getD_eq_getD_getElem?] at hp
  simp only [results, h]
  simp [Sem.run_bind, Result.andThen, hp, ha, hl]
/-- and with a plain one behind it -/
theorem results_cell2 {fn : Func} {p u : Tmp} {ty : TypeId} (h : fn.results = #[.cell p ty, .tmp u]) (tmps : Array Value) (P : Program) (w : World) (a : Addr) (v x : Value) (hp : tmps.getD p undef = .pointer (some a)) (hu : tmps.getD u undef = x) (hl : (loadVar ty a).run P w = .ok v w) :
    (results fn tmps).run P w = .ok (.tuple #[v, x]) w := by
  have ha : (asAddr (.pointer (some a))).run P w = .ok a w := rfl
  rw [results_cell_tmp h, hp, hu, ha, Result.andThen_ok, hl, Result.andThen_ok]
end
end Go.Proofs.Ytebicjblplkdeaa
