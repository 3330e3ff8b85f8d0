/-
  Arrays of 64 bytes, by value: made, stored, loaded, at the operations. Conditions: none.
-/
import Derived.Test.YtgnfajmjhlnobaaDoorDmSmall
namespace Go.Proofs.YtgnfajmjhlnobaaDoor
open Go.RowKit Go.Maps

abbrev zs : List UInt8 := List.replicate 64 0
set_option maxRecDepth 100000 in
theorem zeroC : ∀ w, (zeroValue 85).run Tryd.prog w = .ok (arr zs) w := by
  intro w
  kernel_rfl
set_option maxRecDepth 100000 in
theorem sizeC : (Tryd.prog.info? 85).map (·.size) = some 64 := by kernel_rfl
theorem underC : Tryd.prog.underlying 85 = some (.array 64 5) := by kernel_rfl
theorem one_bytes (l : List UInt8) : ∀ v ∈ cellsOfBytes l, v.oneCell' = true := by
  intro v hv
  simp only [cellsOfBytes, List.mem_map] at hv
  obtain ⟨x, _, rfl⟩ := hv
  rfl
section
variable {w : World} {ops : Array Oper} {rest : List Oper} {o : Oper} {a : Act} {Q : Exit → Act → World → Prop}
theorem wpList_allocC (hgd : o.guard = none) (ho : o.op = .alloc 85)
    (h : wpList Tryd.prog ops Q rest (a.put o.dst (.pointer (some ⟨w.heap.size, 0, none⟩))) (w.alloc (.cells (cellsOfBytes zs).toArray 85))) : wpList Tryd.prog ops Q (o :: rest) a w := by
  refine wpList_plain hgd fun K hK => ?_
  have e : (Instr.alloc 85 true (.tuple #[])).run Tryd.prog w = .ok (.pointer (some ⟨w.heap.size, 0, none⟩)) (w.alloc (.cells (cellsOfBytes zs).toArray 85)) := by
    obtain ⟨Z, hZ⟩ : ∃ Z, Z = (cellsOfBytes zs).toArray := ⟨_, rfl⟩
    have hz : (zeroValue 85).run Tryd.prog w = .ok (.agg Z) w := by rw [hZ]; exact zeroC w
    rw [← hZ]
    unfold Instr.alloc
    simp only [Sem.run_bind, hz, Result.andThen_ok, newVar, newRow, Value.cells]
    rfl
  unfold Oper.wp execOp
  simp only [ho, Sem.run_bind, e, Result.andThen_ok]
  exact hK _ _ h
theorem wpList_storeC (hgd : o.guard = none) (x y : Operand) (ho : o.op = .store 85 x y) (g k : Nat) (l : List UInt8) (hx : a.eval x = .pointer (some ⟨g, k, none⟩)) (hy : a.eval y = arr l) (hl : l.length = 64) (ht : w.there g k 64)
    (h : wpList Tryd.prog ops Q rest (a.put o.dst undef) (w.setCells g k (cellsOfBytes l))) : wpList Tryd.prog ops Q (o :: rest) a w :=
  wpList_store_mid hgd 85 x y ho g k (cellsOfBytes l).toArray hx hy (by rw [List.size_toArray, cellsOfBytes_length, hl]; exact ht) (by rw [List.size_toArray, cellsOfBytes_length, hl]; exact sizeC) (all_oneCell_toArray (one_bytes l)) (by rw [List.toList_toArray]; exact h)
theorem wpList_loadC (hgd : o.guard = none) (x : Operand) (ho : o.op = .load 85 x) (g k : Nat) (l : List UInt8) (hx : a.eval x = .pointer (some ⟨g, k, none⟩)) (hl : l.length = 64) (hr : w.rangeAt g k (cellsOfBytes l))
    (h : wpList Tryd.prog ops Q rest (a.put o.dst (arr l)) w) : wpList Tryd.prog ops Q (o :: rest) a w :=
  wpList_load_mid hgd 85 x ho g k hx (cellsOfBytes l) _ hr underC rfl (by rw [cellsOfBytes_length, hl]; exact sizeC) h
end
section
variable {w w' : World} {E : TypeId} {g : Nat} {xs ys : List Value}
theorem BlkR.range (h : BlkR E w g xs) : w.rangeAt g 0 xs := fun j v hv => by rw [Nat.zero_add]; exact h.cell hv
theorem BlkR.there (h : BlkR E w g xs) {n : Nat} (hn : n ≤ xs.length) : w.there g 0 n := fun j hj => by
  rw [Nat.zero_add]
  exact ⟨by rw [h.cell (List.getElem?_eq_getElem (by omega : j < xs.length))]; rfl, h.frozen j⟩
theorem setCells_list : ∀ (ys : List Value) (w : World) (o : Nat) (xs : List Value), BlkR E w g xs → o + ys.length ≤ xs.length → BlkR E (w.setCells g o ys) g (xs.take o ++ ys ++ xs.drop (o + ys.length))
  | [], w, o, xs, h, _ => by
    rw [World.setCells, List.append_nil, List.length_nil, Nat.add_zero, List.take_append_drop]
    exact h
  | v :: r, w, o, xs, h, hle => by
    rw [World.setCells]
    rw [List.length_cons] at hle
    have h2 := setCells_list r _ (o + 1) _ (h.set_ o v) (by rw [List.length_set]; omega)
    have e : (xs.set o v).take (o + 1) ++ r ++ (xs.set o v).drop (o + 1 + r.length) = xs.take o ++ (v :: r) ++ xs.drop (o + (v :: r).length) := by
      rw [List.drop_set_of_lt (by omega), List.length_cons, show o + (r.length + 1) = o + 1 + r.length by omega, List.take_add_one, List.take_set_of_le (Nat.le_refl o)]
      simp [show o < xs.length by omega]
    rw [← e]
    exact h2
theorem BlkR.over (h : BlkR E w g xs) (hl : ys.length = xs.length) : BlkR E (w.setCells g 0 ys) g ys := by
  have := setCells_list ys w 0 xs h (by omega)
  rwa [List.take_zero, List.nil_append, Nat.zero_add, hl, List.drop_length, List.append_nil] at this
theorem Below.setCells {B : Nat} {a : World} (h : Below B a w) (hg : B ≤ g) (o : Nat) (vs : List Value) : Below B a (w.setCells g o vs) := by
  induction vs generalizing w o with
  | nil => exact h
  | cons v r ih => rw [World.setCells]; exact ih (h.setCell (p := ⟨g, o, none⟩) hg v) (o + 1)
theorem setCells_size (w : World) (g o : Nat) (vs : List Value) : (w.setCells g o vs).heap.size = w.heap.size := by
  induction vs generalizing w o with
  | nil => rfl
  | cons v r ih => rw [World.setCells, ih]; simp [World.setCell]
end
/-- a store over a whole block of 64 bytes; the world behind it is a letter -/
theorem wpList_storeN {w : World} {ops : Array Oper} {rest : List Oper} {o : Oper} {a : Act} {Q : Exit → Act → World → Prop} {E : TypeId} (hgd : o.guard = none) (x y : Operand) (ho : o.op = .store 85 x y) (g : Nat) (l l0 : List UInt8) (hx : a.eval x = .pointer (some ⟨g, 0, none⟩)) (hy : a.eval y = arr l) (hl : l.length = 64) (hl0 : l0.length = 64) (hb : BlkR E w g (cellsOfBytes l0))
    (h : ∀ w', BlkR E w' g (cellsOfBytes l) → Below g w w' → w'.heap.size = w.heap.size → wpList Tryd.prog ops Q rest (a.put o.dst undef) w') : wpList Tryd.prog ops Q (o :: rest) a w :=
  wpList_storeC hgd x y ho g 0 l hx hy hl (hb.there (by rw [cellsOfBytes_length, hl0]; exact Nat.le_refl _))
    (h _ (hb.over (by rw [cellsOfBytes_length, cellsOfBytes_length, hl, hl0])) (Below.setCells (Below.refl _ _) (Nat.le_refl _) _ _) (setCells_size _ _ _ _))
theorem key_wf (i : Nat) (hi : i < 1024) : (Lit.int .i64 (i : Int)).wf = true := by
  have e1 : IntKind.i64.min = -9223372036854775808 := by decide
  have e2 : IntKind.i64.max = 9223372036854775807 := by decide
  simp only [Lit.wf, e1, e2, Bool.and_eq_true, decide_eq_true_eq]
  omega
theorem keyOf_at (i : Nat) (hi : i < 1024) : keyOf Tryd.prog 3 (.int .i64 (i : Int)) = some (.int .i64 (i : Int)) := keyOf_int_mk Tryd.underlying3 (key_wf i hi)
/-- v, ok := d.loose[i] -/
theorem look_run {w : World} {m nn : Nat} {D : DU} {L : Nat → Option (List UInt8)} (hm : w.ownsMap Tryd.prog 3 elemR m nn D) (hL : LooseD D L) (i : Nat) (hi : i < 1024) :
    (Instr.lookup 35 (.map (some m)) (.int .i64 (i : Int)) true).run Tryd.prog w = .ok (.tuple #[arr ((L i).getD zs), .bool (L i).isSome]) w := by
  obtain ⟨v, ps, hrun, hv⟩ := hm.look_ok (int_keyed Tryd.underlying3) Tryd.underlying35 (zeroC w) (elemR_mk (by simp)) (keyOf_at i hi)
  rw [hrun, hL.has]
  cases h : L i with
  | none =>
    have h0 : Maps.has D (.int .i64 (i : Int)) = false := by rw [hL.has]; simp [h]
    rw [Maps.atKey_of_not_has h0] at hv
    rw [(elemR_at hv).1]
    simp [h]
  | some l =>
    rw [hL.at_ i l h] at hv
    rw [(elemR_at hv).1]
    simp [h]
/-- d.loose[i] -/
theorem look_run1 {w : World} {m nn : Nat} {D : DU} {L : Nat → Option (List UInt8)} (hm : w.ownsMap Tryd.prog 3 elemR m nn D) (hL : LooseD D L) (i : Nat) (hi : i < 1024) :
    (Instr.lookup 35 (.map (some m)) (.int .i64 (i : Int)) false).run Tryd.prog w = .ok (arr ((L i).getD zs)) w := by
  obtain ⟨v, ps, hrun, hv⟩ := hm.lookup (int_keyed Tryd.underlying3) Tryd.underlying35 (zeroC w) (elemR_mk (by simp)) (keyOf_at i hi)
  rw [hrun]
  cases h : L i with
  | none =>
    have h0 : Maps.has D (.int .i64 (i : Int)) = false := by rw [hL.has]; simp [h]
    rw [Maps.atKey_of_not_has h0] at hv
    rw [(elemR_at hv).1]
    simp
  | some l =>
    rw [hL.at_ i l h] at hv
    rw [(elemR_at hv).1]
    simp
end Go.Proofs.YtgnfajmjhlnobaaDoor
