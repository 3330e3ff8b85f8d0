/-
  Arrays of 64 bytes as plain variables: made, stored, loaded, told; slices of them. Conditions: none.
-/
import Derived.Test.YtgnfajmjhlnobaaDoorDmArr
import Derived.Test.YtgnfajmjhlnobaaDoorSlotKit
import Derived.Laws.ResultCell
namespace Go.Proofs.YtgnfajmjhlnobaaDoor
open Go.RowKit

set_option maxRecDepth 100000 in
theorem zeroA : ∀ w, (zeroValue 66).run Tryd.prog w = .ok (arr zs) w := by
  intro w
  kernel_rfl
set_option maxRecDepth 100000 in
theorem sizeA : (Tryd.prog.info? 66).map (·.size) = some 64 := by kernel_rfl
theorem underA : Tryd.prog.underlying 66 = some (.array 64 5) := by kernel_rfl
theorem lenA : Tryd.prog.arrayLen 66 = 64 := by kernel_rfl
theorem elemA : Tryd.prog.underlying 66 = some (.array (Tryd.prog.arrayLen 66) (Tryd.prog.elem 66)) := by kernel_rfl
theorem oneA (W : World) : (sizeOf (Tryd.prog.elem 66)).run Tryd.prog W = .ok 1 W := by kernel_rfl
theorem setCells_other : ∀ (vs : List Value) (w : World) (g o k : Nat), k ≠ g → (w.setCells g o vs).heap[k]? = w.heap[k]?
  | [], _, _, _, _, _ => rfl
  | v :: r, w, g, o, k, hk => by rw [World.setCells, setCells_other r _ g (o + 1) k hk]; exact Below.heap_setCell w ⟨g, o, none⟩ v k hk
section
variable {w : World} {ops : Array Oper} {rest : List Oper} {o : Oper} {a : Act} {Q : Exit → Act → World → Prop}
theorem wpList_allocA (hgd : o.guard = none) (ho : o.op = .alloc 66)
    (h : ∀ w', w' = w.alloc (.cells (cellsOfBytes zs).toArray 66) → wpList Tryd.prog ops Q rest (a.put o.dst (.pointer (some ⟨w.heap.size, 0, none⟩))) w') : wpList Tryd.prog ops Q (o :: rest) a w := by
  refine wpList_plain hgd fun K hK => ?_
  have e : (Instr.alloc 66 true (.tuple #[])).run Tryd.prog w = .ok (.pointer (some ⟨w.heap.size, 0, none⟩)) (w.alloc (.cells (cellsOfBytes zs).toArray 66)) := by
    obtain ⟨Z, hZ⟩ : ∃ Z, Z = (cellsOfBytes zs).toArray := ⟨_, rfl⟩
    have hz : (zeroValue 66).run Tryd.prog w = .ok (.agg Z) w := by rw [hZ]; exact zeroA w
    rw [← hZ]
    unfold Instr.alloc
    simp only [Sem.run_bind, hz, Result.andThen_ok, newVar, newRow, Value.cells]
    rfl
  unfold Oper.wp execOp
  simp only [ho, Sem.run_bind, e, Result.andThen_ok]
  exact hK _ _ (h _ rfl)
theorem wpList_loadA (hgd : o.guard = none) (x : Operand) (ho : o.op = .load 66 x) (g : Nat) (l : List UInt8) (hx : a.eval x = .pointer (some ⟨g, 0, none⟩)) (hl : l.length = 64) {E : TypeId} (hr : BlkR E w g (cellsOfBytes l))
    (h : wpList Tryd.prog ops Q rest (a.put o.dst (arr l)) w) : wpList Tryd.prog ops Q (o :: rest) a w :=
  wpList_load_mid hgd 66 x ho g 0 hx (cellsOfBytes l) _ hr.range underA rfl (by rw [cellsOfBytes_length, hl]; exact sizeA) h
/-- a store over a whole block of 64 bytes; the world behind it is a letter -/
theorem wpList_storeA {E : TypeId} (hgd : o.guard = none) (x y : Operand) (ho : o.op = .store 66 x y) (g : Nat) (l l0 : List UInt8) (hx : a.eval x = .pointer (some ⟨g, 0, none⟩)) (hy : a.eval y = arr l) (hl : l.length = 64) (hl0 : l0.length = 64) (hb : BlkR E w g (cellsOfBytes l0))
    (h : ∀ w', BlkR E w' g (cellsOfBytes l) → Below g w w' → w'.heap.size = w.heap.size → (∀ k, k ≠ g → w'.heap[k]? = w.heap[k]?) → wpList Tryd.prog ops Q rest (a.put o.dst undef) w') : wpList Tryd.prog ops Q (o :: rest) a w := by
  refine wpList_store_mid hgd 66 x y ho g 0 (cellsOfBytes l).toArray hx hy (by rw [List.size_toArray, cellsOfBytes_length, hl]; exact hb.there (by rw [cellsOfBytes_length, hl0]; exact Nat.le_refl _)) (by rw [List.size_toArray, cellsOfBytes_length, hl]; exact sizeA) (all_oneCell_toArray (one_bytes l)) ?_
  rw [List.toList_toArray]
  refine h _ (hb.over (by rw [cellsOfBytes_length, cellsOfBytes_length, hl, hl0])) (Below.setCells (Below.refl _ _) (Nat.le_refl _) _ _) (setCells_size _ _ _ _) fun k hk => ?_
  exact setCells_other (cellsOfBytes l) w g 0 k hk
end
theorem loadA {w : World} {g : Nat} {l : List UInt8} {E : TypeId} (hl : l.length = 64) (hr : BlkR E w g (cellsOfBytes l)) : (loadVar 66 ⟨g, 0, none⟩).run Tryd.prog w = .ok (arr l) w :=
  run_loadVar_mid w g 0 66 (cellsOfBytes l) _ hr.range underA rfl (by rw [cellsOfBytes_length, hl]; exact sizeA)
theorem cutA_h (g h : Nat) (hh : h ≤ 64) (W : World) : (Instr.sliceAt 66 (.pointer (some ⟨g, 0, none⟩)) none (some (.int .i64 (h : Int))) none).run Tryd.prog W = .ok (.slice (some ⟨g, 0, none⟩) h 64) W := by
  rw [run_sliceAt_array_h W 66 ⟨g, 0, none⟩ elemA .i64 (h : Int) (by omega) (by rw [lenA]; omega), oneA, lenA]
  simp [Result.andThen, slicedAt, Addr.add]
theorem cutA_all (g : Nat) (W : World) : (Instr.sliceAt 66 (.pointer (some ⟨g, 0, none⟩)) none none none).run Tryd.prog W = .ok (.slice (some ⟨g, 0, none⟩) 64 64) W := by
  rw [run_sliceAt_array_all W 66 ⟨g, 0, none⟩ elemA, oneA, lenA]
  simp [Result.andThen, slicedAt, Addr.add]
theorem cutA_lh (g l h : Nat) (h0 : 0 < l) (h64 : l < 64) (hl : l ≤ h) (hh : h ≤ 64) (W : World) : (Instr.sliceAt 66 (.pointer (some ⟨g, 0, none⟩)) (some (.int .i64 (l : Int))) (some (.int .i64 (h : Int))) none).run Tryd.prog W = .ok (.slice (some ⟨g, l, none⟩) (h - l) (64 - l)) W := by
  rw [run_sliceAt_array_lh W 66 ⟨g, 0, none⟩ elemA .i64 .i64 (l : Int) (h : Int) (by omega) (by omega) (by rw [lenA]; omega), oneA, lenA]
  simp [Result.andThen, slicedAt, Addr.add, show l ≠ 0 by omega, show 64 ≠ l by omega]
theorem cutA_l (g l : Nat) (h0 : 0 < l) (hh : l < 64) (W : World) : (Instr.sliceAt 66 (.pointer (some ⟨g, 0, none⟩)) (some (.int .i64 (l : Int))) none none).run Tryd.prog W = .ok (.slice (some ⟨g, l, none⟩) (64 - l) (64 - l)) W := by
  rw [run_sliceAt_array_l W 66 ⟨g, 0, none⟩ elemA .i64 (l : Int) (by omega) (by rw [lenA]; omega), oneA, lenA]
  simp [Result.andThen, slicedAt, Addr.add, show l ≠ 0 by omega, show 64 ≠ l by omega]
/-- copy(d, s) as an equation: n bytes from place off on of block g, out of the bytes m -/
theorem run_copyB (w : World) (ty E : TypeId) (g off n c : Nat) (A : Option Addr) (l m : List UInt8) (k sc : Nat) (hm : m.length = k) (hk : 0 < k) (hkn : k ≤ n) (hg : BlkR E w g (cellsOfBytes l)) (hr : BytesAt w w.heap.size A m) (hfit : off + k ≤ l.length) :
    ∃ w', (Builtin.copy_ #[22, 22] ty #[.slice (some ⟨g, off, none⟩) n c, .slice A k sc]).run Tryd.prog w = .ok (.int .i64 (k : Int)) w' ∧ BlkR E w' g (cellsOfBytes (splice l off (m.take k))) ∧ Below g w w' ∧ w'.heap.size = w.heap.size := by
  have hlen : (cellsOfBytes m).length = Nat.min k n := by rw [cellsOfBytes_length, hm]; exact (Nat.min_eq_left hkn).symm
  obtain ⟨ad, rfl, _, hc⟩ := hr (by rintro rfl; simp at hm; omega)
  have hrun := run_copy_row (P := Tryd.prog) w 22 22 ty 5 g off n c ad k sc (cellsOfBytes l).toArray E (cellsOfBytes m) Tryd.underlying22 (by kernel_rfl) hg hlen
    (fun j v hv => by
      have hj : j < m.length := by
        have := (List.getElem?_eq_some_iff.1 hv).1
        rwa [cellsOfBytes_length] at this
      rw [cellsOfBytes_get m j hj] at hv
      rw [← Option.some.inj hv]
      exact hc j hj) (by rw [cellsOfBytes_length, List.size_toArray, cellsOfBytes_length]; omega) (oneCell_bytes m)
  rw [cellsOfBytes_length, hm] at hrun
  refine ⟨_, hrun, ?_, ⟨rfl, rfl, rfl, by simp [World.setRow], fun j hj => setRow_other w g j _ (by omega)⟩, by simp [World.setRow]⟩
  have h2 := setRow_heap w g _ ((cellsOfBytes l).toArray.toList.take off ++ cellsOfBytes m ++ (cellsOfBytes l).toArray.toList.drop (off + k)).toArray E _ hg
  unfold BlkR
  rw [h2, List.take_of_length_le (by omega : m.length ≤ k)]
  unfold splice
  rw [hm]
  simp only [cellsOfBytes, List.map_append, List.map_take, List.map_drop, List.append_assoc]
/-- what a function with one result variable in memory tells -/
theorem results_cell_one {fn : Func} {p : Tmp} {ty : TypeId} (h : fn.results = #[.cell p ty]) (tmps : Array Value) (P : Program) (w : World) (a : Addr) (v : Value) (hp : tmps.getD p undef = .pointer (some a)) (hl : (loadVar ty a).run P w = .ok v w) :
    (results fn tmps).run P w = .ok v w := by
  have ha : (asAddr (.pointer (some a))).run P w = .ok a w := rfl
  rw [Array.getD_eq_getD_getElem?] at hp
  simp only [results, h]
  simp [Sem.run_bind, Result.andThen, hp, ha, hl]
end Go.Proofs.YtgnfajmjhlnobaaDoor
