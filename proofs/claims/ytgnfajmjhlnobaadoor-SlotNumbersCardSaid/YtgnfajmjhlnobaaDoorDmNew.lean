/-
  The program's own disk: New. Conditions: none.
-/
import Derived.Test.YtgnfajmjhlnobaaDoorDmArr
import Derived.Laws.MakeOwn
namespace Go.Proofs.YtgnfajmjhlnobaaDoor
open Go.RowKit Go.Maps

set_option maxRecDepth 100000 in
theorem infoC : ∃ i, Tryd.prog.info? 85 = some i ∧ i.zero = some (arr zs) ∧ i.size = 64 ∧ i.bytes = 64 := by
  obtain ⟨i, hi⟩ : ∃ i, Tryd.prog.info? 85 = some i := Option.isSome_iff_exists.1 (by kernel_rfl)
  have h1 : (Tryd.prog.info? 85).map (fun i => (i.size, i.bytes)) = some (64, 64) := by kernel_rfl
  have h2 : (Tryd.prog.info? 85).bind (fun i => i.zero) = some (arr zs) := by kernel_rfl
  rw [hi] at h1 h2
  simp at h1 h2
  exact ⟨i, hi, h2, h1.1, h1.2⟩
theorem zs_cells : cellsOfBytes zs = List.replicate 64 (.int .u8 0) := List.map_replicate
theorem rep_at {v : Value} (l : List Value) (e : l = List.replicate 64 v) (k : Nat) (h : k < l.length) : l[k] = v := by
  subst e
  exact List.getElem_replicate _
theorem mod_zero (k : Nat) : (cellsOfBytes zs).toArray[k % 64]! = .int .u8 0 := by
  have h : k % 64 < (cellsOfBytes zs).toArray.size := by
    rw [List.size_toArray, cellsOfBytes_length, List.length_replicate]
    exact Nat.mod_lt _ (by decide)
  rw [getElem!_pos (cellsOfBytes zs).toArray (k % 64) h, List.getElem_toArray]
  exact rep_at (cellsOfBytes zs) zs_cells _ _
theorem make_firm (n : Nat) (hn : n ≤ 1024) : ∃ C : Array Value, (∀ k, k < n * 64 → C[k]? = some (.int .u8 0)) ∧
    ∀ w, (Instr.makeSlice 34 (.int .i64 (n : Int)) (.int .i64 (n : Int))).run Tryd.prog w = .ok (.slice (some ⟨w.heap.size, 0, none⟩) n n) (w.alloc (.cells C 85)) := by
  obtain ⟨i, h1, h2, h3, h4⟩ := infoC
  refine ⟨madeCells (cellsOfBytes zs).toArray (n * 64), fun k hk => ?_, fun w => ?_⟩
  · unfold madeCells
    have hs : (cellsOfBytes zs).toArray.size = 64 := by rw [List.size_toArray, cellsOfBytes_length, List.length_replicate]
    rw [hs]
    rw [Array.getElem?_map, Array.getElem?_range, if_pos hk]
    exact congrArg some (mod_zero k)
  · have h := run_make (P := Tryd.prog) (w := w) 34 85 i (arr zs) Tryd.underlying34 h1 h2 .i64 .i64 (n : Int) (n : Int) (by omega) (Int.le_refl _) (by rw [h4]; omega) (by omega)
    rw [h3] at h
    exact h

set_option maxRecDepth 100000 in
theorem dNew_no (n : Int) (w : World) (hn : n < 1 ∨ 1024 < n) : Calls Tryd.prog 22 #[.int .i64 n] w fun e w' => e = .returned (.tuple #[.pointer none, .int .i64 5]) ∧ Below w.heap.size w w' := by
  by_cases h1 : n < 1
  · go_enter Tryd.func22, Tryd.ntmps22
    go_wp2
    go_ret2
    exact ⟨rfl, Below.refl _ _⟩
  · have h2 : 1024 < n := by omega
    go_enter Tryd.func22, Tryd.ntmps22
    go_wp2
    go_ret2
    exact ⟨rfl, Below.refl _ _⟩
def DNewPost (n : Nat) (w : World) (e : Ending) (w' : World) : Prop :=
  ∃ b F, e = .returned (.tuple #[.pointer (some ⟨b, 0, none⟩), .int .i64 0]) ∧ DiskAt w' b F (DS.fresh n) ∧ (∀ k, F k → w.heap.size ≤ k) ∧ Below w.heap.size w w'
theorem three_new (w : World) (o1 o2 o3 : Obj) : (((w.alloc o1).alloc o2).alloc o3).heap[w.heap.size]? = some o1 ∧ (((w.alloc o1).alloc o2).alloc o3).heap[w.heap.size + 1]? = some o2 ∧
    (((w.alloc o1).alloc o2).alloc o3).heap[w.heap.size + 1 + 1]? = some o3 ∧ (((w.alloc o1).alloc o2).alloc o3).heap.size = w.heap.size + 1 + 1 + 1 := by
  have s1 : (w.alloc o1).heap.size = w.heap.size + 1 := by simp
  have s2 : ((w.alloc o1).alloc o2).heap.size = w.heap.size + 1 + 1 := by simp
  have e1 := MapKept.heap_alloc w o1
  have e2 := MapKept.heap_alloc (w.alloc o1) o2
  have e3 := MapKept.heap_alloc ((w.alloc o1).alloc o2) o3
  rw [s1] at e2
  rw [s2] at e3
  exact ⟨(e3.2 _ (by omega)).trans ((e2.2 _ (by omega)).trans e1.1), (e3.2 _ (by omega)).trans e2.1, e3.1, by simp⟩
/-- a disk, new -/
theorem fresh_at (n : Nat) (h1 : 1 ≤ n) (h2 : n ≤ 1024) (w : World) (C : Array Value) (hC : ∀ k, k < n * 64 → C[k]? = some (.int .u8 0)) :
    DiskAt (((w.alloc (.cells C 85)).alloc (.map #[] 0)).alloc (.cells #[.pointer (some ⟨w.heap.size + 1 + 1, 0, none⟩), .slice (some ⟨w.heap.size, 0, none⟩) n n, .map (some (w.heap.size + 1)), .int .i64 0, .int .i64 (-1), .bool false] 42)) (w.heap.size + 1 + 1) (fun k => k = w.heap.size ∨ k = w.heap.size + 1 ∨ k = w.heap.size + 1 + 1) (DS.fresh n) := by
  obtain ⟨z0, z1, z2, zn⟩ := three_new w (.cells C 85) (.map #[] 0) (.cells #[.pointer (some ⟨w.heap.size + 1 + 1, 0, none⟩), .slice (some ⟨w.heap.size, 0, none⟩) n n, .map (some (w.heap.size + 1)), .int .i64 0, .int .i64 (-1), .bool false] 42)
  revert z0 z1 z2 zn
  generalize (((w.alloc (.cells C 85)).alloc (.map #[] 0)).alloc (.cells #[.pointer (some ⟨w.heap.size + 1 + 1, 0, none⟩), .slice (some ⟨w.heap.size, 0, none⟩) n n, .map (some (w.heap.size + 1)), .int .i64 0, .int .i64 (-1), .bool false] 42)) = W
  intro z0 z1 z2 zn
  refine ⟨w.heap.size, n, w.heap.size + 1, 0, .map [], ⟨h1, h2, fun i _ => (by simp [DS.fresh]), fun i b h => (by cases h)⟩, fun k hk => (by cases hk), z2, Nat.le_refl _, .inr (.inr rfl), .inl rfl, .inr (.inl rfl), (by omega), (by omega), (by omega), fun k hk => (by omega), fun i hi j v hv => ?_, fun j hj => ?_, ⟨#[], 0, z1, ⟨by simp, MapKept.stamped_empty 0, by simp⟩, Nat.le_refl _, rfl⟩, Nat.le_refl _, LooseD.none_⟩
  · have hi' : i < n := hi
    have hv' : (cellsOfBytes zs)[j]? = some v := hv
    have hj : j < 64 := by
      have := (List.getElem?_eq_some_iff.1 hv').1
      rwa [cellsOfBytes_length, List.length_replicate] at this
    rw [zs_cells, List.getElem?_replicate, if_pos hj] at hv'
    rw [cell_of_row W _ _ C _ _ z0, ← Option.some.inj hv']
    exact hC _ (by omega)
  · have hj' : j < n * 64 := hj
    rw [Nat.zero_add]
    refine ⟨by rw [cell_of_row W _ _ C _ _ z0, hC j hj']; rfl, by simp [World.frozen?, z0]⟩
set_option maxRecDepth 100000 in
theorem dNew (n : Nat) (w : World) (h1 : 1 ≤ n) (h2 : n ≤ 1024) : Calls Tryd.prog 22 #[.int .i64 (n : Int)] w (DNewPost n w) := by
  obtain ⟨C, hC, hmk⟩ := make_firm n h2
  have n1 : ¬ (n : Int) < 1 := by omega
  have n2 : ¬ 1024 < (n : Int) := by omega
  have hmm := fun w => run_makeMap (P := Tryd.prog) 35 w
  have HC := Lib.hid hC
  have H1 := Lib.hid (And.intro h1 h2)
  clear hC h1 h2
  go_enter Tryd.func22, Tryd.ntmps22
  go_wp2
  go_ret2
  exact ⟨_, _, rfl, fresh_at n H1.out.1 H1.out.2 w C HC.out, fun k hk => by omega, (((Below.refl _ w).alloc (Nat.le_refl _) _).alloc (by simp) _).alloc (by simp; omega) _⟩
end Go.Proofs.YtgnfajmjhlnobaaDoor
