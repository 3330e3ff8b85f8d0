/-
  Several texts in one (DmLoose, DmNew, DmClone). Conditions: as each says.
-/
import Derived.Test.YtcahpodmcklnbaaGreatDoorDa
import Derived.Test.YtcahpodmcklnbaaGreatDoorDmLay
import Derived.Laws.MakeOwn
import Derived.Deep.RegionHeld3
import Derived.Deep.CutRange
/-
  The program's own disk: Loose. Conditions: none.
-/
namespace Go.Proofs.YtcahpodmcklnbaaGreatDoor
open Go.RowKit Go.Maps Go.Sort Go.Shelf

theorem DS.looseList_has {S : DS} (hok : ∀ i b, S.loose i = some b → i < S.n ∧ b.length = 64) (x : Int) : x ∈ S.looseList ↔ (decide (0 ≤ x) && (S.loose x.toNat).isSome) = true := by
  unfold DS.looseList DS.looseBelow
  simp only [List.mem_map, List.mem_filter, List.mem_range, Bool.and_eq_true, decide_eq_true_eq]
  constructor
  · rintro ⟨i, ⟨_, hi⟩, rfl⟩
    exact ⟨by omega, by simpa [DS.isLoose] using hi⟩
  · rintro ⟨h0, h⟩
    obtain ⟨b, hb⟩ := Option.isSome_iff_exists.1 h
    exact ⟨x.toNat, ⟨(hok _ _ hb).1, by simp [DS.isLoose, hb]⟩, by omega⟩
theorem DS.looseList_sorted (S : DS) : S.looseList.Pairwise (fun a b => leI a b = true) := by
  unfold DS.looseList DS.looseBelow
  refine List.pairwise_map.2 ((List.pairwise_lt_range.filter _).imp fun {a b} h => ?_)
  simp only [leI, decide_eq_true_eq]
  omega
theorem DS.looseList_nodup (S : DS) : S.looseList.Nodup := by
  unfold DS.looseList DS.looseBelow
  refine List.pairwise_map.2 ((List.pairwise_lt_range.filter _).imp fun {a b} h => ?_)
  omega
theorem DS.looseList_len (S : DS) : S.looseList.length ≤ S.n := by
  unfold DS.looseList DS.looseBelow
  rw [List.length_map]
  exact Nat.le_trans (List.length_filter_le _ _) (by simp)
section
variable {w : World} {m nn : Nat} {D : DU} {S : DS}
theorem keys_perm_loose (hm : w.ownsMap Tryz.prog 3 elemR m nn D) (hL : LooseD D S.loose) (hok : ∀ i b, S.loose i = some b → i < S.n ∧ b.length = 64) : S.looseList.Perm (intKeys D) := by
  refine CollectedI.perm (left := fun _ => false) ⟨S.looseList_nodup, fun x => ?_⟩ hm (int_keyed Tryz.underlying3) Tryz.underlying3 (fun _ => rfl)
  rw [DS.looseList_has hok, hL.has]
  simp
theorem size_loose (hm : w.ownsMap Tryz.prog 3 elemR m nn D) (hL : LooseD D S.loose) (hok : ∀ i b, S.loose i = some b → i < S.n ∧ b.length = 64) : Maps.size D ≤ S.n := by
  have h := (keys_perm_loose hm hL hok).length_eq
  obtain ⟨es, rfl, _⟩ := hm.entries (int_keyed Tryz.underlying3)
  have e : (intKeys (.map es : DU)).length = es.length := by simp [intKeys]
  rw [e] at h
  show es.length ≤ S.n
  rw [← h]
  exact S.looseList_len
end
/-- slices.Sort's two contracts, at the fence that asks nothing -/
theorem sortsD (k : Nat) : AnyZI.SortsIn Tryz.prog sortedD_ren Fence.wide k :=
  ⟨fun blk off cap ss W hH hblk hsz => callsIn_wide.2 (AnyM.slices_Sort_int sortD blk off cap ss W hH hblk hsz),
   fun p cap W => callsIn_wide.2 (AnyM.slices_Sort_int_none sortD p cap W)⟩

set_option maxRecDepth 100000 in
set_option maxHeartbeats 1000000 in
theorem loose_raw (w : World) (b m nn : Nat) (D : DU) (x0 : w.cell? ⟨b, 0, none⟩ = some (.pointer (some ⟨b, 0, none⟩))) (x2 : w.cell? ⟨b, 2, none⟩ = some (.map (some m))) (hown : w.ownsMap Tryz.prog 3 elemR m nn D) (hmax : Maps.size D ≤ maxLen) (hbytes : Maps.size D * 8 ≤ 140737488355328) :
    Calls Tryz.prog 89 #[.pointer (some ⟨b, 0, none⟩)] w fun e w' => ∃ (v : Value) (ss : List Int), e = .returned v ∧ ss.Perm (intKeys D) ∧
      w'.ownsRow w.heap.size 3 1 v ss.length ((ss.mergeSort (fun x y => decide (x ≤ y))).map encZ) ∧ (v = .slice none 0 0 ↔ ss = []) ∧ Below w.heap.size w w' := by
  refine (callsIn_wide (n := 6)).1 ?_
  have zm : CallsIn Fence.wide 5 Tryz.prog 62 #[.pointer (some ⟨b, 0, none⟩)] w fun e w' => e = .returned (.bool true) ∧ w = w' := callsIn_wide.2 (made_yes w b x0)
  have hbl := hown.lt
  have hseq : SeqGives Fence.wide 2 Tryz.prog 104 #[.pointer (some ⟨w.heap.size, 0, none⟩)] encZ (fun ss => ss.Perm (intKeys D)) (Maps.size D) (w.alloc (.cells #[.map (some m)] 59)) :=
    AnyZI.keys_gives (ρ := keysD_ren) { keysD with } Fence.wide _ trivial rfl (by omega) w.heap.size m nn D _ (by simp) (by simp) (by
      obtain ⟨es, clock, hb, Ft, hs, hD⟩ := hown
      exact ⟨es, clock, (Below.heap_alloc _ _ m hbl).trans hb, Ft, hs, hD⟩)
  have cK : ∀ mb W, CallsIn Fence.wide 5 Tryz.prog 100 #[.map mb] W fun e w' => e = .returned (.func (.func 104) #[] #[.pointer (some ⟨W.heap.size, 0, none⟩)]) ∧ w' = W.alloc (.cells #[.map mb] 59) := fun mb W => AnyZI.keys_in keysD Fence.wide 5 trivial rfl mb W
  have cS := AnyZI.sorted_in sortedD Fence.wide 5 trivial trivial trivial trivial rfl (by omega) (sortsD _) (enters_of Tryz.func103 (by kernel_rfl) rfl) 104 #[.pointer (some ⟨w.heap.size, 0, none⟩)] trivial (enters_of Tryz.func104 (by kernel_rfl) rfl) _ _ hmax hbytes _ hseq
  change CallsIn _ _ Tryz.prog 99 _ _ _ at cS
  have hfK : Fence.wide.fn 100 := trivial
  have hfS : Fence.wide.fn 99 := trivial
  have hfM : Fence.wide.fn 62 := trivial
  refine callsIn_of_wp Tryz.func89 rfl trivial ?_ rfl
  simp only [Tryz.ntmps89, List.size_toArray, List.length_cons, List.length_nil, Nat.reduceAdd, Nat.reduceSub, Array.replicate_succ, Array.replicate_zero, List.push_toArray, List.append_toArray, List.nil_append, List.cons_append]
  gi_wp2_with (first
    | (gi_at_call 62; refine zm.mono ?_; rintro e w' ⟨rfl, rfl⟩)
    | (gi_at_call 100; refine (cK _ _).mono ?_; rintro e w' ⟨rfl, rfl⟩)
    | (gi_at_call 99; refine cS.mono ?_; rintro e w' ⟨v, ss, rfl, hS, hrow, hnil, hb⟩))
  go_ret
  exact ⟨v, ss, rfl, hS, ownsRow_base_a hrow (by simp), hnil, ((Below.refl _ w).alloc (Nat.le_refl _) _).trans (hb.mono (by simp))⟩

theorem dLoose (w : World) (b : Nat) (F : Nat → Prop) (S : DS) (h : DiskAt w b F S) : Calls Tryz.prog 89 #[.pointer (some ⟨b, 0, none⟩)] w fun e w' =>
    ∃ A c, e = .returned (.slice A S.looseList.length c) ∧ S.looseList.length ≤ c ∧ RowAt w' w'.heap.size A (iv S.looseList) ∧ Below w.heap.size w w' := by
  obtain ⟨g, c, m, nn, D, h⟩ := h
  have hs := size_loose h.map h.loose h.ok.loose
  have hn := h.ok.n2
  refine (loose_raw w b m nn D h.cell0 h.cell2 h.map (by unfold maxLen; omega) (by omega)).mono ?_
  rintro e w' ⟨v, ss, rfl, hp, hrow, _, hB⟩
  have hp2 : ss.Perm S.looseList := hp.trans (keys_perm_loose h.map h.loose h.ok.loose).symm
  have e1 : ss.mergeSort (fun x y => decide (x ≤ y)) = S.looseList := (mergeSort_of_perm_i hp2).trans (List.mergeSort_of_pairwise S.looseList_sorted)
  rw [e1, hp2.length_eq] at hrow
  have ho : OwnR 3 w' w.heap.size v (iv S.looseList) := by
    unfold OwnR
    rw [iv_length]
    exact hrow
  obtain ⟨A, c', rfl, h1, _⟩ := ho.form
  rw [iv_length] at h1
  exact ⟨A, c', by rw [iv_length], h1, ho.row, hB⟩
end Go.Proofs.YtcahpodmcklnbaaGreatDoor
/-
  The program's own disk: New. Conditions: none.
-/
namespace Go.Proofs.YtcahpodmcklnbaaGreatDoor
open Go.RowKit Go.Maps

set_option maxRecDepth 100000 in
theorem infoC : ∃ i, Tryz.prog.info? 126 = some i ∧ i.zero = some (arr zs) ∧ i.size = 64 ∧ i.bytes = 64 := by
  obtain ⟨i, hi⟩ : ∃ i, Tryz.prog.info? 126 = some i := Option.isSome_iff_exists.1 (by kernel_rfl)
  have h1 : (Tryz.prog.info? 126).map (fun i => (i.size, i.bytes)) = some (64, 64) := by kernel_rfl
  have h2 : (Tryz.prog.info? 126).bind (fun i => i.zero) = some (arr zs) := by kernel_rfl
  rw [hi] at h1 h2
  simp at h1 h2
  exact ⟨i, hi, h2, h1.1, h1.2⟩
theorem zs_cells : cellsOfBytes zs = List.replicate 64 (.int .u8 0) := List.map_replicate
theorem rep_at {v : Value} (l : List Value) (e : l = List.replicate 64 v) (k : Nat) (h : k < l.length) : l[k] = v := by
  subst e
  exact List.getElem_replicate _
theorem mod_zero (k : Nat) : (cellsOfBytes zs).toArray[k % 64]! = .int .u8 0 := by
  have h : k % 64 < (cellsOfBytes zs).toArray.size := by
    rw [List.size_toArray, cellsOfBytes_length, List.length_replicate]
    exact Nat.mod_lt _ (by decide)
  rw [getElem!_pos (cellsOfBytes zs).toArray (k % 64) h, List.getElem_toArray]
  exact rep_at (cellsOfBytes zs) zs_cells _ _
theorem make_firm (n : Nat) (hn : n ≤ 1024) : ∃ C : Array Value, (∀ k, k < n * 64 → C[k]? = some (.int .u8 0)) ∧
    ∀ w, (Instr.makeSlice 58 (.int .i64 (n : Int)) (.int .i64 (n : Int))).run Tryz.prog w = .ok (.slice (some ⟨w.heap.size, 0, none⟩) n n) (w.alloc (.cells C 126)) := by
  obtain ⟨i, h1, h2, h3, h4⟩ := infoC
  refine ⟨madeCells (cellsOfBytes zs).toArray (n * 64), fun k hk => ?_, fun w => ?_⟩
  · unfold madeCells
    have hs : (cellsOfBytes zs).toArray.size = 64 := by rw [List.size_toArray, cellsOfBytes_length, List.length_replicate]
    rw [hs]
    rw [Array.getElem?_map, Array.getElem?_range, if_pos hk]
    exact congrArg some (mod_zero k)
  · have h := run_make (P := Tryz.prog) (w := w) 58 126 i (arr zs) Tryz.underlying58 h1 h2 .i64 .i64 (n : Int) (n : Int) (by omega) (Int.le_refl _) (by rw [h4]; omega) (by omega)
    rw [h3] at h
    exact h

set_option maxRecDepth 100000 in
theorem dNew_no (n : Int) (w : World) (hn : n < 1 ∨ 1024 < n) : Calls Tryz.prog 5 #[.int .i64 n] w fun e w' => e = .returned (.tuple #[.pointer none, .int .i64 5]) ∧ Below w.heap.size w w' := by
  by_cases h1 : n < 1
  · go_enter Tryz.func5, Tryz.ntmps5
    go_wp2
    go_ret2
    exact ⟨rfl, Below.refl _ _⟩
  · have h2 : 1024 < n := by omega
    go_enter Tryz.func5, Tryz.ntmps5
    go_wp2
    go_ret2
    exact ⟨rfl, Below.refl _ _⟩
def DNewPost (n : Nat) (w : World) (e : Ending) (w' : World) : Prop :=
  ∃ b F, e = .returned (.tuple #[.pointer (some ⟨b, 0, none⟩), .int .i64 0]) ∧ DiskAt w' b F (DS.fresh n) ∧ (∀ k, F k → w.heap.size ≤ k) ∧ Below w.heap.size w w'
theorem three_new (w : World) (o1 o2 o3 : Obj) : (((w.alloc o1).alloc o2).alloc o3).heap[w.heap.size]? = some o1 ∧ (((w.alloc o1).alloc o2).alloc o3).heap[w.heap.size + 1]? = some o2 ∧
    (((w.alloc o1).alloc o2).alloc o3).heap[w.heap.size + 1 + 1]? = some o3 ∧ (((w.alloc o1).alloc o2).alloc o3).heap.size = w.heap.size + 1 + 1 + 1 := by
  have s1 : (w.alloc o1).heap.size = w.heap.size + 1 := by simp
  have s2 : ((w.alloc o1).alloc o2).heap.size = w.heap.size + 1 + 1 := by simp
  have e1 := MapKept.heap_alloc w o1
  have e2 := MapKept.heap_alloc (w.alloc o1) o2
  have e3 := MapKept.heap_alloc ((w.alloc o1).alloc o2) o3
  rw [s1] at e2
  rw [s2] at e3
  exact ⟨(e3.2 _ (by omega)).trans ((e2.2 _ (by omega)).trans e1.1), (e3.2 _ (by omega)).trans e2.1, e3.1, by simp⟩
/-- a disk, new -/
theorem fresh_at (n : Nat) (h1 : 1 ≤ n) (h2 : n ≤ 1024) (w : World) (C : Array Value) (hC : ∀ k, k < n * 64 → C[k]? = some (.int .u8 0)) :
    DiskAt (((w.alloc (.cells C 126)).alloc (.map #[] 0)).alloc (.cells #[.pointer (some ⟨w.heap.size + 1 + 1, 0, none⟩), .slice (some ⟨w.heap.size, 0, none⟩) n n, .map (some (w.heap.size + 1)), .int .i64 0, .int .i64 (-1), .bool false] 66)) (w.heap.size + 1 + 1) (fun k => k = w.heap.size ∨ k = w.heap.size + 1 ∨ k = w.heap.size + 1 + 1) (DS.fresh n) := by
  obtain ⟨z0, z1, z2, zn⟩ := three_new w (.cells C 126) (.map #[] 0) (.cells #[.pointer (some ⟨w.heap.size + 1 + 1, 0, none⟩), .slice (some ⟨w.heap.size, 0, none⟩) n n, .map (some (w.heap.size + 1)), .int .i64 0, .int .i64 (-1), .bool false] 66)
  revert z0 z1 z2 zn
  generalize (((w.alloc (.cells C 126)).alloc (.map #[] 0)).alloc (.cells #[.pointer (some ⟨w.heap.size + 1 + 1, 0, none⟩), .slice (some ⟨w.heap.size, 0, none⟩) n n, .map (some (w.heap.size + 1)), .int .i64 0, .int .i64 (-1), .bool false] 66)) = W
  intro z0 z1 z2 zn
  refine ⟨w.heap.size, n, w.heap.size + 1, 0, .map [], ⟨h1, h2, fun i _ => (by simp [DS.fresh]), fun i b h => (by cases h)⟩, fun k hk => (by cases hk), z2, Nat.le_refl _, .inr (.inr rfl), .inl rfl, .inr (.inl rfl), (by omega), (by omega), (by omega), fun k hk => (by omega), fun i hi j v hv => ?_, fun j hj => ?_, ⟨#[], 0, z1, ⟨by simp, MapKept.stamped_empty 0, by simp⟩, Nat.le_refl _, rfl⟩, Nat.le_refl _, LooseD.none_⟩
  · have hi' : i < n := hi
    have hv' : (cellsOfBytes zs)[j]? = some v := hv
    have hj : j < 64 := by
      have := (List.getElem?_eq_some_iff.1 hv').1
      rwa [cellsOfBytes_length, List.length_replicate] at this
    rw [zs_cells, List.getElem?_replicate, if_pos hj] at hv'
    rw [cell_of_row W _ _ C _ _ z0, ← Option.some.inj hv']
    exact hC _ (by omega)
  · have hj' : j < n * 64 := hj
    rw [Nat.zero_add]
    refine ⟨by rw [cell_of_row W _ _ C _ _ z0, hC j hj']; rfl, by simp [World.frozen?, z0]⟩
set_option maxRecDepth 100000 in
theorem dNew (n : Nat) (w : World) (h1 : 1 ≤ n) (h2 : n ≤ 1024) : Calls Tryz.prog 5 #[.int .i64 (n : Int)] w (DNewPost n w) := by
  obtain ⟨C, hC, hmk⟩ := make_firm n h2
  have n1 : ¬ (n : Int) < 1 := by omega
  have n2 : ¬ 1024 < (n : Int) := by omega
  have hmm := fun w => run_makeMap (P := Tryz.prog) 59 w
  have HC := Lib.hid hC
  have H1 := Lib.hid (And.intro h1 h2)
  clear hC h1 h2
  go_enter Tryz.func5, Tryz.ntmps5
  go_wp2
  go_ret2
  exact ⟨_, _, rfl, fresh_at n H1.out.1 H1.out.2 w C HC.out, fun k hk => by omega, (((Below.refl _ w).alloc (Nat.le_refl _) _).alloc (by simp) _).alloc (by simp; omega) _⟩
end Go.Proofs.YtcahpodmcklnbaaGreatDoor
/-
  The program's own disk: Clone. Conditions: none.
-/
namespace Go.Proofs.YtcahpodmcklnbaaGreatDoor
open Go.RowKit Go.Maps

/-- the cells of n sectors -/
def sectorCells (f : Nat → List UInt8) (n : Nat) : List Value := (List.range (n * 64)).map fun k => .int .u8 (((f (k / 64)).getD (k % 64) 0).toNat : Int)
theorem sectorCells_at (f : Nat → List UInt8) (n i j : Nat) (hi : i < n) (hj : j < 64) : (sectorCells f n)[i * 64 + j]? = some (.int .u8 (((f i).getD j 0).toNat : Int)) := by
  unfold sectorCells
  rw [List.getElem?_map, List.getElem?_range (by omega)]
  simp only [Option.map_some]
  rw [show (i * 64 + j) / 64 = i by omega, show (i * 64 + j) % 64 = j by omega]
/-- what slices.Clone tells -/
def SClonePost (f : Nat → List UInt8) (n : Nat) (w : World) (e : Ending) (w' : World) : Prop :=
  ∃ g c, e = .returned (.slice (some ⟨g, 0, none⟩) n c) ∧ n ≤ c ∧ w.heap.size ≤ g ∧ g < w'.heap.size ∧ (∀ i, i < n → w'.rangeAt g (i * 64) (cellsOfBytes (f i))) ∧ w'.there g 0 (n * 64) ∧ Below w.heap.size w w'
set_option maxRecDepth 100000 in
theorem some_neqD (g n c : Nat) (w : World) : (binOp .eql 58 (.slice (some ⟨g, 0, none⟩) n c) (.slice none 0 0)).run Tryz.prog w = .ok (.bool false) w := by kernel_rfl
/-- a disk half made: all but itself, and its changes -/
def HalfAt (w wx : World) (S : DS) (D : DU) (nn B : Nat) : Prop :=
  ∃ g c m, wx.heap[B]? = some (.cells #[.pointer none, .slice (some ⟨g, 0, none⟩) S.n c, .map (some m), .int .i64 0, .int .i64 S.fuseI, .bool S.out] 66 (0, 0)) ∧ S.n ≤ c ∧
    w.heap.size ≤ g ∧ g < wx.heap.size ∧ w.heap.size ≤ m ∧ m < wx.heap.size ∧ w.heap.size ≤ B ∧ B < wx.heap.size ∧ B ≠ g ∧ B ≠ m ∧ g ≠ m ∧
    (∀ i, i < S.n → wx.rangeAt g (i * 64) (cellsOfBytes (S.firm i))) ∧ wx.there g 0 (S.n * 64) ∧ wx.ownsMap Tryz.prog 3 elemR m nn D ∧ Below w.heap.size w wx
def DClonePost (S : DS) (w : World) (e : Ending) (w' : World) : Prop :=
  ∃ b' F', e = .returned (.pointer (some ⟨b', 0, none⟩)) ∧ DiskAt w' b' F' S ∧ (∀ k, F' k → w.heap.size ≤ k) ∧ Below w.heap.size w w'
end Go.Proofs.YtcahpodmcklnbaaGreatDoor
