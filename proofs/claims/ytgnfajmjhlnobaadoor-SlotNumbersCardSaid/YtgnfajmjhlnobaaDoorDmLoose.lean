/-
  The program's own disk: Loose. Conditions: none.
-/
import Derived.Test.YtgnfajmjhlnobaaDoorDmSmall
import Derived.Test.YtgnfajmjhlnobaaDoorDmLay
namespace Go.Proofs.YtgnfajmjhlnobaaDoor
open Go.RowKit Go.Maps Go.Sort Go.Shelf

theorem DS.looseList_has {S : DS} (hok : ∀ i b, S.loose i = some b → i < S.n ∧ b.length = 64) (x : Int) : x ∈ S.looseList ↔ (decide (0 ≤ x) && (S.loose x.toNat).isSome) = true := by
  unfold DS.looseList DS.looseBelow
  simp only [List.mem_map, List.mem_filter, List.mem_range, Bool.and_eq_true, decide_eq_true_eq]
  constructor
  · rintro ⟨i, ⟨_, hi⟩, rfl⟩
    exact ⟨by omega, by simpa [DS.isLoose] using hi⟩
  · rintro ⟨h0, h⟩
    obtain ⟨b, hb⟩ := Option.isSome_iff_exists.1 h
    exact ⟨x.toNat, ⟨(hok _ _ hb).1, by simp [DS.isLoose, hb]⟩, by omega⟩
theorem DS.looseList_sorted (S : DS) : S.looseList.Pairwise (fun a b => leI a b = true) := by
  unfold DS.looseList DS.looseBelow
  refine List.pairwise_map.2 ((List.pairwise_lt_range.filter _).imp fun {a b} h => ?_)
  simp only [leI, decide_eq_true_eq]
  omega
theorem DS.looseList_nodup (S : DS) : S.looseList.Nodup := by
  unfold DS.looseList DS.looseBelow
  refine List.pairwise_map.2 ((List.pairwise_lt_range.filter _).imp fun {a b} h => ?_)
  omega
theorem DS.looseList_len (S : DS) : S.looseList.length ≤ S.n := by
  unfold DS.looseList DS.looseBelow
  rw [List.length_map]
  exact Nat.le_trans (List.length_filter_le _ _) (by simp)
section
variable {w : World} {m nn : Nat} {D : DU} {S : DS}
theorem keys_perm_loose (hm : w.ownsMap Tryd.prog 3 elemR m nn D) (hL : LooseD D S.loose) (hok : ∀ i b, S.loose i = some b → i < S.n ∧ b.length = 64) : S.looseList.Perm (intKeys D) := by
  refine CollectedI.perm (left := fun _ => false) ⟨S.looseList_nodup, fun x => ?_⟩ hm (int_keyed Tryd.underlying3) Tryd.underlying3 (fun _ => rfl)
  rw [DS.looseList_has hok, hL.has]
  simp
theorem size_loose (hm : w.ownsMap Tryd.prog 3 elemR m nn D) (hL : LooseD D S.loose) (hok : ∀ i b, S.loose i = some b → i < S.n ∧ b.length = 64) : Maps.size D ≤ S.n := by
  have h := (keys_perm_loose hm hL hok).length_eq
  obtain ⟨es, rfl, _⟩ := hm.entries (int_keyed Tryd.underlying3)
  have e : (intKeys (.map es : DU)).length = es.length := by simp [intKeys]
  rw [e] at h
  show es.length ≤ S.n
  rw [← h]
  exact S.looseList_len
end
/-- slices.Sort's two contracts, at the fence that asks nothing -/
theorem sortsD (k : Nat) : AnyZI.SortsIn Tryd.prog sortedD_ren Fence.wide k :=
  ⟨fun blk off cap ss W hH hblk hsz => callsIn_wide.2 (AnyM.slices_Sort_int sortD blk off cap ss W hH hblk hsz),
   fun p cap W => callsIn_wide.2 (AnyM.slices_Sort_int_none sortD p cap W)⟩

set_option maxRecDepth 100000 in
set_option maxHeartbeats 1000000 in
theorem loose_raw (w : World) (b m nn : Nat) (D : DU) (x0 : w.cell? ⟨b, 0, none⟩ = some (.pointer (some ⟨b, 0, none⟩))) (x2 : w.cell? ⟨b, 2, none⟩ = some (.map (some m))) (hown : w.ownsMap Tryd.prog 3 elemR m nn D) (hmax : Maps.size D ≤ maxLen) (hbytes : Maps.size D * 8 ≤ 140737488355328) :
    Calls Tryd.prog 64 #[.pointer (some ⟨b, 0, none⟩)] w fun e w' => ∃ (v : Value) (ss : List Int), e = .returned v ∧ ss.Perm (intKeys D) ∧
      w'.ownsRow w.heap.size 3 1 v ss.length ((ss.mergeSort (fun x y => decide (x ≤ y))).map encZ) ∧ (v = .slice none 0 0 ↔ ss = []) ∧ Below w.heap.size w w' := by
  refine (callsIn_wide (n := 6)).1 ?_
  have zm : CallsIn Fence.wide 5 Tryd.prog 46 #[.pointer (some ⟨b, 0, none⟩)] w fun e w' => e = .returned (.bool true) ∧ w = w' := callsIn_wide.2 (made_yes w b x0)
  have hbl := hown.lt
  have hseq : SeqGives Fence.wide 2 Tryd.prog 74 #[.pointer (some ⟨w.heap.size, 0, none⟩)] encZ (fun ss => ss.Perm (intKeys D)) (Maps.size D) (w.alloc (.cells #[.map (some m)] 35)) :=
    AnyZI.keys_gives (ρ := keysD_ren) { keysD with } Fence.wide _ trivial rfl (by omega) w.heap.size m nn D _ (by simp) (by simp) (by
      obtain ⟨es, clock, hb, Ft, hs, hD⟩ := hown
      exact ⟨es, clock, (Below.heap_alloc _ _ m hbl).trans hb, Ft, hs, hD⟩)
  have cK : ∀ mb W, CallsIn Fence.wide 5 Tryd.prog 70 #[.map mb] W fun e w' => e = .returned (.func (.func 74) #[] #[.pointer (some ⟨W.heap.size, 0, none⟩)]) ∧ w' = W.alloc (.cells #[.map mb] 35) := fun mb W => AnyZI.keys_in keysD Fence.wide 5 trivial rfl mb W
  have cS := AnyZI.sorted_in sortedD Fence.wide 5 trivial trivial trivial trivial rfl (by omega) (sortsD _) (enters_of Tryd.func73 (by kernel_rfl) rfl) 74 #[.pointer (some ⟨w.heap.size, 0, none⟩)] trivial (enters_of Tryd.func74 (by kernel_rfl) rfl) _ _ hmax hbytes _ hseq
  change CallsIn _ _ Tryd.prog 69 _ _ _ at cS
  have hfK : Fence.wide.fn 70 := trivial
  have hfS : Fence.wide.fn 69 := trivial
  have hfM : Fence.wide.fn 46 := trivial
  refine callsIn_of_wp Tryd.func64 rfl trivial ?_ rfl
  simp only [Tryd.ntmps64, List.size_toArray, List.length_cons, List.length_nil, Nat.reduceAdd, Nat.reduceSub, Array.replicate_succ, Array.replicate_zero, List.push_toArray, List.append_toArray, List.nil_append, List.cons_append]
  gi_wp2_with (first
    | (gi_at_call 46; refine zm.mono ?_; rintro e w' ⟨rfl, rfl⟩)
    | (gi_at_call 70; refine (cK _ _).mono ?_; rintro e w' ⟨rfl, rfl⟩)
    | (gi_at_call 69; refine cS.mono ?_; rintro e w' ⟨v, ss, rfl, hS, hrow, hnil, hb⟩))
  go_ret
  exact ⟨v, ss, rfl, hS, ownsRow_base_a hrow (by simp), hnil, ((Below.refl _ w).alloc (Nat.le_refl _) _).trans (hb.mono (by simp))⟩

theorem dLoose (w : World) (b : Nat) (F : Nat → Prop) (S : DS) (h : DiskAt w b F S) : Calls Tryd.prog 64 #[.pointer (some ⟨b, 0, none⟩)] w fun e w' =>
    ∃ A c, e = .returned (.slice A S.looseList.length c) ∧ S.looseList.length ≤ c ∧ RowAt w' w'.heap.size A (iv S.looseList) ∧ Below w.heap.size w w' := by
  obtain ⟨g, c, m, nn, D, h⟩ := h
  have hs := size_loose h.map h.loose h.ok.loose
  have hn := h.ok.n2
  refine (loose_raw w b m nn D h.cell0 h.cell2 h.map (by unfold maxLen; omega) (by omega)).mono ?_
  rintro e w' ⟨v, ss, rfl, hp, hrow, _, hB⟩
  have hp2 : ss.Perm S.looseList := hp.trans (keys_perm_loose h.map h.loose h.ok.loose).symm
  have e1 : ss.mergeSort (fun x y => decide (x ≤ y)) = S.looseList := (mergeSort_of_perm_i hp2).trans (List.mergeSort_of_pairwise S.looseList_sorted)
  rw [e1, hp2.length_eq] at hrow
  have ho : OwnR 3 w' w.heap.size v (iv S.looseList) := by
    unfold OwnR
    rw [iv_length]
    exact hrow
  obtain ⟨A, c', rfl, h1, _⟩ := ho.form
  rw [iv_length] at h1
  exact ⟨A, c', by rw [iv_length], h1, ho.row, hB⟩
end Go.Proofs.YtgnfajmjhlnobaaDoor
