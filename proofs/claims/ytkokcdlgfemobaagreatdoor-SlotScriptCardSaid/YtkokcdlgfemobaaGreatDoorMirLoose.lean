/-
  The document's own disk (tandemref04): Loose. Conditions: none.
-/
import Derived.Test.YtkokcdlgfemobaaGreatDoorMirFlush
namespace Go.Proofs.YtkokcdlgfemobaaGreatDoor
open Go.RowKit
namespace DS
def looseI (S : DS) (s : Nat) : List Int := (S.looseBelow s).map fun i : Nat => (i : Int)
theorem looseI_zero (S : DS) : S.looseI 0 = [] := rfl
theorem looseI_none (S : DS) (i : Nat) (h : S.loose i = none) : S.looseI (i + 1) = S.looseI i := by
  unfold looseI looseBelow
  rw [List.range_succ, List.filter_append]
  simp [isLoose, h]
theorem looseI_some (S : DS) (i : Nat) (l : List UInt8) (h : S.loose i = some l) : S.looseI (i + 1) = S.looseI i ++ [(i : Int)] := by
  unfold looseI looseBelow
  rw [List.range_succ, List.filter_append]
  simp [isLoose, h]
theorem looseI_len (S : DS) (i : Nat) : (S.looseI i).length ≤ i := by
  unfold looseI looseBelow
  rw [List.length_map]
  exact Nat.le_trans (List.length_filter_le _ _) (by simp)
theorem looseI_all (S : DS) : S.looseI S.n = S.looseList := rfl
end DS
def iv_ (S : DS) (i : Nat) : List Value := iv (S.looseI i)
set_option maxRecDepth 100000 in
theorem mLoose (w : World) (b : Nat) (F : Nat → Prop) (S : DS) (h : Mir w b F S) : Calls Tryz.prog 50 #[.pointer (some ⟨b, 0, none⟩)] w fun e w' =>
    ∃ A c, e = .returned (.slice A S.looseList.length c) ∧ S.looseList.length ≤ c ∧ OwnR 3 w' w.heap.size (.slice A S.looseList.length c) (iv S.looseList) ∧ Below w.heap.size w w' := by
  obtain ⟨g0, g1, c0, c1, xs, ys, h⟩ := h
  obtain ⟨n, hn⟩ : ∃ n, n = S.n := ⟨_, rfl⟩
  have hn2 : n ≤ 1024 := Nat.le_trans (Nat.le_of_eq hn) h.ok.n2
  have HM := Lib.hid (And.intro h hn)
  have y1 := h.cell1
  rw [← hn] at y1
  clear h hn
  have q1 := nil_neq
  have q2 := some_neq
  go_enter Tryz.func50, Tryz.ntmps50
  go_wp2
  go_loopw [3, 4] (fun lv iv wr => ∃ i, i ≤ n ∧ iv = .int .i64 ((i : Nat) : Int) ∧ OwnR 3 wr w.heap.size lv (iv_ S i) ∧ Below w.heap.size w wr) (fun _ iv _ => n - (intOf iv).toNat)
  case atStart => exact ⟨0, Nat.zero_le _, rfl, OwnR.nil_, Below.refl _ _⟩
  case round =>
    obtain ⟨i, hi, rfl, hown, hB⟩ := hrel
    obtain ⟨h, hn⟩ := HM.out
    have y1w := (h.step hB).cell1
    rw [← hn] at y1w
    by_cases hlt : i < n
    · have hi2 : i < S.n := by omega
      have hlen := Lib.hid (S.looseI_len i)
      cases hl : S.loose i with
      | none =>
        have hz := (h.step hB).last.cell (h.ln i hi2 hl)
        have hfl := Lib.hid (S.looseI_none i hl)
        clear h hn hl hi2
        go_wp2
        go_roundw
        case rel => exact ⟨i + 1, by omega, by go_num, by unfold iv_; rw [hfl.out]; exact hown, hB⟩
        case measure => simp [intOf]; omega
      | some l =>
        obtain ⟨v, hv, g, c, rfl, _⟩ := h.ls i l hl
        have hz := (h.step hB).last.cell hv
        have hfl := Lib.hid (S.looseI_some i l hl)
        clear h hn hl hi2
        go_wp2_with (at_builtin; refine wpList_appendR rfl (.tmp 22) (.tmp 24) elI rfl w.heap.size _ (iv_ S i) rfl (hown.alloc _) _ (iv [(i : Int)]) 1 1 (wr.heap.size + 1) rfl rfl ?c1 (iv_one _) ?c2 ?c3 ?c4 ?c5; rotate_left 4; (intro v' w' ho hg hat))
        · go_roundw
          case rel =>
            refine ⟨i + 1, by omega, by go_num, ?_, ?_⟩
            · unfold iv_ at ho ⊢; rw [hfl.out, iv_append]; exact ho
            · exact grown_belowR (hB.alloc hB.size _) hg (by have := hB.size; simp; omega) (hown.alloc _) (Nat.le_refl _)
          case measure => simp [intOf]; omega
        case c1 => exact (BlkR.new wr (iv [(i : Int)]) 3).row ⟨[], (List.append_nil _).symm⟩ (Nat.lt_succ_self _)
        case c2 => have := hlen.out; unfold iv_; rw [iv_length, iv_length]; unfold maxLen; simp; omega
        case c3 => have := hlen.out; unfold iv_; rw [iv_length, iv_length]; simp; omega
        case c4 => have := hB.size; simp; omega
    · obtain rfl : i = n := by omega
      obtain ⟨A, c, rfl, hlc, _⟩ := hown.form
      have e1 : (iv_ S i).length = S.looseList.length := by unfold iv_; rw [iv_length, hn]; rfl
      have e2 : iv_ S i = iv S.looseList := by unfold iv_; rw [hn]; rfl
      have HE := Lib.hid (And.intro e1 e2)
      clear h hn e1 e2
      go_wp2
      go_ret
      obtain ⟨e1, e2⟩ := HE.out
      rw [e1, e2] at hown
      rw [e1] at hlc ⊢
      exact ⟨A, c, rfl, hlc, hown, hB⟩
end Go.Proofs.YtkokcdlgfemobaaGreatDoor
