/-
  The walk of DirtyNone. Conditions: the table of crc lies as the program's text lays it.
-/
import Derived.Test.YtcahpodmcklnbaaDoorDyKit
import Derived.Test.YtcahpodmcklnbaaDoorDyNo
namespace Go.Proofs.YtcahpodmcklnbaaDoor
open Go.RowKit Fix

def mapZ : List Value := [.pointer none, .int .i64 0, .pointer none, .int .u64 0]
def vNy : Value → Nat
  | .int _ q => q.toNat
  | _ => 0
/-- the variables of the statement: a map that nobody made, the list of both; a disk that nobody made, the list of both -/
def noY (w : World) : World := (((w.alloc (.cells mapZ.toArray 28)).alloc (.cells #[.pointer none, .pointer (some ⟨w.heap.size, 0, none⟩)] 23)).alloc (.cells #[.pointer none, .slice none 0 0, .map none, .int .i64 0, .int .i64 0, .bool false] 38)).alloc (.cells #[.pointer none, .pointer (some ⟨w.heap.size + 1 + 1, 0, none⟩)] 24)
theorem noY_facts (w : World) : BlkR 28 (noY w) w.heap.size mapZ ∧ BlkR 23 (noY w) (w.heap.size + 1) [.pointer none, .pointer (some ⟨w.heap.size, 0, none⟩)] ∧ NoDisk (noY w) (.pointer (some ⟨w.heap.size + 1 + 1, 0, none⟩)) ∧ BlkR 24 (noY w) (w.heap.size + 1 + 1 + 1) [.pointer none, .pointer (some ⟨w.heap.size + 1 + 1, 0, none⟩)] ∧ Below w.heap.size w (noY w) := by
  obtain ⟨w1, hw1⟩ : ∃ w1, w1 = w.alloc (.cells mapZ.toArray 28) := ⟨_, rfl⟩
  obtain ⟨w2, hw2⟩ : ∃ w2, w2 = w1.alloc (.cells #[.pointer none, .pointer (some ⟨w.heap.size, 0, none⟩)] 23) := ⟨_, rfl⟩
  obtain ⟨w3, hw3⟩ : ∃ w3, w3 = w2.alloc (.cells #[.pointer none, .slice none 0 0, .map none, .int .i64 0, .int .i64 0, .bool false] 38) := ⟨_, rfl⟩
  have hw4 : noY w = w3.alloc (.cells #[.pointer none, .pointer (some ⟨w.heap.size + 1 + 1, 0, none⟩)] 24) := by rw [hw3, hw2, hw1]; rfl
  have s1 : w1.heap.size = w.heap.size + 1 := by rw [hw1]; simp
  have s2 : w2.heap.size = w.heap.size + 1 + 1 := by rw [hw2]; simp [s1]
  have s3 : w3.heap.size = w.heap.size + 1 + 1 + 1 := by rw [hw3]; simp [s2]
  have B1 : Below w.heap.size w w1 := by rw [hw1]; exact (Below.refl _ _).alloc (Nat.le_refl _) _
  have B2 : Below w1.heap.size w1 w2 := by rw [hw2]; exact (Below.refl _ _).alloc (Nat.le_refl _) _
  have B3 : Below w2.heap.size w2 w3 := by rw [hw3]; exact (Below.refl _ _).alloc (Nat.le_refl _) _
  have B4 : Below w3.heap.size w3 (noY w) := by rw [hw4]; exact (Below.refl _ _).alloc (Nat.le_refl _) _
  have b1 : BlkR 28 w1 w.heap.size mapZ := by rw [hw1]; exact BlkR.new w _ _
  have b2 : BlkR 23 w2 w1.heap.size [.pointer none, .pointer (some ⟨w.heap.size, 0, none⟩)] := by rw [hw2]; exact BlkR.new w1 _ _
  have b3 : BlkR 38 w3 w2.heap.size [.pointer none, .slice none 0 0, .map none, .int .i64 0, .int .i64 0, .bool false] := by rw [hw3]; exact BlkR.new w2 _ _
  have b4 : BlkR 24 (noY w) w3.heap.size [.pointer none, .pointer (some ⟨w.heap.size + 1 + 1, 0, none⟩)] := by rw [hw4]; exact BlkR.new w3 _ _
  have b2 := (b2.step B3).step B4
  have b3 := b3.step B4
  rw [s1] at b2
  rw [s2] at b3
  rw [s3] at b4
  exact ⟨((b1.step B2).step B3).step B4, b2, .inr ⟨_, rfl, b3.cell rfl⟩, b4, step_trans B1 (step_trans B2 (step_trans B3 B4))⟩
set_option maxRecDepth 100000 in
set_option maxHeartbeats 2000000 in
theorem none_any (n v : Int) (w : World) (ht : TabAt w) : Calls Tryd.prog 3 #[.int .i64 n, .int .u64 v] w fun en w' => en = .returned (.bool true) ∧ Below w.heap.size w w' := by
  have zw := fun w t => awake_any w t
  have zo := fun (w : World) p (h : NoDisk w p) => mpOpen_no h n
  have zm := fun (w : World) p (h : NoDisk w p) => mpMake_no h n
  have zk := fun (w : World) p (h : NoMp w p) => mpMark_no h n
  have zg := fun (w : World) p (h : NoMp w p) => mpMerge_no h v
  have zc := fun (w : World) p (h : NoMp w p) => mpClear_no h v
  have zb := fun (w : World) p (h : NoMp w p) => mpBits_no h
  obtain ⟨W, hW⟩ : ∃ W, W = noY w := ⟨_, rfl⟩
  have hf := noY_facts w
  rw [← hW] at hf
  unfold noY mapZ at hW
  have HS := Lib.hid (mapZ_at hf.1)
  have HB := Lib.hid hf.2.2.2.2
  have HF := Lib.hid (And.intro hf.2.1 (And.intro hf.2.2.1 hf.2.2.2.1))
  have HT := Lib.hid (ht.below hf.2.2.2.2 (Nat.le_refl _))
  clear hf ht
  go_enter Tryd.func3, Tryd.ntmps3
  go_wp2
  rw [← hW]
  clear hW
  obtain ⟨h, hh⟩ : ∃ h, h = w.heap.size := ⟨_, rfl⟩
  rw [← hh] at HF HS ⊢
  clear hh
  go_loopw [7] (fun ix wr => ∃ i : Nat, i ≤ 2 ∧ ix = .int .i64 (i : Int) ∧ Below W.heap.size W wr) (fun ix _ => 2 - vNy ix)
  case atStart => exact ⟨0, by omega, rfl, Below.refl _ _⟩
  case round =>
    obtain ⟨i, hi, rfl, hbr⟩ := hrel
    by_cases h2 : i = 2
    · subst h2
      go_wp2_with (go_at_call 13; refine (zw wr (HT.out.below hbr (Nat.le_refl _))).mono ?_; (rintro e w2 ⟨rfl, hB2⟩))
      go_ret
      exact ⟨rfl, HB.out.trans ((step_trans hbr hB2).mono HB.out.size)⟩
    · obtain ⟨p, hp, hy⟩ : ∃ p, NoMp W p ∧ [Value.pointer none, .pointer (some ⟨h, 0, none⟩)][i]? = some p := by
        rcases (show i = 0 ∨ i = 1 by omega) with rfl | rfl
        · exact ⟨_, .inl rfl, rfl⟩
        · exact ⟨_, HS.out, rfl⟩
      obtain ⟨pd, hpd, hyd⟩ : ∃ p, NoDisk W p ∧ [Value.pointer none, .pointer (some ⟨h + 1 + 1, 0, none⟩)][i]? = some p := by
        rcases (show i = 0 ∨ i = 1 by omega) with rfl | rfl
        · exact ⟨_, .inl rfl, rfl⟩
        · exact ⟨_, HF.out.2.1, rfl⟩
      have KX : Hid (∀ w3, Below wr.heap.size wr w3 → NoMp w3 p ∧ NoDisk w3 pd ∧ w3.cell? ⟨h + 1, i, none⟩ = some p ∧ w3.cell? ⟨h + 1 + 1 + 1, i, none⟩ = some pd) := Lib.hid fun w3 hb => by
        have hb3 := step_trans hbr hb
        exact ⟨hp.step hb3, hpd.step hb3, (HF.out.1.step hb3).cell hy, (HF.out.2.2.step hb3).cell hyd⟩
      obtain ⟨pr, dr, yr, xr⟩ := KX.out wr (Below.refl _ _)
      have hi0 : (0 : Int) ≤ (i : Int) := by omega
      have hi2 : (i : Int) < 2 := by omega
      have hw1 : IntKind.i64.wrap ((i : Int) + 1) = (i : Int) + 1 := IntWalk.i64_in _ (by omega)
      have HBR := Lib.hid hbr
      clear hp hpd hy hyd h2 hbr
      go_wp2_with (first
        | (go_at_call 7; refine (zo wr pd dr).mono ?_; (rintro e w3 ⟨rfl, B3⟩; obtain ⟨p3, d3, y3, x3⟩ := KX.out w3 B3))
        | (go_at_call 8; refine (zk w3 p p3).mono ?_; (rintro e w' ⟨rfl, rfl⟩))
        | (go_at_call 9; refine (zg w3 p p3).mono ?_; (rintro e w' ⟨rfl, rfl⟩))
        | (go_at_call 10; refine (zc w3 p p3).mono ?_; (rintro e w' ⟨rfl, rfl⟩))
        | (go_at_call 11; refine (zb w3 p p3).mono ?_; (rintro e w' ⟨rfl, rfl⟩))
        | (go_at_call 12; refine (zm w3 pd d3).mono ?_; (rintro e w8 ⟨rfl, B8⟩; have C8 := step_trans B3 B8)))
      go_roundw
      case rel => exact ⟨i + 1, by omega, by go_num, step_trans HBR.out C8⟩
      case measure => simp [vNy]; omega
end Go.Proofs.YtcahpodmcklnbaaDoor
