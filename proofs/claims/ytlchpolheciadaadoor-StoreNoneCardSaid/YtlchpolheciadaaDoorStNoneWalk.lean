/-
  The walk of StoreNone. Conditions: a disk's methods and a store's do what the document says; the table of crc lies as the program's text lays it.
-/
import Derived.Test.YtlchpolheciadaaDoorStAwake
import Derived.Test.YtlchpolheciadaaDoorStNone
import Derived.Test.YtlchpolheciadaaDoorStLie
namespace Go.Proofs.YtlchpolheciadaaDoor
open Go.RowKit Fix

def vNs : Value → Nat
  | .int _ q => q.toNat
  | _ => 0
/-- the variables of the statement: a store that nobody made, the list of both; a disk that nobody made, the list of both -/
def noS (w : World) : World := (((w.alloc (.cells stZ.toArray 27)).alloc (.cells #[.pointer none, .pointer (some ⟨w.heap.size, 0, none⟩)] 24)).alloc (.cells #[.pointer none, .slice none 0 0, .map none, .int .i64 0, .int .i64 0, .bool false] 37)).alloc (.cells #[.pointer none, .pointer (some ⟨w.heap.size + 1 + 1, 0, none⟩)] 25)
theorem noS_facts (w : World) : BlkR 27 (noS w) w.heap.size stZ ∧ BlkR 24 (noS w) (w.heap.size + 1) [.pointer none, .pointer (some ⟨w.heap.size, 0, none⟩)] ∧ NoDisk (noS w) (.pointer (some ⟨w.heap.size + 1 + 1, 0, none⟩)) ∧ BlkR 25 (noS w) (w.heap.size + 1 + 1 + 1) [.pointer none, .pointer (some ⟨w.heap.size + 1 + 1, 0, none⟩)] ∧ Below w.heap.size w (noS w) := by
  obtain ⟨w1, hw1⟩ : ∃ w1, w1 = w.alloc (.cells stZ.toArray 27) := ⟨_, rfl⟩
  obtain ⟨w2, hw2⟩ : ∃ w2, w2 = w1.alloc (.cells #[.pointer none, .pointer (some ⟨w.heap.size, 0, none⟩)] 24) := ⟨_, rfl⟩
  obtain ⟨w3, hw3⟩ : ∃ w3, w3 = w2.alloc (.cells #[.pointer none, .slice none 0 0, .map none, .int .i64 0, .int .i64 0, .bool false] 37) := ⟨_, rfl⟩
  have hw4 : noS w = w3.alloc (.cells #[.pointer none, .pointer (some ⟨w.heap.size + 1 + 1, 0, none⟩)] 25) := by rw [hw3, hw2, hw1]; rfl
  have s1 : w1.heap.size = w.heap.size + 1 := by rw [hw1]; simp
  have s2 : w2.heap.size = w.heap.size + 1 + 1 := by rw [hw2]; simp [s1]
  have s3 : w3.heap.size = w.heap.size + 1 + 1 + 1 := by rw [hw3]; simp [s2]
  have B1 : Below w.heap.size w w1 := by rw [hw1]; exact (Below.refl _ _).alloc (Nat.le_refl _) _
  have B2 : Below w1.heap.size w1 w2 := by rw [hw2]; exact (Below.refl _ _).alloc (Nat.le_refl _) _
  have B3 : Below w2.heap.size w2 w3 := by rw [hw3]; exact (Below.refl _ _).alloc (Nat.le_refl _) _
  have B4 : Below w3.heap.size w3 (noS w) := by rw [hw4]; exact (Below.refl _ _).alloc (Nat.le_refl _) _
  have b1 : BlkR 27 w1 w.heap.size stZ := by rw [hw1]; exact BlkR.new w _ _
  have b2 : BlkR 24 w2 w1.heap.size [.pointer none, .pointer (some ⟨w.heap.size, 0, none⟩)] := by rw [hw2]; exact BlkR.new w1 _ _
  have b3 : BlkR 37 w3 w2.heap.size [.pointer none, .slice none 0 0, .map none, .int .i64 0, .int .i64 0, .bool false] := by rw [hw3]; exact BlkR.new w2 _ _
  have b4 : BlkR 25 (noS w) w3.heap.size [.pointer none, .pointer (some ⟨w.heap.size + 1 + 1, 0, none⟩)] := by rw [hw4]; exact BlkR.new w3 _ _
  have b2 := (b2.step B3).step B4
  have b3 := b3.step B4
  rw [s1] at b2
  rw [s2] at b3
  rw [s3] at b4
  exact ⟨((b1.step B2).step B3).step B4, b2, .inr ⟨_, rfl, b3.cell rfl⟩, b4, step_trans B1 (step_trans B2 (step_trans B3 B4))⟩
section
variable {At : World → Nat → (Nat → Prop) → DS → Prop} {SAt : World → Nat → (Nat → Prop) → Nat → StM → Prop} {NS : World → Value → Prop} (D : Disks Tryd.prog At) (T : Stores At SAt) (N : NoStores stZ NS)
include D T N
set_option maxRecDepth 100000 in
set_option maxHeartbeats 2000000 in
theorem storeNone_any (a n : Int) (A : Option Addr) (m c : Nat) (w : World) (ht : TabAt w) : Calls Tryd.prog 3 #[.int .i64 a, .int .i64 n, .slice A m c] w fun en w' => en = .returned (.bool true) ∧ Below w.heap.size w w' := by
  have zw := fun w t => awake9_any D T w t
  by_cases hm : 100 < m
  · have hm1 : (100 : Int) < (m : Int) := by omega
    clear hm
    go_enter Tryd.func3, Tryd.ntmps3
    go_wp2_with (go_at_call 8; refine (zw w ht).mono ?_; (rintro e w2 ⟨rfl, B2⟩))
    go_ret
    exact ⟨rfl, B2⟩
  · have hm1 : ¬ (100 : Int) < (m : Int) := by omega
    clear hm
    have zg := fun w p h => N.get w p n h
    have zp := fun w p h => N.put w p n A m c h
    have zb := N.blocks
    have zn := N.number
    have zm := fun w p h => N.make_ w p a n h
    have zo := fun w p h => N.open_ w p a n h
    obtain ⟨W, hW⟩ : ∃ W, W = noS w := ⟨_, rfl⟩
    have hf := noS_facts w
    rw [← hW] at hf
    unfold noS stZ at hW
    have HS := Lib.hid (And.intro (N.zero _ _ hf.1) (And.intro (N.nil W) N.step))
    have HB := Lib.hid hf.2.2.2.2
    have HF := Lib.hid (And.intro hf.2.1 (And.intro hf.2.2.1 hf.2.2.2.1))
    have HT := Lib.hid (ht.below hf.2.2.2.2 (Nat.le_refl _))
    clear hf ht
    go_enter Tryd.func3, Tryd.ntmps3
    go_wp2
    rw [← hW]
    clear hW
    obtain ⟨h, hh⟩ : ∃ h, h = w.heap.size := ⟨_, rfl⟩
    rw [← hh] at HF HS ⊢
    clear hh
    go_loopw [9] (fun ix wr => ∃ i : Nat, i ≤ 2 ∧ ix = .int .i64 (i : Int) ∧ Below W.heap.size W wr) (fun ix _ => 2 - vNs ix)
    case atStart => exact ⟨0, by omega, rfl, Below.refl _ _⟩
    case round =>
      obtain ⟨i, hi, rfl, hbr⟩ := hrel
      by_cases h2 : i = 2
      · subst h2
        go_wp2_with (go_at_call 8; refine (zw wr (HT.out.below hbr (Nat.le_refl _))).mono ?_; (rintro e w2 ⟨rfl, hB2⟩))
        go_ret
        exact ⟨rfl, HB.out.trans ((step_trans hbr hB2).mono HB.out.size)⟩
      · obtain ⟨p, hp, hy⟩ : ∃ p, NS W p ∧ [Value.pointer none, .pointer (some ⟨h, 0, none⟩)][i]? = some p := by
          rcases (show i = 0 ∨ i = 1 by omega) with rfl | rfl
          · exact ⟨_, HS.out.2.1, rfl⟩
          · exact ⟨_, HS.out.1, rfl⟩
        obtain ⟨pd, hpd, hyd⟩ : ∃ p, NoDisk W p ∧ [Value.pointer none, .pointer (some ⟨h + 1 + 1, 0, none⟩)][i]? = some p := by
          rcases (show i = 0 ∨ i = 1 by omega) with rfl | rfl
          · exact ⟨_, .inl rfl, rfl⟩
          · exact ⟨_, HF.out.2.1, rfl⟩
        have KX : Hid (∀ w3, Below wr.heap.size wr w3 → NS w3 p ∧ NoDisk w3 pd ∧ w3.cell? ⟨h + 1, i, none⟩ = some p ∧ w3.cell? ⟨h + 1 + 1 + 1, i, none⟩ = some pd) := Lib.hid fun w3 hb => by
          have hb3 := step_trans hbr hb
          exact ⟨HS.out.2.2 _ _ _ hp hb3, hpd.step hb3, (HF.out.1.step hb3).cell hy, (HF.out.2.2.step hb3).cell hyd⟩
        obtain ⟨pr, dr, yr, xr⟩ := KX.out wr (Below.refl _ _)
        have hi0 : (0 : Int) ≤ (i : Int) := by omega
        have hi2 : (i : Int) < 2 := by omega
        have hw1 : IntKind.i64.wrap ((i : Int) + 1) = (i : Int) + 1 := IntWalk.i64_in _ (by omega)
        have HBR := Lib.hid hbr
        clear hp hpd hy hyd h2 hbr
        go_wp2_with (first
          | (go_at_call 9; refine (zg wr p pr).mono ?_; (rintro e w3 ⟨rfl, B3⟩; obtain ⟨p3, d3, y3, x3⟩ := KX.out w3 B3))
          | (go_at_call 10; refine (zo w3 pd d3).mono ?_; (rintro e w4 ⟨rfl, B4⟩; have C4 := step_trans B3 B4; obtain ⟨p4, d4, y4, x4⟩ := KX.out w4 C4))
          | (go_at_call 11; refine (zp w4 p p4).mono ?_; (rintro e w5 ⟨rfl, B5⟩; have C5 := step_trans C4 B5; obtain ⟨p5, d5, y5, x5⟩ := KX.out w5 C5))
          | (go_at_call 12; refine (zb w5 p p5).mono ?_; (rintro e w6 ⟨rfl, B6⟩; have C6 := step_trans C5 B6; obtain ⟨p6, d6, y6, x6⟩ := KX.out w6 C6))
          | (go_at_call 13; refine (zn w6 p p6).mono ?_; (rintro e w7 ⟨rfl, B7⟩; have C7 := step_trans C6 B7; obtain ⟨p7, d7, y7, x7⟩ := KX.out w7 C7))
          | (go_at_call 14; refine (zm w7 pd d7).mono ?_; (rintro e w8 ⟨rfl, B8⟩; have C8 := step_trans C7 B8)))
        go_roundw
        case rel => exact ⟨i + 1, by omega, by go_num, step_trans HBR.out C8⟩
        case measure => simp [vNs]; omega
end
end Go.Proofs.YtlchpolheciadaaDoor
