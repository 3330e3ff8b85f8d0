/-
  The walk of SessionNone. Conditions: the table of crc lies as the program's text lays it.
-/
import Derived.Test.YtccghodmcfkmmaaDoorSsNo
import Derived.Test.YtccghodmcfkmmaaDoorSsAwake
namespace Go.Proofs.YtccghodmcfkmmaaDoor
open Go.RowKit Fix

def sesZ : Array Value := #[.pointer none, .int .i64 0, .int .i64 0, .int .i64 0, .slice none 0 0, .int .i64 0, .slice none 0 0, .int .i64 0, .slice none 0 0, .int .i64 0, .slice none 0 0, .int .i64 0, .slice none 0 0, .int .i64 0, .slice none 0 0, .int .i64 0, .slice none 0 0, .int .i64 0, .slice none 0 0, .int .i64 0, .slice none 0 0, .int .i64 0, .slice none 0 0, .int .i64 0, .slice none 0 0, .int .i64 0, .slice none 0 0, .int .i64 0, .slice none 0 0, .int .i64 0, .slice none 0 0, .int .i64 0, .slice none 0 0, .int .i64 0, .slice none 0 0, .int .i64 0, .int .i64 0, .int .i64 0, .int .i64 0, .int .u64 0]
def vNs : Value → Nat
  | .int _ q => q.toNat
  | _ => 0
/-- the variables of the statement: a session that nobody made, the list of both -/
def noS (w : World) : World := (w.alloc (.cells sesZ 57)).alloc (.cells #[.pointer none, .pointer (some ⟨w.heap.size, 0, none⟩)] 24)
theorem noS_facts (w : World) : NoSes (noS w) (.pointer (some ⟨w.heap.size, 0, none⟩)) ∧ BlkR 24 (noS w) (w.heap.size + 1) [.pointer none, .pointer (some ⟨w.heap.size, 0, none⟩)] ∧ Below w.heap.size w (noS w) := by
  obtain ⟨w1, hw1⟩ : ∃ w1, w1 = w.alloc (.cells sesZ 57) := ⟨_, rfl⟩
  have hw2 : noS w = w1.alloc (.cells #[.pointer none, .pointer (some ⟨w.heap.size, 0, none⟩)] 24) := by rw [hw1]; rfl
  have s1 : w1.heap.size = w.heap.size + 1 := by rw [hw1]; simp
  have B1 : Below w.heap.size w w1 := by rw [hw1]; exact (Below.refl _ _).alloc (Nat.le_refl _) _
  have B2 : Below w1.heap.size w1 (noS w) := by rw [hw2]; exact (Below.refl _ _).alloc (Nat.le_refl _) _
  have b1 : BlkR 57 w1 w.heap.size sesZ.toList := by rw [hw1]; exact BlkR.new w sesZ.toList _
  have b2 : BlkR 24 (noS w) w1.heap.size [.pointer none, .pointer (some ⟨w.heap.size, 0, none⟩)] := by rw [hw2]; exact BlkR.new w1 _ _
  rw [s1] at b2
  exact ⟨.inr ⟨_, rfl, (BlkR.below b1 B2 b1.lt).cell rfl⟩, b2, step_trans B1 B2⟩
set_option maxRecDepth 100000 in
set_option maxHeartbeats 2000000 in
theorem none_any (A : Option Addr) (n c : Nat) (w : World) (ht : TabAt w) : Calls Tryd.prog 4 #[.slice A n c] w fun en w' => en = .returned (.bool true) ∧ Below w.heap.size w w' := by
  by_cases h300 : 300 < n
  · have i1 : decide ((300 : Int) < (n : Int)) = true := by simp; omega
    have za := awake_any w ht
    clear ht
    go_enter Tryd.func4, Tryd.ntmps4
    go_wp2_with (go_at_call 12; refine za.mono ?_; (rintro e w2 ⟨rfl, hB2⟩))
    go_ret
    exact ⟨rfl, hB2⟩
  have i1 : decide ((300 : Int) < (n : Int)) = false := by simp; omega
  have zw := fun w t => awake_any w t
  have zs := fun (w : World) p (h : NoSes w p) => send_no h (.slice A n c)
  have za := fun (w : World) p (h : NoSes w p) => ack_no h
  have zr := fun (w : World) p (h : NoSes w p) => receive_no h (.slice A n c)
  have zn := fun (w : World) p (h : NoSes w p) => resend_no h
  have zb := fun (w : World) p (h : NoSes w p) => boot_no h
  have zo := fun (w : World) p (h : NoSes w p) => other_no h
  have zt := fun (w : World) p (h : NoSes w p) => waiting_no h
  obtain ⟨W, hW⟩ : ∃ W, W = noS w := ⟨_, rfl⟩
  have hf := noS_facts w
  rw [← hW] at hf
  unfold noS sesZ at hW
  have HS := Lib.hid hf.1
  have HB := Lib.hid hf.2.2
  have HF := Lib.hid hf.2.1
  have HT := Lib.hid (ht.below hf.2.2 (Nat.le_refl _))
  clear hf ht h300
  go_enter Tryd.func4, Tryd.ntmps4
  go_wp2
  rw [← hW]
  clear hW
  obtain ⟨h, hh⟩ : ∃ h, h = w.heap.size := ⟨_, rfl⟩
  rw [← hh] at HF HS ⊢
  clear hh
  go_loopw [4] (fun ix wr => ∃ i : Nat, i ≤ 2 ∧ ix = .int .i64 (i : Int) ∧ Below W.heap.size W wr) (fun ix _ => 2 - vNs ix)
  case atStart => exact ⟨0, by omega, rfl, Below.refl _ _⟩
  case round =>
    obtain ⟨i, hi, rfl, hbr⟩ := hrel
    by_cases h2 : i = 2
    · subst h2
      go_wp2_with (go_at_call 12; refine (zw wr (HT.out.below hbr (Nat.le_refl _))).mono ?_; (rintro e w2 ⟨rfl, hB2⟩))
      go_ret
      exact ⟨rfl, HB.out.trans ((step_trans hbr hB2).mono HB.out.size)⟩
    · obtain ⟨p, hp, hy⟩ : ∃ p, NoSes W p ∧ [Value.pointer none, .pointer (some ⟨h, 0, none⟩)][i]? = some p := by
        rcases (show i = 0 ∨ i = 1 by omega) with rfl | rfl
        · exact ⟨_, .inl rfl, rfl⟩
        · exact ⟨_, HS.out, rfl⟩
      have yr : wr.cell? ⟨h + 1, i, none⟩ = some p := (BlkR.below HF.out hbr HF.out.lt).cell hy
      have pr := hp.step hbr
      have hi0 : (0 : Int) ≤ (i : Int) := by omega
      have hi2 : (i : Int) < 2 := by omega
      have hw1 : IntKind.i64.wrap ((i : Int) + 1) = (i : Int) + 1 := IntWalk.i64_in _ (by omega)
      have HBR := Lib.hid hbr
      clear hp hy h2 hbr
      go_wp2_with (first
        | (go_at_call 17; refine (zs wr p pr).mono ?_; (rintro e w' ⟨rfl, rfl⟩))
        | (go_at_call 18; refine (za wr p pr).mono ?_; (rintro e w' ⟨rfl, rfl⟩))
        | (go_at_call 19; refine (zr wr p pr).mono ?_; (rintro e w3 ⟨rfl, rfl⟩))
        | (go_at_call 20; refine (zn wr p pr).mono ?_; (rintro e w4 ⟨rfl, C4⟩; have p4 := pr.step C4))
        | (go_at_call 14; refine (zb w4 p p4).mono ?_; (rintro e w' ⟨rfl, rfl⟩))
        | (go_at_call 15; refine (zo w4 p p4).mono ?_; (rintro e w' ⟨rfl, rfl⟩))
        | (go_at_call 16; refine (zt w4 p p4).mono ?_; (rintro e w' ⟨rfl, rfl⟩)))
      go_roundw
      case rel => exact ⟨i + 1, by omega, by go_num, step_trans HBR.out C4⟩
      case measure => simp [vNs]; omega
end Go.Proofs.YtccghodmcfkmmaaDoor
