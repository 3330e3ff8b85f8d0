/-
  The walk of JournalNone. Conditions: the table of crc lies as the program's text lays it; the bytes can be read.
-/
import Derived.Test.YtliiejdhbkmifaaDoorJnAwake
import Derived.Test.YtliiejdhbkmifaaDoorDiskAny
namespace Go.Proofs.YtliiejdhbkmifaaDoor
open Go.RowKit Fix

def vNj : Value → Nat
  | .int _ q => q.toNat
  | _ => 0
/-- the variables of the statement: the entry, a disk that nobody made, the list of both -/
def noJ (w : World) (e : Ent) (A : Option Addr) (c : Nat) : World := ((w.alloc (.cells (entL e A c).toArray 24)).alloc (.cells #[.pointer none, .slice none 0 0, .map none, .int .i64 0, .int .i64 0, .bool false] 66)).alloc (.cells #[.pointer none, .pointer (some ⟨w.heap.size + 1, 0, none⟩)] 38)
theorem noJ_facts (w : World) (e : Ent) (A : Option Addr) (c : Nat) : BlkR 24 (noJ w e A c) w.heap.size (entL e A c) ∧ NoDisk (noJ w e A c) (.pointer (some ⟨w.heap.size + 1, 0, none⟩)) ∧ BlkR 38 (noJ w e A c) (w.heap.size + 2) [.pointer none, .pointer (some ⟨w.heap.size + 1, 0, none⟩)] ∧ Below w.heap.size w (noJ w e A c) := by
  unfold noJ
  have s1 : (w.alloc (.cells (entL e A c).toArray 24)).heap.size = w.heap.size + 1 := by simp
  have s2 : ((w.alloc (.cells (entL e A c).toArray 24)).alloc (.cells #[.pointer none, .slice none 0 0, .map none, .int .i64 0, .int .i64 0, .bool false] 66)).heap.size = w.heap.size + 2 := by simp
  have b0 := (BlkR.new w (entL e A c) 24).step ((Below.refl _ _).alloc (Nat.le_refl _) (.cells #[.pointer none, .slice none 0 0, .map none, .int .i64 0, .int .i64 0, .bool false] 66))
  have b0 := b0.step ((Below.refl _ _).alloc (Nat.le_refl _) (.cells #[.pointer none, .pointer (some ⟨w.heap.size + 1, 0, none⟩)] 38))
  have b1 := (BlkR.new (w.alloc (.cells (entL e A c).toArray 24)) [.pointer none, .slice none 0 0, .map none, .int .i64 0, .int .i64 0, .bool false] 66).step ((Below.refl _ _).alloc (Nat.le_refl _) (.cells #[.pointer none, .pointer (some ⟨w.heap.size + 1, 0, none⟩)] 38))
  have b2 := BlkR.new ((w.alloc (.cells (entL e A c).toArray 24)).alloc (.cells #[.pointer none, .slice none 0 0, .map none, .int .i64 0, .int .i64 0, .bool false] 66)) [.pointer none, .pointer (some ⟨w.heap.size + 1, 0, none⟩)] 38
  rw [s1] at b1
  rw [s2] at b2
  exact ⟨b0, .inr ⟨_, rfl, b1.cell rfl⟩, b2, (((Below.refl _ _).alloc (Nat.le_refl _) _).alloc (by simp) _).alloc (by simp; omega) _⟩
set_option maxHeartbeats 1000000 in
theorem none_any (n : Int) (e : Ent) (A : Option Addr) (c : Nat) (w : World) (ht : TabAt w) (hr : BytesAt w w.heap.size A e.d) : Calls Tryd.prog 5 #[.int .i64 n, .agg (entL e A c).toArray] w fun en w' => en = .returned (.bool true) ∧ Below w.heap.size w w' := by
  have zw := fun w t => awake_any disks w t
  have zl := fun p w h => journalLast_no p n w h
  have zs := fun p w h t r => journalWrite_no p n e A c w h t r
  have ze := fun w => sameEntry_any Jn.zero none 0 Jn.zero none 0 w bytes_nil bytes_nil
  rw [Jn.same_self, entZ_eq] at ze
  obtain ⟨W, hW⟩ : ∃ W, W = noJ w e A c := ⟨_, rfl⟩
  have hf := noJ_facts w e A c
  rw [← hW] at hf
  unfold noJ at hW
  have HB := Lib.hid hf.2.2.2
  have HF := Lib.hid (And.intro hf.1 (And.intro hf.2.1 hf.2.2.1))
  have HT := Lib.hid (And.intro (ht.below hf.2.2.2 (Nat.le_refl _)) (hr.step hf.2.2.2))
  obtain ⟨b, k, d⟩ := e
  obtain ⟨m, hm⟩ : ∃ m, m = d.length := ⟨_, rfl⟩
  unfold entL at hW zs ⊢
  unfold entZ at ze
  replace HF : Hid (BlkR 24 W w.heap.size [.int .i64 b, .int .i64 k, .slice A m c] ∧ NoDisk W (.pointer (some ⟨w.heap.size + 1, 0, none⟩)) ∧ BlkR 38 W (w.heap.size + 2) [.pointer none, .pointer (some ⟨w.heap.size + 1, 0, none⟩)]) := by rw [hm]; exact HF
  simp only [← hm] at hW zs ⊢
  clear hf ht hr hm
  go_enter Tryd.func5, Tryd.ntmps5
  go_wp2
  rw [← hW]
  clear hW
  obtain ⟨h, hh⟩ : ∃ h, h = w.heap.size := ⟨_, rfl⟩
  have HH := Lib.hid hh
  rw [← hh] at HF ⊢
  clear hh
  go_loopw [6] (fun ix wr => ∃ i : Nat, i ≤ 2 ∧ ix = .int .i64 (i : Int) ∧ Below W.heap.size W wr) (fun ix _ => 2 - vNj ix)
  case atStart => exact ⟨0, by omega, rfl, Below.refl _ _⟩
  case round =>
    obtain ⟨i, hi, rfl, hbr⟩ := hrel
    by_cases h2 : i = 2
    · subst h2
      go_wp2_with (go_at_call 19; refine (zw wr (HT.out.1.below hbr (Nat.le_refl _))).mono ?_; (rintro e w2 ⟨rfl, hB2⟩))
      go_ret
      exact ⟨rfl, HB.out.trans ((step_trans hbr hB2).mono HB.out.size)⟩
    · obtain ⟨p, hp, hy⟩ : ∃ p, NoDisk W p ∧ [Value.pointer none, .pointer (some ⟨h + 1, 0, none⟩)][i]? = some p := by
        rcases (show i = 0 ∨ i = 1 by omega) with rfl | rfl
        · exact ⟨_, .inl rfl, rfl⟩
        · exact ⟨_, HF.out.2.1, rfl⟩
      have KX : Hid (∀ w3, Below wr.heap.size wr w3 → NoDisk w3 p ∧ w3.cell? ⟨h + 1 + 1, i, none⟩ = some p ∧ (w3.cell? ⟨h, 0, none⟩ = some (.int .i64 b) ∧ w3.cell? ⟨h, 1, none⟩ = some (.int .i64 k) ∧ w3.cell? ⟨h, 2, none⟩ = some (.slice A m c))) := Lib.hid fun w3 hb => by
        have hb3 := step_trans hbr hb
        have hx := HF.out.1.step hb3
        exact ⟨hp.step hb3, (HF.out.2.2.step hb3).cell hy, hx.cell rfl, hx.cell rfl, hx.cell rfl⟩
      obtain ⟨pr, yr, _⟩ := KX.out wr (Below.refl _ _)
      have hi2 : (i : Int) < 2 := by omega
      have hw1 : IntKind.i64.wrap ((i : Int) + 1) = (i : Int) + 1 := IntWalk.i64_in _ (by omega)
      have HBR := Lib.hid hbr
      clear hp hy h2 hbr
      go_wp2_with (first
        | (go_at_call 26; refine (zl p wr pr).mono ?_; (rintro e w3 ⟨rfl, B3⟩))
        | ((with_reducible refine atWorld w3 ?_); refine wpList_allocRow (w := w3) entTy rfl rfl ?_; (intro w4 b4 B4 s4; have b4 := Lib.hid b4))
        | ((with_reducible refine atWorld w4 ?_); refine wpList_storeRow (w := w4) entTy rfl (.tmp 7) (.tmp 25) rfl w3.heap.size entZ entZ rfl rfl rfl rfl (ent_one Jn.zero none 0) b4.out ?_; (intro w5 b5 B5 s5 k5; have C5 : Below wr.heap.size wr w5 := (step_trans B3 B4).trans (B5.mono B3.size))))
      have SX : Hid (∀ w', Below w5.heap.size w5 w' → w'.cell? ⟨h + 1 + 1, i, none⟩ = some p ∧ w'.cell? ⟨h, 0, none⟩ = some (.int .i64 b) ∧ w'.cell? ⟨h, 1, none⟩ = some (.int .i64 k) ∧ w'.cell? ⟨h, 2, none⟩ = some (.slice A m c) ∧ w'.cell? ⟨w3.heap.size, 0, none⟩ = some (.int .i64 0) ∧ w'.cell? ⟨w3.heap.size, 1, none⟩ = some (.int .i64 0) ∧ w'.cell? ⟨w3.heap.size, 2, none⟩ = some (.slice none 0 0)) := Lib.hid fun w' hb => by
        obtain ⟨_, q1, q2, q3, q4⟩ := KX.out w' (step_trans C5 hb)
        exact ⟨q1, q2, q3, q4, (b5.step hb).cell rfl, (b5.step hb).cell rfl, (b5.step hb).cell rfl⟩
      have NX : Hid (∀ w', Below w5.heap.size w5 w' → NoDisk w' p ∧ TabAt w' ∧ BytesAt w' w'.heap.size A d) := Lib.hid fun w' hb => ⟨(KX.out w' (step_trans C5 hb)).1, HT.out.1.below (step_trans HBR.out (step_trans C5 hb)) (Nat.le_refl _), HT.out.2.step (step_trans HBR.out (step_trans C5 hb))⟩
      have HC := Lib.hid C5
      have D := (Below.refl w5.heap.size w5).drew
      clear C5 B3 B5 b4 b5 B4 s4 s5 k5 pr yr zl KX
      go_region_held3 (fun w' => w'.cell? ⟨h + 1 + 1, i, none⟩ = some p ∧ w'.cell? ⟨h, 0, none⟩ = some (.int .i64 b) ∧ w'.cell? ⟨h, 1, none⟩ = some (.int .i64 k) ∧ w'.cell? ⟨h, 2, none⟩ = some (.slice A m c) ∧ w'.cell? ⟨w3.heap.size, 0, none⟩ = some (.int .i64 0) ∧ w'.cell? ⟨w3.heap.size, 1, none⟩ = some (.int .i64 0) ∧ w'.cell? ⟨w3.heap.size, 2, none⟩ = some (.slice none 0 0)) (first | assumption | exact SX.out _ D) (first
        | (go_at_call 16; refine (ze _).mono ?_; (rintro e wa ⟨rfl, Ba⟩; have D := step_trans D Ba))
        | (go_at_call 24; refine (zs p _ (NX.out _ D).1 (NX.out _ D).2.1 (NX.out _ D).2.2).mono ?_; (rintro e wa ⟨rfl, Ba⟩; have D := step_trans D Ba)))
      go_wp2
      go_roundw
      case rel => exact ⟨i + 1, by omega, by go_num, step_trans HBR.out (step_trans HC.out D)⟩
      case measure => simp [vNj]; omega
end Go.Proofs.YtliiejdhbkmifaaDoor
