/-
  The walk of MetaNone. Conditions: none.
-/
import Derived.Test.YtebicjblplkdeaaDoorMetaDisk
import Derived.Test.YtebicjblplkdeaaDoorMetaAwake
namespace Go.Proofs.YtebicjblplkdeaaDoor
open Go.RowKit Fix

def vNm : Value → Nat
  | .int _ q => q.toNat
  | _ => 0
/-- the variables of the statement: the meta, a disk that nobody made, the list of both -/
def noW (w : World) (m : Mt) : World := ((w.alloc (.cells (mtL m).toArray 25)).alloc (.cells #[.pointer none, .slice none 0 0, .map none, .int .i64 0, .int .i64 0, .bool false] 35)).alloc (.cells #[.pointer none, .pointer (some ⟨w.heap.size + 1, 0, none⟩)] 26)
theorem noW_facts (w : World) (m : Mt) : BlkR 25 (noW w m) w.heap.size (mtL m) ∧ NoDisk (noW w m) (.pointer (some ⟨w.heap.size + 1, 0, none⟩)) ∧ BlkR 26 (noW w m) (w.heap.size + 2) [.pointer none, .pointer (some ⟨w.heap.size + 1, 0, none⟩)] ∧ Below w.heap.size w (noW w m) := by
  unfold noW
  have s1 : (w.alloc (.cells (mtL m).toArray 25)).heap.size = w.heap.size + 1 := by simp
  have s2 : ((w.alloc (.cells (mtL m).toArray 25)).alloc (.cells #[.pointer none, .slice none 0 0, .map none, .int .i64 0, .int .i64 0, .bool false] 35)).heap.size = w.heap.size + 2 := by simp
  have b0 := (BlkR.new w (mtL m) 25).go ((Below.refl _ _).alloc (Nat.le_refl _) (.cells #[.pointer none, .slice none 0 0, .map none, .int .i64 0, .int .i64 0, .bool false] 35))
  have b0 := b0.go ((Below.refl _ _).alloc (Nat.le_refl _) (.cells #[.pointer none, .pointer (some ⟨w.heap.size + 1, 0, none⟩)] 26))
  have b1 := (BlkR.new (w.alloc (.cells (mtL m).toArray 25)) [.pointer none, .slice none 0 0, .map none, .int .i64 0, .int .i64 0, .bool false] 35).go ((Below.refl _ _).alloc (Nat.le_refl _) (.cells #[.pointer none, .pointer (some ⟨w.heap.size + 1, 0, none⟩)] 26))
  have b2 := BlkR.new ((w.alloc (.cells (mtL m).toArray 25)).alloc (.cells #[.pointer none, .slice none 0 0, .map none, .int .i64 0, .int .i64 0, .bool false] 35)) [.pointer none, .pointer (some ⟨w.heap.size + 1, 0, none⟩)] 26
  rw [s1] at b1
  rw [s2] at b2
  exact ⟨b0, .inr ⟨_, rfl, b1.cell rfl⟩, b2, (((Below.refl _ _).alloc (Nat.le_refl _) _).alloc (by simp) _).alloc (by simp; omega) _⟩
set_option maxHeartbeats 1000000 in
theorem none_any (n : Int) (m : Mt) (w : World) : Calls Tryd.prog 3 #[.int .i64 n, .agg (mtL m).toArray] w fun e w' => e = .returned (.bool true) ∧ Below w.heap.size w w' := by
  have zw := fun w => awake_any w
  have zl := fun p w h => metaLoad_no p n w h
  have zs := fun p w h => metaSave_no p n m w h
  unfold MtLd at zl
  obtain ⟨W, hW⟩ : ∃ W, W = noW w m := ⟨_, rfl⟩
  have hf := noW_facts w m
  rw [← hW] at hf
  unfold noW at hW
  have HB := Lib.hid hf.2.2.2
  have HF := Lib.hid (And.intro hf.1 (And.intro hf.2.1 hf.2.2.1))
  clear hf
  go_enter Tryd.func3, Tryd.ntmps3
  go_wp2
  rw [← hW]
  clear hW
  obtain ⟨h, hh⟩ : ∃ h, h = w.heap.size := ⟨_, rfl⟩
  have HH := Lib.hid hh
  rw [← hh] at HF ⊢
  clear hh
  go_loopw [6] (fun ix wr => ∃ i : Nat, i ≤ 2 ∧ ix = .int .i64 (i : Int) ∧ Below W.heap.size W wr) (fun ix _ => 2 - vNm ix)
  case atStart => exact ⟨0, by omega, rfl, Below.refl _ _⟩
  case round =>
    obtain ⟨i, hi, rfl, hbr⟩ := hrel
    by_cases h2 : i = 2
    · subst h2
      go_wp2_with (go_at_call 8; refine (zw wr).mono ?_; (rintro e w2 ⟨rfl, hB2⟩))
      go_ret
      exact ⟨rfl, HB.out.trans ((step_trans hbr hB2).mono HB.out.size)⟩
    · obtain ⟨p, hp, hy⟩ : ∃ p, NoDisk W p ∧ [Value.pointer none, .pointer (some ⟨h + 1, 0, none⟩)][i]? = some p := by
        rcases (show i = 0 ∨ i = 1 by omega) with rfl | rfl
        · exact ⟨_, .inl rfl, rfl⟩
        · exact ⟨_, HF.out.2.1, rfl⟩
      have KX : Hid (∀ w3, Below wr.heap.size wr w3 → NoDisk w3 p ∧ w3.cell? ⟨h + 1 + 1, i, none⟩ = some p ∧ (w3.cell? ⟨h, 0, none⟩ = some (.int .i64 m.t) ∧ w3.cell? ⟨h, 1, none⟩ = some (.int .i64 m.v) ∧ w3.cell? ⟨h, 2, none⟩ = some (.int .i64 m.rt) ∧ w3.cell? ⟨h, 3, none⟩ = some (.int .i64 m.rn) ∧ w3.cell? ⟨h, 4, none⟩ = some (.int .i64 m.rs) ∧ w3.cell? ⟨h, 5, none⟩ = some (.int .i64 m.b))) := Lib.hid fun w3 hb => by
        have hb3 := step_trans hbr hb
        exact ⟨hp.step hb3, (HF.out.2.2.go hb3).cell hy, mt_cells (HF.out.1.go hb3)⟩
      obtain ⟨pr, yr, _⟩ := KX.out wr (Below.refl _ _)
      have hi2 : (i : Int) < 2 := by omega
      have hw1 : IntKind.i64.wrap ((i : Int) + 1) = (i : Int) + 1 := IntWalk.i64_in _ (by omega)
      have HBR := Lib.hid hbr
      clear hp hy h2 hbr
      go_wp2_with (first
        | (go_at_call 6; refine (zl p wr pr).mono ?_; (rintro e w3 ⟨rfl, B3⟩))
        | ((with_reducible refine atWorld w3 ?_); refine wpList_allocRow (w := w3) metaTy rfl rfl ?_; (intro w4 b4 B4 s4; have b4 := Lib.hid b4))
        | ((with_reducible refine atWorld w4 ?_); refine wpList_storeRow (w := w4) metaTy rfl (.tmp 7) (.tmp 25) rfl w3.heap.size (mtL Mt.zero) (mtL Mt.zero) rfl rfl rfl rfl (mtL_one _) b4.out ?_; (intro w5 b5 B5 s5 k5; have C5 : Below wr.heap.size wr w5 := (step_trans B3 B4).trans (B5.mono B3.size))))
      have SX : Hid (∀ w', Below w5.heap.size w5 w' → w'.cell? ⟨h + 1 + 1, i, none⟩ = some p ∧ w'.cell? ⟨h, 0, none⟩ = some (.int .i64 m.t) ∧ w'.cell? ⟨h, 1, none⟩ = some (.int .i64 m.v) ∧ w'.cell? ⟨h, 2, none⟩ = some (.int .i64 m.rt) ∧ w'.cell? ⟨h, 3, none⟩ = some (.int .i64 m.rn) ∧ w'.cell? ⟨h, 4, none⟩ = some (.int .i64 m.rs) ∧ w'.cell? ⟨h, 5, none⟩ = some (.int .i64 m.b) ∧ w'.cell? ⟨w3.heap.size, 0, none⟩ = some (.int .i64 0) ∧ w'.cell? ⟨w3.heap.size, 1, none⟩ = some (.int .i64 0) ∧ w'.cell? ⟨w3.heap.size, 2, none⟩ = some (.int .i64 0) ∧ w'.cell? ⟨w3.heap.size, 3, none⟩ = some (.int .i64 0) ∧ w'.cell? ⟨w3.heap.size, 4, none⟩ = some (.int .i64 0) ∧ w'.cell? ⟨w3.heap.size, 5, none⟩ = some (.int .i64 0)) := Lib.hid fun w' hb => by
        obtain ⟨_, q1, q2⟩ := KX.out w' (step_trans C5 hb)
        obtain ⟨u0, u1, u2, u3, u4, u5⟩ := mt_cells (b5.go hb)
        exact ⟨q1, q2.1, q2.2.1, q2.2.2.1, q2.2.2.2.1, q2.2.2.2.2.1, q2.2.2.2.2.2, u0, u1, u2, u3, u4, u5⟩
      have NX : Hid (∀ w', Below w5.heap.size w5 w' → NoDisk w' p) := Lib.hid fun w' hb => (KX.out w' (step_trans C5 hb)).1
      have HC := Lib.hid C5
      have D := (Below.refl w5.heap.size w5).drew
      clear C5 B3 B5 b4 b5 B4 s4 s5 k5 pr yr zl KX
      go_region_held3 (fun w' => w'.cell? ⟨h + 1 + 1, i, none⟩ = some p ∧ w'.cell? ⟨h, 0, none⟩ = some (.int .i64 m.t) ∧ w'.cell? ⟨h, 1, none⟩ = some (.int .i64 m.v) ∧ w'.cell? ⟨h, 2, none⟩ = some (.int .i64 m.rt) ∧ w'.cell? ⟨h, 3, none⟩ = some (.int .i64 m.rn) ∧ w'.cell? ⟨h, 4, none⟩ = some (.int .i64 m.rs) ∧ w'.cell? ⟨h, 5, none⟩ = some (.int .i64 m.b) ∧ w'.cell? ⟨w3.heap.size, 0, none⟩ = some (.int .i64 0) ∧ w'.cell? ⟨w3.heap.size, 1, none⟩ = some (.int .i64 0) ∧ w'.cell? ⟨w3.heap.size, 2, none⟩ = some (.int .i64 0) ∧ w'.cell? ⟨w3.heap.size, 3, none⟩ = some (.int .i64 0) ∧ w'.cell? ⟨w3.heap.size, 4, none⟩ = some (.int .i64 0) ∧ w'.cell? ⟨w3.heap.size, 5, none⟩ = some (.int .i64 0)) (first | assumption | exact SX.out _ D) (first
        | (go_at_call 7; refine (zs p _ (NX.out _ D)).mono ?_; (rintro e wa ⟨rfl, Ba⟩; have D := step_trans D Ba)))
      go_wp2
      go_roundw
      case rel => exact ⟨i + 1, by omega, by go_num, step_trans HBR.out (step_trans HC.out D)⟩
      case measure => simp [vNm]; omega
end Go.Proofs.YtebicjblplkdeaaDoor
