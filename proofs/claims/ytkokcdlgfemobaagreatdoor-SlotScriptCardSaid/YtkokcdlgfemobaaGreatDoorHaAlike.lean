/-
  tandemlaw05.Alike, of a disk beside the document's own. Conditions: a disk's methods do what the document says (Disks); at most so many changes.
-/
import Derived.Test.YtkokcdlgfemobaaGreatDoorHaActs
namespace Go.Proofs.YtkokcdlgfemobaaGreatDoor
open Go.RowKit

section
variable {At : World → Nat → (Nat → Prop) → DS → Prop} (D : Disks Tryz.prog At)
include D
set_option maxRecDepth 100000 in
set_option maxHeartbeats 4000000 in
theorem haAlike_any (w : World) (b c : Nat) (F G : Nat → Prop) (S : DS) (h : Two At w b c F G S) (ho : S.ops ≤ 1000000) : Calls Tryz.prog 16 #[.pointer (some ⟨b, 0, none⟩), .pointer (some ⟨c, 0, none⟩)] w fun e w' => e = .returned (.bool true) ∧ Below w.heap.size w w' := by
  have hat : ∀ w', Below w.heap.size w w' → At w' b F S ∧ Mir w' c G S := fun w' hB => ⟨At_step D h.d hB, h.m.step hB⟩
  obtain ⟨g0, g1, c0, c1, xs, ys, hM⟩ := h.m
  have hS : ∀ w', Below w.heap.size w w' → w'.cell? ⟨c, 0, none⟩ = some (.slice (some ⟨g0, 0, none⟩) S.n c0) ∧ w'.cell? ⟨c, 2, none⟩ = some (.bool S.out) ∧ w'.cell? ⟨c, 4, none⟩ = some (.int .i64 (S.ops : Int)) := fun w' hB => by
    have hM' := hM.step hB
    exact ⟨hM'.cell0, hM'.cell2, hM'.cell4⟩
  have zUp : ∀ w', Below w.heap.size w w' → _ := fun w' hB => D.up w' b F S (hat w' hB).1
  have zOp : ∀ w', Below w.heap.size w w' → _ := fun w' hB => D.ops w' b F S (hat w' hB).1 ho
  have zRd : ∀ w' i, Below w.heap.size w w' → _ := fun w' i hB => D.read w' b F S i (hat w' hB).1
  have zMr : ∀ w' i, Below w.heap.size w w' → _ := fun w' i hB => mRead w' c G S i (hat w' hB).2
  have hn2 : S.n ≤ 1024 := (D.ok _ _ _ _ h.d).n2
  obtain ⟨n, hn⟩ : ∃ x, x = S.n := ⟨_, rfl⟩
  obtain ⟨ou, hou⟩ : ∃ x, x = S.out := ⟨_, rfl⟩
  obtain ⟨op, hop⟩ : ∃ x, x = S.ops := ⟨_, rfl⟩
  rw [← hop] at zOp
  rw [← hou] at zUp
  rw [← hn] at hn2
  rw [← hn, ← hou, ← hop] at hS
  replace hS := Lib.hid hS
  have hdr : Below w.heap.size w w.drew := (Below.refl _ _).drew
  clear hn hou hop hM h hat
  go_enter Tryz.func16, Tryz.ntmps16
  go_wp2
  go_region_held3 (fun w' => w'.cell? ⟨c, 0, none⟩ = some (.slice (some ⟨g0, 0, none⟩) n c0) ∧ w'.cell? ⟨c, 2, none⟩ = some (.bool ou) ∧ w'.cell? ⟨c, 4, none⟩ = some (.int .i64 (op : Int))) (first | assumption | exact hS.out _ (by assumption)) (first
    | (go_at_call 35; refine (zOp _ (by assumption)).mono ?_; (rintro e w2 ⟨rfl, hB2⟩; have hB2 := step_trans hdr hB2))
    | (go_at_call 36; refine (zUp _ (by assumption)).mono ?_; (rintro e w3 ⟨rfl, hB3⟩; have hB3 := step_trans hB2 hB3)))
  go_wp2
  have HB := Lib.hid hB3
  clear hB2 hB3 hdr zUp zOp
  go_loopw [5] (fun ix wr => ∃ i : Nat, i ≤ n ∧ ix = .int .i64 (i : Int) ∧ Below w.heap.size w wr) (fun ix _ => n - hNat ix)
  case atStart => exact ⟨0, Nat.zero_le _, rfl, HB.out⟩
  case round =>
    obtain ⟨i, hi, rfl, hB⟩ := hrel
    obtain ⟨y0, _, _⟩ := hS.out wr hB
    by_cases hlt : i < n
    · have hlt' : (i : Int) < (n : Int) := by omega
      have hw1 : IntKind.i64.wrap ((i : Int) + 1) = (i : Int) + 1 := IntWalk.i64_in _ (by omega)
      have z1 := zRd wr (i : Int) hB
      have z2 := fun w4 hB4 => zMr w4 (i : Int) hB4
      obtain ⟨l, hl⟩ : ∃ l, l = S.readB (i : Int) := ⟨_, rfl⟩
      obtain ⟨x, hx⟩ : ∃ x, x = S.readE (i : Int) := ⟨_, rfl⟩
      rw [← hl, ← hx] at z1 z2
      have zs := fun A c A' c' w h h' => same_yes A l l.length c rfl A' l l.length c' rfl w h h' rfl
      have HB2 := Lib.hid hB
      clear hl hx zRd zMr hB
      go_wp2_with (first
        | (go_at_call 37; refine z1.mono ?_; (rintro e w4 ⟨A4, c4, rfl, r4, B4⟩; have C4 := step_trans HB2.out B4; have r4 := r4.bytes))
        | (go_at_call 38; refine (z2 w4 C4).mono ?_; (rintro e w5 ⟨A5, c5, rfl, o5, B5⟩; have C5 := step_trans C4 B5; have r5 := o5.bytes; have r4 := r4.step B5; clear o5))
        | (go_at_call 14; refine (zs A4 c4 A5 c5 w5 r4 r5).mono ?_; (rintro e w6 ⟨rfl, rfl⟩)))
      go_roundw
      case rel => exact ⟨i + 1, by omega, by go_num, C5⟩
      case measure => simp [hNat]; omega
    · obtain rfl : i = n := by omega
      clear zRd zMr
      have HB2 := Lib.hid hB
      clear hB
      go_wp2
      go_ret
      exact ⟨rfl, HB2.out⟩
end
end Go.Proofs.YtkokcdlgfemobaaGreatDoor
