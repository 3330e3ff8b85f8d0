/-
  The walk of SlotKnown. Conditions: the table of crc lies as the program's text lays it.
-/
import Derived.Test.YtgnfajmjhlnobaaDoorSlAwake
import Derived.Test.YtgnfajmjhlnobaaDoorDiskAny
namespace Go.Proofs.YtgnfajmjhlnobaaDoor
open Go.RowKit Fix

def mk0 (n : Nat) : Obj := .cells (List.replicate n (Value.int .u8 0)).toArray 5
theorem mkB (w : World) (n : Nat) : BytesAt (w.alloc (mk0 n)) (w.alloc (mk0 n)).heap.size (some ⟨w.heap.size, 0, none⟩) (List.replicate n 0) ∧ Below w.heap.size w (w.alloc (mk0 n)) ∧ BlkB (w.alloc (mk0 n)) w.heap.size (List.replicate n 0) := by
  have h := heap_alloc_new w (.cells (cellsOfBytes (List.replicate n 0)).toArray 5)
  have e : cellsOfBytes (List.replicate n 0) = List.replicate n (Value.int .u8 0) := by simp [cellsOfBytes]
  rw [e] at h
  have hb : BlkB (w.alloc (mk0 n)) w.heap.size (List.replicate n 0) := by unfold BlkB; rw [e]; exact h
  exact ⟨hb.at_, (Below.refl _ _).alloc (Nat.le_refl _) _, hb⟩
def oneTo (j : Nat) : List UInt8 := List.replicate j 1 ++ List.replicate (64 - j) 0
theorem oneTo_length (j : Nat) (h : j ≤ 64) : (oneTo j).length = 64 := by simp [oneTo]; omega
theorem oneTo_set (j : Nat) (h : j < 64) : (oneTo j).set j 1 = oneTo (j + 1) := by
  unfold oneTo
  rw [show 64 - j = (64 - (j + 1)) + 1 by omega, List.replicate_succ, List.set_append_right _ _ (by simp), List.length_replicate, Nat.sub_self, List.set_cons_zero, List.replicate_succ']
  simp
set_option maxRecDepth 100000 in
set_option maxHeartbeats 2000000 in
theorem known_any (w : World) (ht : TabAt w) : Calls Tryd.prog 10 #[] w fun e w' => e = .returned (.bool true) ∧ Below w.heap.size w w' := by
  have kc := fun (w : World) (C : Array Value) (n c g : Nat) (hg : g = w.heap.size) => Go.Joins.run_convert_bytes_const_at (P := Tryd.prog) w 22 5 C n c g hg Tryd.underlying22 Tryd.underlying5
  have mk41 : ∀ W : World, (Instr.makeSlice 22 (.int .i64 41) (.int .i64 41)).run Tryd.prog W = .ok (.slice (some ⟨W.heap.size, 0, none⟩) 41 41) (W.alloc (mk0 41)) := make_bytes 41 (by decide)
  have mk64 : ∀ W : World, (Instr.makeSlice 22 (.int .i64 64) (.int .i64 64)).run Tryd.prog W = .ok (.slice (some ⟨W.heap.size, 0, none⟩) 64 64) (W.alloc (mk0 64)) := make_bytes 64 (by decide)
  have D := disks
  have zn := D.new_yes 2 w (by decide) (by decide)
  have z1 : ∀ w b F A, TabAt w → DiskAt w b F Ex.k0 → BytesAt w w.heap.size A [97] → _ := fun w b F A t h r => save_any D w b F Ex.k0 0 A [97] 1 1 rfl t h r (by rw [Ex.eops.1]; decide)
  unfold ChgPost at z1
  rw [Ex.e1, show (Slot.save Ex.k0 0 [97]).1 = Ex.k1 from rfl] at z1
  have z3 : ∀ w b F A, TabAt w → DiskAt w b F Ex.k1 → BytesAt w w.heap.size A [98] → _ := fun w b F A t h r => save_any D w b F Ex.k1 0 A [98] 1 1 rfl t h r (Nat.le_trans Ex.eops.2.1 (by decide))
  unfold ChgPost at z3
  rw [Ex.e2, show (Slot.save Ex.k1 0 [98]).1 = Ex.k2 from rfl] at z3
  have z4 : ∀ w b F, DiskAt w b F Ex.k2 → _ := fun w b F h => D.turn w b F Ex.k2 1 0 1 h
  rw [Ex.e3, show (Ex.k2.turn 1 0 1).1 = Ex.k3 from rfl, show (((1 : UInt8).toNat : Nat) : Int) = 1 from rfl] at z4
  have z5 : ∀ w b F, DiskAt w b F Ex.k3 → _ := fun w b F h => D.turn w b F Ex.k3 0 0 1 h
  rw [Ex.e4, show (Ex.k3.turn 0 0 1).1 = Ex.k4 from rfl, show (((1 : UInt8).toNat : Nat) : Int) = 1 from rfl] at z5
  have z6 : ∀ w b F, TabAt w → DiskAt w b F Ex.k4 → _ := fun w b F t h => load_any D w b F Ex.k4 0 t h
  have z8 : ∀ w b F, TabAt w → DiskAt w b F Ex.k4 → _ := fun w b F t h => load_any D w b F Ex.k4 1 t h
  unfold LoadPost at z6 z8
  rw [Ex.e4l.1] at z6
  rw [Ex.e4l.2] at z8
  have z7 : ∀ w b F A, TabAt w → DiskAt w b F Ex.k4 → BytesAt w w.heap.size A (List.replicate 41 0) → _ := fun w b F A t h r => save_any D w b F Ex.k4 0 A (List.replicate 41 0) 41 41 (by decide) t h r (Nat.le_trans Ex.eops.2.2.2.2 (by decide))
  unfold ChgPost at z7
  rw [show Slot.save Ex.k4 0 (List.replicate 41 0) = (Ex.k4, 3) from Ex.e5s] at z7
  have z9 := fun A w t h => slotRead_any A (List.replicate 64 0) 64 64 (by simp) (Nat.le_refl _) w t h
  have z10 := fun A w t h => slotRead_any A (oneTo 64) 64 64 (by decide) (Nat.le_refl _) w t h
  have z11 := fun w t => slotRead_any none [] 0 0 rfl (Nat.le_refl _) w t bytes_nil
  unfold RdPost at z9 z10 z11
  rw [show Slot.readE (List.replicate 64 0) = 6 from Ex.e6.1] at z9
  rw [show Slot.readE (oneTo 64) = 11 from Ex.e6.2.1] at z10
  rw [Ex.e6.2.2] at z11
  rw [show ((2 : Nat) : Int) = 2 from rfl, show DS.fresh 2 = Ex.k0 from rfl] at zn
  go_enter Tryd.func10, Tryd.ntmps10
  go_wp2_with (first
    | (go_at_call 22; refine zn.mono ?_; (rintro e w1 ⟨b, F, rfl, h1, hF, B1⟩; obtain ⟨r1, L1⟩ := lit97 w1; have C1 := step_trans B1 L1; have h1 := At_step D h1 L1; have t1 := ht.below C1 (Nat.le_refl _)))
    | (go_at_call 21; first
      | ((with_reducible refine (z1 _ b F _ t1 h1 r1).mono ?_); (rintro e w2 ⟨F2, rfl, h2, hF2, fr2⟩; obtain ⟨C2, G2⟩ := chg_go C1 hF hF2 fr2; obtain ⟨r2, L2⟩ := lit98 w2; have C2 := step_trans C2 L2; have h2 := At_step D h2 L2; have t2 := ht.below C2 (Nat.le_refl _)))
      | ((with_reducible refine (z3 _ b F2 _ t2 h2 r2).mono ?_); (rintro e w3 ⟨F3, rfl, h3, hF3, fr3⟩; obtain ⟨C3, G3⟩ := chg_go C2 G2 hF3 fr3))
      | ((with_reducible refine (z7 _ b F5 _ t6 h6 r6).mono ?_); (rintro e w7 ⟨F7, rfl, h7, hF7, fr7⟩; obtain ⟨C7, G7⟩ := chg_go C6 G5 hF7 fr7; have t7 := ht.below C7 (Nat.le_refl _))))
    | (go_at_call 26; first
      | ((with_reducible refine (z4 w3 b F3 h3).mono ?_); (rintro e w4 ⟨F4, rfl, h4, hF4, fr4⟩; obtain ⟨C4, G4⟩ := chg_go C3 G3 hF4 fr4))
      | ((with_reducible refine (z5 w4 b F4 h4).mono ?_); (rintro e w5 ⟨F5, rfl, h5, hF5, fr5⟩; obtain ⟨C5, G5⟩ := chg_go C4 G4 hF5 fr5; have t5 := ht.below C5 (Nat.le_refl _))))
    | (go_at_call 20; first
      | ((with_reducible refine (z6 w5 b F5 t5 h5).mono ?_); (rintro e w6 ⟨A6, c6, rfl, _, B6⟩; obtain ⟨r6, L6, _⟩ := mkB w6 41; have C6 := step_trans C5 (step_trans B6 L6); have h6 := At_step D (At_step D h5 B6) L6; have t6 := ht.below C6 (Nat.le_refl _)))
      | ((with_reducible refine (z8 w7 b F7 t7 h7).mono ?_); (rintro e w8 ⟨A8, c8, rfl, _, B8⟩; obtain ⟨r8, L8, _⟩ := mkB w8 64; have C8 := step_trans C7 (step_trans B8 L8); have t8 := ht.below C8 (Nat.le_refl _))))
    | (go_at_call 14; ((with_reducible refine (z9 _ _ t8 r8).mono ?_); (rintro e w9 ⟨A9, c9, rfl, _, _, B9⟩; have C9 := step_trans C8 B9))))
  obtain ⟨_, L9, b9⟩ := mkB w9 64
  have HC := Lib.hid C9
  have HZ := Lib.hid (And.intro z10 z11)
  clear kc mk41 mk64 zn z1 z3 z4 z5 z6 z8 z7 z9 z10 z11 h1 t1 B1 L1 C1 r1 h2 t2 C2 r2 G2 hF hF2 fr2 L2 h3 C3 G3 hF3 fr3 h4 hF4 fr4 C4 G4 h5 hF5 fr5 C5 G5 t5 B6 r6 L6 C6 h6 t6 h7 hF7 fr7 C7 G7 t7 B8 r8 L8 C8 t8 B9 C9 D
  go_loopw [12] (fun i wr => ∃ j : Nat, j ≤ 64 ∧ i = .int .i64 (j : Int) ∧ BlkB wr w9.heap.size (oneTo j) ∧ Below w9.heap.size w9 wr) (fun i _ => 64 - (intOf i).toNat)
  case atStart => exact ⟨0, by omega, rfl, b9, L9⟩
  case round =>
    obtain ⟨j, hj, rfl, hblk, hbel⟩ := hrel
    by_cases hj8 : j < 64
    · have hcell := hblk.cell j (by rw [oneTo_length j hj]; exact hj8)
      have hfr := hblk.frozen j
      have HB := Lib.hid hblk
      clear hblk b9 L9
      go_wp2
      go_roundw
      case rel =>
        refine ⟨j + 1, by omega, by go_num, ?_, hbel.setCell (Nat.le_refl _) _⟩
        rw [← oneTo_set j hj8]
        exact HB.out.set_ j 1
      case measure => simp [intOf]; omega
    · obtain rfl : j = 64 := by omega
      have r10 := hblk.at_
      have C10 := step_trans HC.out hbel
      have t10 := ht.below C10 (Nat.le_refl _)
      obtain ⟨z10, z11⟩ := HZ.out
      clear hblk b9 L9
      go_wp2_with (first
        | (go_at_call 14; first
          | ((with_reducible refine (z10 _ _ t10 r10).mono ?_); (rintro e w11 ⟨A11, c11, rfl, _, _, B11⟩; have C11 := step_trans C10 B11; have t11 := ht.below C11 (Nat.le_refl _)))
          | ((with_reducible refine (z11 _ t11).mono ?_); (rintro e w12 ⟨A12, c12, rfl, _, _, B12⟩; have C12 := step_trans C11 B12; have t12 := ht.below C12 (Nat.le_refl _))))
        | (go_at_call 19; refine (awake_any disks w12 t12).mono ?_; (rintro e w13 ⟨rfl, B13⟩; have C13 := step_trans C12 B13)))
      go_ret
      exact ⟨rfl, C13⟩
end Go.Proofs.YtgnfajmjhlnobaaDoor
