/-
  The walk of JournalKnown. Conditions: the table of crc lies as the program's text lays it.
-/
import Derived.Test.YtliiejdhbkmifaaDoorJnAwake
import Derived.Test.YtliiejdhbkmifaaDoorBk
import Derived.Test.YtliiejdhbkmifaaDoorDiskAny
namespace Go.Proofs.YtliiejdhbkmifaaDoor
open Go.RowKit Fix

/-- a block's sector is no entry's -/
theorem Jn.mid_right {b : List UInt8} (h : Jn.right b = true) : (b.drop 42).take 12 = Jn.mid := by
  obtain ⟨_, h2, h3⟩ := (Jn.right_iff b).1 h
  have hd := ((Jn.may_iff _).1 h2).2.2.2.2
  have e := Jn.sect_drop42 (Jn.place b) (Jn.num b) (Jn.dat b) hd
  rw [h3] at e
  rw [e, List.take_left' Jn.mid_length]
theorem Jn.right_block (a n : Nat) (d : List UInt8) (h : d.length = 32) : Jn.right (Blk.sect a n d) = false := by
  rw [← Bool.not_eq_true]
  intro hr
  have e := Jn.mid_right hr
  rw [show 42 = 10 + 32 from rfl, ← List.drop_drop, Blk.sect_drop10, List.drop_left' h, List.take_left' (by rw [List.length_replicate])] at e
  revert e
  decide
theorem JnEx.bad1 : Jn.write JnEx.k0 0 ⟨64, 1, List.replicate 32 1⟩ = (JnEx.k0, 2) := by unfold Jn.write; rw [if_neg (by decide)]
theorem JnEx.bad2 : Jn.write JnEx.k0 0 ⟨1, 1, List.replicate 31 1⟩ = (JnEx.k0, 2) := by unfold Jn.write; rw [if_neg (by decide)]
theorem JnEx.l2 : Jn.lastE JnEx.k0 2 = 5 := by decide +kernel
set_option maxRecDepth 100000 in
set_option maxHeartbeats 4000000 in
theorem known_any (w : World) (ht : TabAt w) : Calls Tryd.prog 9 #[] w fun e w' => e = .returned (.bool true) ∧ Below w.heap.size w w' := by
  have D := disks
  have zn := D.new_yes 2 w (by decide) (by decide)
  rw [show ((2 : Nat) : Int) = 2 from rfl, show DS.fresh 2 = JnEx.k0 from rfl] at zn
  have mk64 : ∀ W : World, (Instr.makeSlice 22 (.int .i64 64) (.int .i64 64)).run Tryd.prog W = .ok (.slice (some ⟨W.heap.size, 0, none⟩) 64 64) (W.alloc (row0 64)) := make_bytes 64 (by decide)
  have zo1 : ∀ w, _ := fun w => ofE_any 64 1 1 w
  have zo2 : ∀ w, _ := fun w => ofE_any 1 1 1 w
  have zo3 : ∀ w, _ := fun w => ofE_any 3 9 1 w
  unfold OfEPost at zo1 zo2 zo3
  rw [show (((1 : UInt8).toNat : Nat) : Int) = 1 from rfl] at zo1 zo2 zo3
  have z1 : ∀ w b F A c, TabAt w → DiskAt w b F JnEx.k0 → BytesAt w w.heap.size A (List.replicate 32 1) → _ := fun w b F A c t h r => journalWrite_any D w b F JnEx.k0 0 ⟨64, 1, List.replicate 32 1⟩ A c t h (by rw [JnEx.l0.2]; decide) r
  have z2 : ∀ w b F A c, TabAt w → DiskAt w b F JnEx.k0 → BytesAt w w.heap.size A (List.replicate 31 1) → _ := fun w b F A c t h r => journalWrite_any D w b F JnEx.k0 0 ⟨1, 1, List.replicate 31 1⟩ A c t h (by rw [JnEx.l0.2]; decide) r
  unfold ChgPost at z1 z2
  rw [JnEx.bad1] at z1
  rw [JnEx.bad2] at z2
  have z3 : ∀ w b F, TabAt w → DiskAt w b F JnEx.k0 → _ := fun w b F t h => journalLast_any D w b F JnEx.k0 2 t h
  unfold JlPost at z3
  rw [JnEx.l2] at z3
  have z4 := fun A w t h => journalRead_any A (List.replicate 64 0) 64 64 (by simp) (Nat.le_refl _) w t h
  unfold JrPost at z4
  rw [show Jn.readE (List.replicate 64 0) = 11 from Jn.readE_bad (by simp) Jn.right_nots, show Jn.readV (List.replicate 64 0) = Jn.zero from Jn.readV_no Jn.right_nots] at z4
  simp only [show ∀ A c, entL Jn.zero A c = entN 0 0 A 0 c from fun _ _ => rfl] at z4
  have hbz : Blk.bytesE ((3 : Nat) : Int) ((9 : Nat) : Int) (List.replicate 32 1) = 0 := by decide
  have hbl := Blk.sect_length 3 9 (List.replicate 32 1) (by decide)
  have zy := fun A c w t h => blockBytes_any ((3 : Nat) : Int) ((9 : Nat) : Int) A (List.replicate 32 1) 32 c (by decide) w t h
  unfold BbPost at zy
  rw [hbz, Blk.bytesB_good 3 9 _ hbz, hbl] at zy
  have hbr := Jn.right_block 3 9 (List.replicate 32 1) (by decide)
  have z5 := fun A c hc w t h => journalRead_any A (Blk.sect 3 9 (List.replicate 32 1)) 64 c hbl hc w t h
  unfold JrPost at z5
  rw [Jn.readE_bad hbl hbr, Jn.readV_no hbr] at z5
  simp only [show ∀ A c, entL Jn.zero A c = entN 0 0 A 0 c from fun _ _ => rfl] at z5
  rw [show ((3 : Nat) : Int) = 3 from rfl, show ((9 : Nat) : Int) = 9 from rfl] at zy
  obtain ⟨sb, hsb⟩ : ∃ x, x = Blk.sect 3 9 (List.replicate 32 1) := ⟨_, rfl⟩
  rw [← hsb] at zy z5 hbl
  obtain ⟨V2, hV2⟩ : ∃ x, x = Jn.lastV JnEx.k0 2 := ⟨_, rfl⟩
  rw [← hV2] at z3
  have q31 : ∀ (A : Option Addr) (c : Nat), 32 ≤ c → ∀ W, (Instr.slice 22 (.slice A 32 c) none (some (.int .i64 31)) none).run Tryd.prog W = .ok (.slice A 31 c) W := fun A c h W => cut_to A 32 c 31 (by omega) W
  have e1 : ∀ A c, entL ⟨64, 1, List.replicate 32 1⟩ A c = entN 64 1 A 32 c := fun A c => entL_eq _ _ _ _ (by simp) A c
  have e2 : ∀ A c, entL ⟨1, 1, List.replicate 32 1⟩ A c = entN 1 1 A 32 c := fun A c => entL_eq _ _ _ _ (by simp) A c
  have e3 : ∀ A c, entL ⟨3, 9, List.replicate 32 1⟩ A c = entN 3 9 A 32 c := fun A c => entL_eq _ _ _ _ (by simp) A c
  have e4 : ∀ A c, entL ⟨1, 1, List.replicate 31 1⟩ A c = entN 1 1 A 31 c := fun A c => entL_eq _ _ _ _ (by simp) A c
  simp only [e1] at zo1 z1
  simp only [e2] at zo2
  simp only [e3] at zo3
  simp only [e4] at z2
  have HBL := Lib.hid hbl
  have qf : ∀ (A : Option Addr) (c : Nat) (W : World), (Instr.field 24 (.agg #[.int .i64 3, .int .i64 9, .slice A 32 c]) 2).run Tryd.prog W = .ok (.slice A 32 c) W := fun A c W => by kernel_rfl
  have zw := fun w t => awake_any disks w t
  unfold entN at zo3
  obtain ⟨o32, ho32⟩ : ∃ x : List UInt8, x = List.replicate 32 1 := ⟨_, rfl⟩
  obtain ⟨o31, ho31⟩ : ∃ x : List UInt8, x = List.replicate 31 1 := ⟨_, rfl⟩
  have hcut : Hid (o32.take 31 = o31) := Lib.hid (by rw [ho32, ho31]; decide)
  rw [← ho32] at zo1 zo2 zo3 z1 zy
  rw [← ho31] at z2
  clear hbz hbl hbr hsb hV2 e1 e2 e3 e4 ho32 ho31
  go_enter Tryd.func9, Tryd.ntmps9
  go_wp2_with (first
    | (go_at_call 21; refine zn.mono ?_; (rintro e w1 ⟨b, F, rfl, h1, hF, B1⟩; have t1 := ht.below B1 (Nat.le_refl _)))
    | (go_at_call 33; first
      | ((with_reducible refine (zo3 w11).mono ?_); (rintro e w12 ⟨A12, c12, rfl, _, r12, B12⟩; have C12 := step_trans C11 B12; have t12 := ht.below C12 (Nat.le_refl _)))
      | ((with_reducible refine (zo2 w3).mono ?_); (rintro e w4 ⟨A4, c4, rfl, hc4, r4, B4⟩; have C4 := step_trans C3 B4; have h4 := At_step D h3 B4; have q31 := q31 A4 c4 hc4))
      | ((with_reducible refine (zo1 w1).mono ?_); (rintro e w2 ⟨A2, c2, rfl, _, r2, B2⟩; have C2 := step_trans B1 B2; have h2 := At_step D h1 B2; have t2 := ht.below C2 (Nat.le_refl _))))
    | (go_at_call 24; first
      | ((with_reducible refine (z1 w2 b F A2 c2 t2 h2 r2).mono ?_); (rintro e w3 ⟨F3, rfl, h3, hF3, fr3⟩; obtain ⟨C3, G3⟩ := chg_go C2 hF hF3 fr3))
      | ((with_reducible refine (z2 w6 b F3 A4 c4 t6 h6 r6).mono ?_); (rintro e w7 ⟨F7, rfl, h7, hF7, fr7⟩; obtain ⟨C7, G7⟩ := chg_go C6 G3 hF7 fr7; have t7 := ht.below C7 (Nat.le_refl _))))
    | ((with_reducible refine atWorld w4 ?_); refine wpList_allocRow (w := w4) entTy rfl rfl ?_; (intro w5 b5 B5 s5; have b5 := Lib.hid b5; replace s5 := Lib.hid s5))
    | ((with_reducible refine atWorld w5 ?_); refine wpList_storeRow (w := w5) entTy rfl (.tmp 4) (.tmp 27) rfl w4.heap.size (entN 1 1 A4 32 c4) entZ rfl rfl rfl rfl (entN_one _ _ _ _ _) b5.out ?_; (intro w5' b5' B5' s5' k5'; have D5 : Below w4.heap.size w4 w5' := B5.trans B5'; have y2 := b5'.cell (k := 2) rfl; have f2 := b5'.frozen 2; obtain ⟨w6, hw6⟩ : ∃ W, W = w5'.setCell ⟨w4.heap.size, 2, none⟩ (.slice A4 31 c4) := ⟨_, rfl⟩; have b6 : BlkR 24 w6 w4.heap.size (entN 1 1 A4 31 c4) := (by rw [hw6]; exact b5'.set_ 2 _); have D6 : Below w4.heap.size w4 w6 := (by rw [hw6]; exact D5.setCell (p := ⟨w4.heap.size, 2, none⟩) (Nat.le_refl _) _); have C6 := step_trans C4 D6; have h6 := At_step D h4 D6; have t6 := ht.below C6 (Nat.le_refl _); have r6 : BytesAt w6 w6.heap.size A4 o31 := (by rw [← hcut.out]; exact (r4.step D6).take 31); have b6 := Lib.hid b6; replace s5' := Lib.hid s5'; clear k5' b5'))
    | (rw [← hw6]; clear hw6; (with_reducible refine atWorld w6 ?_); refine wpList_loadRow (w := w6) entTy rfl (.tmp 4) rfl w4.heap.size 0 (entN 1 1 A4 31 c4) rfl rfl (rangeOf b6.out) ?_)
    | (go_at_call 26; ((with_reducible refine (z3 w7 b F7 t7 h7).mono ?_); (rintro e w8 ⟨A8, c8, rfl, _, _, B8⟩)))
    | ((with_reducible refine atWorld w8 ?_); refine wpList_allocRow (w := w8) entTy rfl rfl ?_; (intro w9 b9 B9 s9; have b9 := Lib.hid b9; replace s9 := Lib.hid s9))
    | ((with_reducible refine atWorld w9 ?_); refine wpList_storeRow (w := w9) entTy rfl (.tmp 6) (.tmp 38) rfl w8.heap.size (entL V2 A8 c8) entZ rfl rfl rfl rfl (ent_one _ _ _) b9.out ?_; (intro w9' b9' B9' s9' k9'; have D9 : Below w8.heap.size w8 w9' := B9.trans B9'; obtain ⟨b0, L0⟩ := row0_facts w9' 64; have C9 := step_trans (step_trans C7 B8) (step_trans D9 L0); have t9 := ht.below C9 (Nat.le_refl _); have r9 : BytesAt (w9'.alloc (row0 64)) (w9'.alloc (row0 64)).heap.size (some ⟨w9'.heap.size, 0, none⟩) (List.replicate 64 0) := BlkB.at_ b0; replace s9' := Lib.hid s9'; clear k9' b9' b0))
    | (go_at_call 13; first
      | ((with_reducible refine (z5 A13 c13 hc13 w13 t13 r13).mono ?_); (rintro e w14 ⟨A14, c14, rfl, _, _, B14⟩; have C14 := step_trans C13 B14))
      | (refine (z4 _ (w9'.alloc (row0 64)) t9 r9).mono ?_; (rintro e w10 ⟨A10, c10, rfl, _, _, B10⟩; have C10 := step_trans C9 B10)))
    | ((with_reducible refine atWorld w10 ?_); refine wpList_allocRow (w := w10) entTy rfl rfl ?_; (intro wa ba Ba sa; have ba := Lib.hid ba; replace sa := Lib.hid sa))
    | ((with_reducible refine atWorld wa ?_); refine wpList_storeRow (w := wa) entTy rfl (.tmp 8) (.tmp 43) rfl w10.heap.size (entN 0 0 A10 0 c10) entZ rfl rfl rfl rfl (entN_one _ _ _ _ _) ba.out ?_; (intro w11 b11 B11 s11 k11; have D11 : Below w10.heap.size w10 w11 := Ba.trans B11; have C11 := step_trans C10 D11; replace s11 := Lib.hid s11; clear k11 b11))
    | (go_at_call 34; ((with_reducible refine (zy A12 c12 w12 t12 r12).mono ?_); (rintro e w13 ⟨A13, c13, rfl, _, o13, B13⟩; have C13 := step_trans C12 B13; have t13 := ht.below C13 (Nat.le_refl _); have r13 := o13.bytes; have hc13 := o13.cap; rw [HBL.out] at hc13)))
    | ((with_reducible refine atWorld w14 ?_); refine wpList_allocRow (w := w14) entTy rfl rfl ?_; (intro wb bb Bb sb'; have bb := Lib.hid bb; replace sb' := Lib.hid sb'))
    | ((with_reducible refine atWorld wb ?_); refine wpList_storeRow (w := wb) entTy rfl (.tmp 12) (.tmp 54) rfl w14.heap.size (entN 0 0 A14 0 c14) entZ rfl rfl rfl rfl (entN_one _ _ _ _ _) bb.out ?_; (intro w15 b15 B15 s15 k15; have D15 : Below w14.heap.size w14 w15 := Bb.trans B15; have C15 := step_trans C14 D15; have t15 := ht.below C15 (Nat.le_refl _); replace s15 := Lib.hid s15; clear k15 b15))
    | (go_at_call 19; refine (zw w15 t15).mono ?_; (rintro e w16 ⟨rfl, B16⟩; have C16 := step_trans C15 B16)))
  go_ret
  exact ⟨rfl, C16⟩
end Go.Proofs.YtliiejdhbkmifaaDoor
