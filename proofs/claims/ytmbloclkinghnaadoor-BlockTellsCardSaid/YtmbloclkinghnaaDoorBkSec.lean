/-
  block.sector: the array of a block's sector. Conditions: the table of crc lies as the program's text lays it.
-/
import Derived.Test.YtmbloclkinghnaaDoorSa
import Derived.Test.YtmbloclkinghnaaDoorBlock
namespace Go.Proofs.YtmbloclkinghnaaDoor
open Go.RowKit Fix

/-- the five parts of a sector, laid one behind the other over 64 noughts -/
theorem splice_blk (a n : Nat) (r : List UInt8) (h : r.length = 32) :
    splice (splice (splice (splice (splice zs 0 ((dig n 8).take 8)) 8 ((dig a 2).take 2)) 10 (r.take 32)) 54 ((dig n 6).take 6)) 60 ((dig (Crc.sum (Blk.body a n r)) 4).take 4) = Blk.sect a n r ∧
    (splice (splice (splice (splice zs 0 ((dig n 8).take 8)) 8 ((dig a 2).take 2)) 10 (r.take 32)) 54 ((dig n 6).take 6)).take 60 = Blk.body a n r := by
  have h8 := dig_length n 8
  have h2 := dig_length a 2
  have h6 := dig_length n 6
  have h4 := dig_length (Crc.sum (Blk.body a n r)) 4
  rw [List.take_of_length_le (by omega : (dig n 8).length ≤ 8), List.take_of_length_le (by omega : (dig a 2).length ≤ 2), List.take_of_length_le (by omega : r.length ≤ 32), List.take_of_length_le (by omega : (dig n 6).length ≤ 6), List.take_of_length_le (by omega : (dig (Crc.sum (Blk.body a n r)) 4).length ≤ 4)]
  have e1 : splice zs 0 (dig n 8) = dig n 8 ++ List.replicate 56 0 := by
    unfold splice
    rw [List.take_zero, List.nil_append, h8, List.drop_replicate]
  have e2 : splice (dig n 8 ++ List.replicate 56 (0 : UInt8)) 8 (dig a 2) = (dig n 8 ++ dig a 2) ++ List.replicate 54 0 := by
    unfold splice
    rw [List.take_left' h8, h2, List.drop_append, List.drop_of_length_le (by omega), List.nil_append, h8, List.drop_replicate]
    simp only [List.append_assoc]
  have l10 : (dig n 8 ++ dig a 2).length = 10 := by rw [List.length_append, h8, h2]
  have e3 : splice ((dig n 8 ++ dig a 2) ++ List.replicate 54 (0 : UInt8)) 10 r = (dig n 8 ++ dig a 2 ++ (r ++ List.replicate 12 0)) ++ List.replicate 10 0 := by
    unfold splice
    rw [List.take_left' l10, List.drop_append, List.drop_of_length_le (by omega), List.nil_append, l10, List.drop_replicate]
    rw [show 54 - (10 + r.length - 10) = 12 + 10 by omega, ← List.replicate_append_replicate]
    simp only [List.append_assoc]
  have l54 : (dig n 8 ++ dig a 2 ++ (r ++ List.replicate 12 0)).length = 54 := by rw [List.length_append, l10, List.length_append, List.length_replicate]; omega
  have e4 : splice ((dig n 8 ++ dig a 2 ++ (r ++ List.replicate 12 0)) ++ List.replicate 10 (0 : UInt8)) 54 (dig n 6) = Blk.body a n r ++ List.replicate 4 0 := by
    unfold splice Blk.body
    rw [List.take_left' l54, List.drop_append, List.drop_of_length_le (by omega), List.nil_append, l54, List.drop_replicate, h6]
    simp only [List.append_assoc]
  rw [e1, e2, e3, e4]
  have lb := Blk.body_length a n r h
  refine ⟨?_, List.take_left' lb⟩
  unfold splice Blk.sect Slot.seal_
  rw [List.take_left' lb, h4, List.drop_of_length_le (by rw [List.length_append, lb, List.length_replicate]; exact Nat.le_refl _), List.append_nil]
theorem cutA_0h (g h : Nat) (hh : h ≤ 64) (W : World) : (Instr.sliceAt 40 (.pointer (some ⟨g, 0, none⟩)) (some (.int .i64 0)) (some (.int .i64 (h : Int))) none).run Tryd.prog W = .ok (.slice (some ⟨g, 0, none⟩) h 64) W := by
  rw [run_sliceAt_array_lh W 40 ⟨g, 0, none⟩ elemA .i64 .i64 0 (h : Int) (by omega) (by omega) (by rw [lenA]; omega), oneA, lenA]
  simp [Result.andThen, slicedAt, Addr.add]
def BkSecPost (a n : Nat) (r : List UInt8) (w : World) (e : Ending) (w' : World) : Prop := e = .returned (arr (Blk.sect a n r)) ∧ Below w.heap.size w w'
set_option maxRecDepth 100000 in
set_option maxHeartbeats 2000000 in
theorem bkSector_any (a n : Nat) (A : Option Addr) (r : List UInt8) (c : Nat) (hm : r.length = 32) (ha : a < 64) (hn : n ≤ 1099511627776) (w : World) (ht : TabAt w) (hr : BytesAt w w.heap.size A r) :
    Calls Tryd.prog 21 #[.int .i64 (a : Int), .int .i64 (n : Int), .slice A 32 c] w (BkSecPost a n r w) := by
  have ew : IntKind.u64.wrap (n : Int) = (n : Int) := by rw [IntKind.wrap_u64]; omega
  have q8 : ∀ g W, (Instr.sliceAt 40 (.pointer (some ⟨g, 0, none⟩)) (some (.int .i64 0)) (some (.int .i64 8)) none).run Tryd.prog W = .ok (.slice (some ⟨g, 0, none⟩) 8 64) W := fun g W => cutA_0h g 8 (by decide) W
  have q10 : ∀ g W, (Instr.sliceAt 40 (.pointer (some ⟨g, 0, none⟩)) (some (.int .i64 8)) (some (.int .i64 10)) none).run Tryd.prog W = .ok (.slice (some ⟨g, 8, none⟩) 2 56) W := fun g W => cutA_lh g 8 10 (by decide) (by decide) (by decide) (by decide) W
  have q54 : ∀ g W, (Instr.sliceAt 40 (.pointer (some ⟨g, 0, none⟩)) (some (.int .i64 10)) (some (.int .i64 42)) none).run Tryd.prog W = .ok (.slice (some ⟨g, 10, none⟩) 32 54) W := fun g W => cutA_lh g 10 42 (by decide) (by decide) (by decide) (by decide) W
  have q60 : ∀ g W, (Instr.sliceAt 40 (.pointer (some ⟨g, 0, none⟩)) (some (.int .i64 54)) (some (.int .i64 60)) none).run Tryd.prog W = .ok (.slice (some ⟨g, 54, none⟩) 6 10) W := fun g W => cutA_lh g 54 60 (by decide) (by decide) (by decide) (by decide) W
  have q64 : ∀ g W, (Instr.sliceAt 40 (.pointer (some ⟨g, 0, none⟩)) (some (.int .i64 60)) none none).run Tryd.prog W = .ok (.slice (some ⟨g, 60, none⟩) 4 4) W := fun g W => cutA_l g 60 (by decide) (by decide) W
  have p60 : ∀ g W, (Instr.sliceAt 40 (.pointer (some ⟨g, 0, none⟩)) none (some (.int .i64 60)) none).run Tryd.prog W = .ok (.slice (some ⟨g, 0, none⟩) 60 64) W := fun g W => cutA_h g 60 (by decide) W
  have zp2 : ∀ w : World, Calls Tryd.prog 29 #[.int .i64 (a : Int), .int .i64 2] w fun e w' => ∃ A c, e = .returned (.tuple #[.slice A 2 c, .int .i64 0]) ∧ 2 ≤ c ∧ BytesAt w' w'.heap.size A (dig a 2) ∧ Below w.heap.size w w' := put_good a 2 (by omega) (by omega) (by omega)
  have zp6 : ∀ w : World, Calls Tryd.prog 29 #[.int .i64 (n : Int), .int .i64 6] w fun e w' => ∃ A c, e = .returned (.tuple #[.slice A 6 c, .int .i64 0]) ∧ 6 ≤ c ∧ BytesAt w' w'.heap.size A (dig n 6) ∧ Below w.heap.size w w' := put_good n 6 (by omega) (by omega) (by omega)
  have zl : ∀ w : World, _ := fun w => long_any n w
  have hz64 : zs.length = 64 := by simp
  obtain ⟨hs1, hs2⟩ := splice_blk a n r hm
  obtain ⟨l1, hl1⟩ : ∃ l, l = splice zs 0 ((dig n 8).take 8) := ⟨_, rfl⟩
  rw [← hl1] at hs1 hs2
  obtain ⟨l2, hl2⟩ : ∃ l, l = splice l1 8 ((dig a 2).take 2) := ⟨_, rfl⟩
  rw [← hl2] at hs1 hs2
  obtain ⟨l3, hl3⟩ : ∃ l, l = splice l2 10 (r.take 32) := ⟨_, rfl⟩
  rw [← hl3] at hs1 hs2
  obtain ⟨l4, hl4⟩ : ∃ l, l = splice l3 54 ((dig n 6).take 6) := ⟨_, rfl⟩
  rw [← hl4] at hs1 hs2
  have n1 : l1.length = 64 := by rw [hl1, length_splice _ _ _ (by simp [dig_length])]; simp
  have n2 : l2.length = 64 := by rw [hl2, length_splice _ _ _ (by simp [dig_length]; omega)]; exact n1
  have n3 : l3.length = 64 := by rw [hl3, length_splice _ _ _ (by simp; omega)]; exact n2
  have n4 : l4.length = 64 := by rw [hl4, length_splice _ _ _ (by simp [dig_length]; omega)]; exact n3
  have hbl := Blk.body_length a n r hm
  have hsl := Blk.sect_length a n r hm
  have hcs := Crc.sum_lt (Blk.body a n r)
  have HL := Lib.hid (And.intro hl1 (And.intro hl2 (And.intro hl3 (And.intro hl4 (And.intro hs1 hs2)))))
  have HN := Lib.hid (And.intro n1 (And.intro n2 (And.intro n3 (And.intro n4 (And.intro hbl (And.intro hsl hcs))))))
  have HM := Lib.hid hm
  have d8 := Lib.hid (dig_length n 8)
  have d2 := Lib.hid (dig_length a 2)
  have d6 := Lib.hid (dig_length n 6)
  have d4 := Lib.hid (dig_length (Crc.sum (Blk.body a n r)) 4)
  unfold BkSecPost
  obtain ⟨sc, hsc⟩ : ∃ x, x = Blk.sect a n r := ⟨_, rfl⟩
  rw [← hsc] at hs1 ⊢
  obtain ⟨s0, hs0⟩ : ∃ x, x = Crc.sum (Blk.body a n r) := ⟨_, rfl⟩
  have HS := Lib.hid (And.intro hsc hs0)
  clear hl1 hl2 hl3 hl4 n1 n2 n3 n4 hs1 hs2 hbl hsl hcs hm hsc hs0
  go_enter Tryd.func21, Tryd.ntmps21
  go_wp2_with (first
    | (refine wpList_allocA (w := w) rfl rfl ?_; (intro w1 e1; have b1 : BlkR 40 w1 w.heap.size (cellsOfBytes zs) := (by rw [e1]; exact BlkR.new w _ _); have B1 : Below w.heap.size w w1 := (by rw [e1]; exact (Below.refl _ _).alloc (Nat.le_refl _) _); have s1 : w.heap.size < w1.heap.size := (by rw [e1]; simp); have t1 := ht.below B1 (Nat.le_refl _); have r1 := hr.step B1; clear e1))
    | (go_at_call 29; first
      | ((with_reducible refine (zp2 w1).mono ?_); (rintro e w2 ⟨A2, c2, rfl, hc2, k2, B2⟩; have t2 := t1.below B2 (Nat.le_refl _); have r2 := r1.step B2; have b2 := b1.step B2))
      | ((with_reducible refine (zp6 w2).mono ?_); (rintro e w3 ⟨A3, c3, rfl, hc3, k3, B3⟩; have t3 := t2.below B3 (Nat.le_refl _); have r3 := r2.step B3; have k23 := k2.step B3; have b3 := b2.step B3; have B13 := step_trans B1 (step_trans B2 B3); have s13 := Nat.lt_of_lt_of_le s1 (Nat.le_trans B2.size B3.size))))
    | (refine wpList_allocA (w := w3) rfl rfl ?_; (intro w4 e4; have b4 : BlkR 40 w4 w3.heap.size (cellsOfBytes zs) := (by rw [e4]; exact BlkR.new w3 _ _); have B4 : Below w3.heap.size w3 w4 := (by rw [e4]; exact (Below.refl _ _).alloc (Nat.le_refl _) _); have b14 := b3.step B4; clear e4)))
  have B14 := step_trans B13 B4
  have HH := Lib.hid (And.intro b3 (And.intro B13 s13))
  have HR := Lib.hid (And.intro r3 (And.intro k23 (And.intro k3 t3)))
  clear b1 B1 s1 t1 r1 B2 t2 r2 b2 B3 r3 k23 b3 B13 B14 b14 k2 k3 ht hr t3
  go_region_held3 (fun w' => Below w3.heap.size w3 w') (first | assumption | exact B4.drew) (first
    | (go_at_call 30; refine (zl w4.drew).mono ?_; (rintro e w5 ⟨g5, rfl, hg5, h5, B5⟩; have B5 : Below w4.heap.size w4 w5 := undrew B5; obtain ⟨w6, run6, b6, B6, s6⟩ := run_copyB w5 3 40 w3.heap.size 0 8 64 (some ⟨g5, 0, none⟩) zs (dig n 8) 8 8 d8.out (by decide) (by decide) (b4.step B5) h5.at_ (by simp); rw [← HL.out.1] at b6; have B45 := B4.trans (B5.mono B4.size); have B46 := B45.trans B6; have b6 := Lib.hid b6; have k26 := HR.out.2.1.step B46)))
  clear zl B4 b4 run6 B5 B6 B45 h5 zp2 zp6 q8 q10 d8
  go_wp2_with (first
    | ((with_reducible refine atW w6 ?_); refine wpList_copyB (w := w6) rfl (.tmp 27) (.tmp 28) rfl 40 w3.heap.size 8 2 56 (some ⟨w3.heap.size, 8, none⟩) A2 2 c2 rfl rfl (fun _ => rfl) l1 (dig a 2) d2.out b6.out k26 (by rw [HN.out.1]; decide) w3.heap.size w3 B46 (Nat.le_refl _) ?_; (intro w7 b7 B7; rw [← HL.out.2.1] at b7; have r7 := HR.out.1.step B7))
    | ((with_reducible refine atW w7 ?_); refine wpList_copyB (w := w7) rfl (.tmp 30) (.tmp 31) rfl 40 w3.heap.size 10 32 54 (some ⟨w3.heap.size, 10, none⟩) A 32 c rfl rfl (fun _ => rfl) l2 r HM.out b7.out r7 (by rw [HN.out.2.1]; decide) w3.heap.size w3 B7 (Nat.le_refl _) ?_; (intro w8 b8 B8; rw [← HL.out.2.2.1] at b8; have k38 := HR.out.2.2.1.step B8))
    | ((with_reducible refine atW w8 ?_); refine wpList_copyB (w := w8) rfl (.tmp 33) (.tmp 34) rfl 40 w3.heap.size 54 6 10 (some ⟨w3.heap.size, 54, none⟩) A3 6 c3 rfl rfl (fun _ => rfl) l3 (dig n 6) d6.out b8.out k38 (by rw [HN.out.2.2.1]; decide) w3.heap.size w3 B8 (Nat.le_refl _) ?_; (intro w9 b9 B9; rw [← HL.out.2.2.2.1] at b9)))
  have k9 : BytesAt w9 w9.heap.size (some ⟨w3.heap.size, 0, none⟩) (Blk.body a n r) := by
    have := b9.out.cut 60
    rwa [HL.out.2.2.2.2.2] at this
  have t9 := HR.out.2.2.2.below B9 (Nat.le_refl _)
  have zs0 := sum_n (some ⟨w3.heap.size, 0, none⟩) (Blk.body a n r) 60 64 HN.out.2.2.2.2.1 _ w9.drew t9 (by rw [HN.out.2.2.2.2.1]; decide) k9
  have zw : ∀ w, _ := fun w => word_any (Crc.sum (Blk.body a n r)) HN.out.2.2.2.2.2.2 w
  have b9 := b9.out
  clear b6 k26 b7 b8 r7 k38 B46 B7 B8 zs0
  go_region_held3 (fun w' => Below w3.heap.size w3 w') (first | assumption | exact B9.drew) (first
    | (go_at_call 32; refine (sum_n (some ⟨w3.heap.size, 0, none⟩) (Blk.body a n r) 60 64 HN.out.2.2.2.2.1 _ w9.drew t9 (by rw [HN.out.2.2.2.2.1]; decide) k9).mono ?_; (rintro e w10 ⟨rfl, rfl⟩))
    | (go_at_call 31; refine (zw w9.drew).mono ?_; (rintro e w5 ⟨g5, rfl, hg5, h5, B5⟩; have B5 : Below w9.heap.size w9 w5 := undrew B5; obtain ⟨w6, run6, b6, B6, s6⟩ := run_copyB w5 3 40 w3.heap.size 60 4 4 (some ⟨g5, 0, none⟩) l4 (dig (Crc.sum (Blk.body a n r)) 4) 4 4 d4.out (by decide) (by decide) (b9.step B5) h5.at_ (by rw [HN.out.2.2.2.1]; decide); rw [HL.out.2.2.2.2.1] at b6; have B95 := B9.trans (B5.mono B9.size); have B96 := B95.trans B6; have b6 := Lib.hid b6)))
  clear b9 k9 t9 B5 B6 B95 zw run6 s6 h5 hg5
  go_wp2_with (first
    | ((with_reducible refine atW w6 ?_); refine wpList_loadA (w := w6) rfl (.tmp 11) rfl w3.heap.size (Blk.sect a n r) rfl HN.out.2.2.2.2.2.1 b6.out ?_)
    | ((with_reducible refine atW w6 ?_); refine wpList_storeA (w := w6) rfl (.tmp 6) (.tmp 41) rfl w.heap.size (Blk.sect a n r) zs rfl rfl HN.out.2.2.2.2.2.1 (by simp) (HH.out.1.below B96 HH.out.2.2) ?_; (intro w7 b7 B7 s7 _)))
  exact bodyPost_ret (v := arr (Blk.sect a n r)) (w := w7) (results_cell_one Tryd.results21 _ _ _ _ _ rfl (loadA HN.out.2.2.2.2.2.1 b7)) rfl ⟨by rw [HS.out.1], HH.out.2.1.trans ((B96.mono HH.out.2.1.size).trans B7)⟩
end Go.Proofs.YtmbloclkinghnaaDoor
