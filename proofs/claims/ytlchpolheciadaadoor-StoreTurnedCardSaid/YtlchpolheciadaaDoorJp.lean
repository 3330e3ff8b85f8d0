/-
  Several texts in one (JnSec, JnBytes, JnRead, JnDisk, JnProg). Conditions: as each says.
-/
import Derived.Test.YtlchpolheciadaaDoorSa
import Derived.Test.YtlchpolheciadaaDoorJo
import Derived.Test.YtlchpolheciadaaDoorArrEq
import Derived.Laws.Cover3
import Derived.Test.YtlchpolheciadaaDoorDiskAny
import Derived.Test.YtlchpolheciadaaDoorSlNo
import Derived.Test.YtlchpolheciadaaDoorBk
/-
  journal.sector: the array of an entry's sector. Conditions: the table of crc lies as the program's text lays it.
-/
namespace Go.Proofs.YtlchpolheciadaaDoor
open Go.RowKit Fix

/-- the six parts of a sector, laid one behind the other over 64 noughts -/
theorem splice_jnp (a n : Nat) (r : List UInt8) (h : r.length = 32) :
    splice (splice ((splice (splice (splice zs 0 ((dig n 8).take 8)) 8 ((dig a 2).take 2)) 10 (r.take 32)).set 42 1) 54 ((dig n 6).take 6)) 60 ((dig (Crc.sum (Jn.body a n r)) 4).take 4) = Jn.sect a n r ∧
    (splice ((splice (splice (splice zs 0 ((dig n 8).take 8)) 8 ((dig a 2).take 2)) 10 (r.take 32)).set 42 1) 54 ((dig n 6).take 6)).take 60 = Jn.body a n r := by
  have h8 := dig_length n 8
  have h2 := dig_length a 2
  have h6 := dig_length n 6
  have h4 := dig_length (Crc.sum (Jn.body a n r)) 4
  rw [List.take_of_length_le (by omega : (dig n 8).length ≤ 8), List.take_of_length_le (by omega : (dig a 2).length ≤ 2), List.take_of_length_le (by omega : r.length ≤ 32), List.take_of_length_le (by omega : (dig n 6).length ≤ 6), List.take_of_length_le (by omega : (dig (Crc.sum (Jn.body a n r)) 4).length ≤ 4)]
  have e1 : splice zs 0 (dig n 8) = dig n 8 ++ List.replicate 56 0 := by
    unfold splice
    rw [List.take_zero, List.nil_append, h8, List.drop_replicate]
  have e2 : splice (dig n 8 ++ List.replicate 56 (0 : UInt8)) 8 (dig a 2) = (dig n 8 ++ dig a 2) ++ List.replicate 54 0 := by
    unfold splice
    rw [List.take_left' h8, h2, List.drop_append, List.drop_of_length_le (by omega), List.nil_append, h8, List.drop_replicate]
    simp only [List.append_assoc]
  have l10 : (dig n 8 ++ dig a 2).length = 10 := by rw [List.length_append, h8, h2]
  have e3 : splice ((dig n 8 ++ dig a 2) ++ List.replicate 54 (0 : UInt8)) 10 r = (dig n 8 ++ dig a 2 ++ r) ++ List.replicate 22 0 := by
    unfold splice
    rw [List.take_left' l10, List.drop_append, List.drop_of_length_le (by omega), List.nil_append, l10, List.drop_replicate, h]
    show dig n 8 ++ dig a 2 ++ (r ++ List.replicate 22 0) = _
    rw [List.append_assoc (dig n 8 ++ dig a 2)]
  have l42 : (dig n 8 ++ dig a 2 ++ r).length = 42 := by rw [List.length_append, l10, h]
  have e35 : ((dig n 8 ++ dig a 2 ++ r) ++ List.replicate 22 (0 : UInt8)).set 42 1 = (dig n 8 ++ dig a 2 ++ r ++ Jn.mid) ++ List.replicate 10 0 := by
    rw [List.set_append_right _ _ (by omega), l42, List.append_assoc (dig n 8 ++ dig a 2 ++ r) Jn.mid]
    rfl
  have l54 : (dig n 8 ++ dig a 2 ++ r ++ Jn.mid).length = 54 := by rw [List.length_append, l42, Jn.mid_length]
  have e4 : splice ((dig n 8 ++ dig a 2 ++ r ++ Jn.mid) ++ List.replicate 10 (0 : UInt8)) 54 (dig n 6) = Jn.body a n r ++ List.replicate 4 0 := by
    unfold splice Jn.body
    rw [List.take_left' l54, List.drop_append, List.drop_of_length_le (by omega), List.nil_append, l54, List.drop_replicate, h6]
    simp only [List.append_assoc]
  rw [e1, e2, e3, e35, e4]
  have lb := Jn.body_length a n r h
  refine ⟨?_, List.take_left' lb⟩
  unfold splice Jn.sect Slot.seal_
  rw [List.take_left' lb, h4, List.drop_of_length_le (by rw [List.length_append, lb, List.length_replicate]; exact Nat.le_refl _), List.append_nil]
theorem cutA_0hJ (g h : Nat) (hh : h ≤ 64) (W : World) : (Instr.sliceAt 89 (.pointer (some ⟨g, 0, none⟩)) (some (.int .i64 0)) (some (.int .i64 (h : Int))) none).run Tryd.prog W = .ok (.slice (some ⟨g, 0, none⟩) h 64) W := by
  rw [run_sliceAt_array_lh W 89 ⟨g, 0, none⟩ elemA .i64 .i64 0 (h : Int) (by omega) (by omega) (by rw [lenA]; omega), oneA, lenA]
  simp [Result.andThen, slicedAt, Addr.add]
def JnSecPost (a n : Nat) (r : List UInt8) (w : World) (e : Ending) (w' : World) : Prop := e = .returned (arr (Jn.sect a n r)) ∧ Below w.heap.size w w'
set_option maxRecDepth 100000 in
set_option maxHeartbeats 2000000 in
theorem jnSector_any (a n : Nat) (A : Option Addr) (r : List UInt8) (c : Nat) (hm : r.length = 32) (ha : a < 64) (hn : n ≤ 1099511627776) (w : World) (ht : TabAt w) (hr : BytesAt w w.heap.size A r) :
    Calls Tryd.prog 71 #[.agg (entN a n A 32 c).toArray] w (JnSecPost a n r w) := by
  have ew : IntKind.u64.wrap (n : Int) = (n : Int) := by rw [IntKind.wrap_u64]; omega
  have q8 : ∀ g W, (Instr.sliceAt 89 (.pointer (some ⟨g, 0, none⟩)) none (some (.int .i64 8)) none).run Tryd.prog W = .ok (.slice (some ⟨g, 0, none⟩) 8 64) W := fun g W => cutA_h g 8 (by decide) W
  have q10 : ∀ g W, (Instr.sliceAt 89 (.pointer (some ⟨g, 0, none⟩)) (some (.int .i64 8)) (some (.int .i64 10)) none).run Tryd.prog W = .ok (.slice (some ⟨g, 8, none⟩) 2 56) W := fun g W => cutA_lh g 8 10 (by decide) (by decide) (by decide) (by decide) W
  have q54 : ∀ g W, (Instr.sliceAt 89 (.pointer (some ⟨g, 0, none⟩)) (some (.int .i64 10)) (some (.int .i64 42)) none).run Tryd.prog W = .ok (.slice (some ⟨g, 10, none⟩) 32 54) W := fun g W => cutA_lh g 10 42 (by decide) (by decide) (by decide) (by decide) W
  have q60 : ∀ g W, (Instr.sliceAt 89 (.pointer (some ⟨g, 0, none⟩)) (some (.int .i64 54)) (some (.int .i64 60)) none).run Tryd.prog W = .ok (.slice (some ⟨g, 54, none⟩) 6 10) W := fun g W => cutA_lh g 54 60 (by decide) (by decide) (by decide) (by decide) W
  have q64 : ∀ g W, (Instr.sliceAt 89 (.pointer (some ⟨g, 0, none⟩)) (some (.int .i64 60)) none none).run Tryd.prog W = .ok (.slice (some ⟨g, 60, none⟩) 4 4) W := fun g W => cutA_l g 60 (by decide) (by decide) W
  have p60 : ∀ g W, (Instr.sliceAt 89 (.pointer (some ⟨g, 0, none⟩)) none (some (.int .i64 60)) none).run Tryd.prog W = .ok (.slice (some ⟨g, 0, none⟩) 60 64) W := fun g W => cutA_h g 60 (by decide) W
  have zp2 : ∀ w : World, Calls Tryd.prog 66 #[.int .i64 (a : Int), .int .i64 2] w fun e w' => ∃ A c, e = .returned (.tuple #[.slice A 2 c, .int .i64 0]) ∧ 2 ≤ c ∧ BytesAt w' w'.heap.size A (dig a 2) ∧ Below w.heap.size w w' := put_good a 2 (by omega) (by omega) (by omega)
  have zp6 : ∀ w : World, Calls Tryd.prog 66 #[.int .i64 (n : Int), .int .i64 6] w fun e w' => ∃ A c, e = .returned (.tuple #[.slice A 6 c, .int .i64 0]) ∧ 6 ≤ c ∧ BytesAt w' w'.heap.size A (dig n 6) ∧ Below w.heap.size w w' := put_good n 6 (by omega) (by omega) (by omega)
  have zl : ∀ w : World, _ := fun w => long_any n w
  have hz64 : zs.length = 64 := by simp
  obtain ⟨hs1, hs2⟩ := splice_jnp a n r hm
  obtain ⟨l1, hl1⟩ : ∃ l, l = splice zs 0 ((dig n 8).take 8) := ⟨_, rfl⟩
  rw [← hl1] at hs1 hs2
  obtain ⟨l2, hl2⟩ : ∃ l, l = splice l1 8 ((dig a 2).take 2) := ⟨_, rfl⟩
  rw [← hl2] at hs1 hs2
  obtain ⟨l3, hl3⟩ : ∃ l, l = splice l2 10 (r.take 32) := ⟨_, rfl⟩
  rw [← hl3] at hs1 hs2
  obtain ⟨l5, hl5⟩ : ∃ l, l = l3.set 42 1 := ⟨_, rfl⟩
  rw [← hl5] at hs1 hs2
  obtain ⟨l4, hl4⟩ : ∃ l, l = splice l5 54 ((dig n 6).take 6) := ⟨_, rfl⟩
  rw [← hl4] at hs1 hs2
  have n1 : l1.length = 64 := by rw [hl1, length_splice _ _ _ (by simp [dig_length])]; simp
  have n2 : l2.length = 64 := by rw [hl2, length_splice _ _ _ (by simp [dig_length]; omega)]; exact n1
  have n3 : l3.length = 64 := by rw [hl3, length_splice _ _ _ (by simp; omega)]; exact n2
  have n5 : l5.length = 64 := by rw [hl5, List.length_set]; exact n3
  have n4 : l4.length = 64 := by rw [hl4, length_splice _ _ _ (by simp [dig_length]; omega)]; exact n5
  have hbl := Jn.body_length a n r hm
  have hsl := Jn.sect_length a n r hm
  have hcs := Crc.sum_lt (Jn.body a n r)
  have HL := Lib.hid (And.intro hl1 (And.intro hl2 (And.intro hl3 (And.intro hl4 (And.intro hs1 hs2)))))
  have HL5 := Lib.hid (And.intro hl5 n5)
  have HN := Lib.hid (And.intro n1 (And.intro n2 (And.intro n3 (And.intro n4 (And.intro hbl (And.intro hsl hcs))))))
  have HM := Lib.hid hm
  have d8 := Lib.hid (dig_length n 8)
  have d2 := Lib.hid (dig_length a 2)
  have d6 := Lib.hid (dig_length n 6)
  have d4 := Lib.hid (dig_length (Crc.sum (Jn.body a n r)) 4)
  unfold JnSecPost
  obtain ⟨sc, hsc⟩ : ∃ x, x = Jn.sect a n r := ⟨_, rfl⟩
  rw [← hsc] at hs1 ⊢
  obtain ⟨s0, hs0⟩ : ∃ x, x = Crc.sum (Jn.body a n r) := ⟨_, rfl⟩
  have HS := Lib.hid (And.intro hsc hs0)
  -- the entry in a variable of its own
  have bx := BlkR.new w (entN a n A 32 c) 79
  have BW : Below w.heap.size w (w.alloc (.cells (entN a n A 32 c).toArray 79)) := (Below.refl _ _).alloc (Nat.le_refl _) _
  obtain ⟨W, hW⟩ : ∃ W, W = w.alloc (.cells (entN a n A 32 c).toArray 79) := ⟨_, rfl⟩
  rw [← hW] at bx BW
  have tW := ht.below BW (Nat.le_refl _)
  have rW := hr.step BW
  have KX : Hid (∀ w', Below W.heap.size W w' → w'.cell? ⟨w.heap.size, 0, none⟩ = some (.int .i64 (a : Int)) ∧ w'.cell? ⟨w.heap.size, 1, none⟩ = some (.int .i64 (n : Int)) ∧ w'.cell? ⟨w.heap.size, 2, none⟩ = some (.slice A 32 c)) := Lib.hid fun w' hb => ⟨(bx.step hb).cell rfl, (bx.step hb).cell rfl, (bx.step hb).cell rfl⟩
  have HB := Lib.hid BW
  unfold entN at hW ⊢
  clear hl1 hl2 hl3 hl4 hl5 n1 n2 n3 n4 n5 hs1 hs2 hbl hsl hcs hm hsc hs0 bx BW ht hr
  go_enter Tryd.func71, Tryd.ntmps71
  go_wp2_with (first
    | (rw [← hW]; (with_reducible refine atW W ?_); refine wpList_allocA (w := W) rfl rfl ?_; (intro w1 e1; have b1 : BlkR 89 w1 W.heap.size (cellsOfBytes zs) := (by rw [e1]; exact BlkR.new W _ _); have B1 : Below W.heap.size W w1 := (by rw [e1]; exact (Below.refl _ _).alloc (Nat.le_refl _) _); have s1 : W.heap.size < w1.heap.size := (by rw [e1]; simp); have t1 := tW.below B1 (Nat.le_refl _); have r1 := rW.step B1; obtain ⟨y1, y2, y3⟩ := KX.out w1 B1; clear e1 hW))
    | (go_at_call 66; first
      | ((with_reducible refine (zp2 w1).mono ?_); (rintro e w2 ⟨A2, c2, rfl, hc2, k2, B2⟩; have t2 := t1.below B2 (Nat.le_refl _); have r2 := r1.step B2; have b2 := b1.step B2; obtain ⟨x1, x2, x3⟩ := KX.out w2 (step_trans B1 B2)))
      | ((with_reducible refine (zp6 w2).mono ?_); (rintro e w3 ⟨A3, c3, rfl, hc3, k3, B3⟩; have t3 := t2.below B3 (Nat.le_refl _); have r3 := r2.step B3; have k23 := k2.step B3; have b3 := b2.step B3; have B13 := step_trans B1 (step_trans B2 B3); have s13 := Nat.lt_of_lt_of_le s1 (Nat.le_trans B2.size B3.size))))
    | (refine wpList_allocA (w := w3) rfl rfl ?_; (intro w4 e4; have b4 : BlkR 89 w4 w3.heap.size (cellsOfBytes zs) := (by rw [e4]; exact BlkR.new w3 _ _); have B4 : Below w3.heap.size w3 w4 := (by rw [e4]; exact (Below.refl _ _).alloc (Nat.le_refl _) _); have b14 := b3.step B4; clear e4)))
  have B14 := step_trans B13 B4
  have HH := Lib.hid (And.intro b3 (And.intro B13 s13))
  have HR := Lib.hid (And.intro r3 (And.intro k23 (And.intro k3 t3)))
  obtain ⟨_, g2, _⟩ := KX.out w4 B14
  obtain ⟨_, g5, _⟩ := KX.out w4.drew B14.drew
  clear b1 B1 s1 t1 r1 B2 t2 r2 b2 B3 r3 k23 b3 B13 B14 b14 k2 k3 t3 y1 y2 y3 x1 x2 x3
  go_region_held3 (fun w' => w'.cell? ⟨w.heap.size, 1, none⟩ = some (.int .i64 (n : Int))) (first | assumption) (first
    | (go_at_call 67; refine (zl w4.drew).mono ?_; (rintro e w5 ⟨u5, rfl, hu5, h5, B5⟩; have B5 : Below w4.heap.size w4 w5 := undrew B5; obtain ⟨w6, run6, b6, B6, s6⟩ := run_copyB w5 3 89 w3.heap.size 0 8 64 (some ⟨u5, 0, none⟩) zs (dig n 8) 8 8 d8.out (by decide) (by decide) (b4.step B5) h5.at_ (by simp); rw [← HL.out.1] at b6; have B45 := B4.trans (B5.mono B4.size); have B46 := B45.trans B6; have g9 := (KX.out w6 (step_trans HH.out.2.1 B46)).2.1; have g8 := (KX.out w5 (step_trans HH.out.2.1 B45)).2.1; have b6 := Lib.hid b6; have k26 := HR.out.2.1.step B46)))
  clear zl B4 b4 run6 B5 B6 B45 h5 zp2 zp6 q8 d8 g2 g5 g8 g9
  go_wp2_with ((with_reducible refine atW w6 ?_); refine wpList_copyB (w := w6) rfl (.tmp 26) (.tmp 27) rfl 89 w3.heap.size 8 2 56 (some ⟨w3.heap.size, 8, none⟩) A2 2 c2 rfl rfl (fun _ => rfl) l1 (dig a 2) d2.out b6.out k26 (by rw [HN.out.1]; decide) w3.heap.size w3 B46 (Nat.le_refl _) ?_; (intro w7 b7 B7; rw [← HL.out.2.1] at b7; have r7 := HR.out.1.step B7))
  have D7 := B7.drew
  obtain ⟨w8, run8, b8, B8, s8⟩ := run_copyB w7.drew 3 89 w3.heap.size 10 32 54 A l2 r 32 c HM.out (by decide) (by decide) (b7.step (Below.refl _ _).drew) (HR.out.1.step D7) (by rw [HN.out.2.1]; decide)
  rw [← HL.out.2.2.1] at b8
  have B78 := D7.trans B8
  have E7 := step_trans HH.out.2.1 B7
  obtain ⟨_, _, g6⟩ := KX.out w7 E7
  obtain ⟨_, _, g7⟩ := KX.out w7.drew E7.drew
  obtain ⟨_, _, g8⟩ := KX.out w8 (step_trans HH.out.2.1 B78)
  have t42 := b8.cell (k := 42) (u := .int .u8 ((l3.getD 42 0).toNat : Int)) (cellsOfBytes_get l3 42 (by rw [HN.out.2.2.1]; decide))
  have f42 := b8.frozen 42
  have b9 : BlkR 89 (w8.setCell ⟨w3.heap.size, 42, none⟩ (.int .u8 1)) w3.heap.size (cellsOfBytes l5) := by
    rw [HL5.out.1]
    exact bytesR_set b8 42 1
  have B9 : Below w3.heap.size w3 (w8.setCell ⟨w3.heap.size, 42, none⟩ (.int .u8 1)) := B78.setCell (p := ⟨w3.heap.size, 42, none⟩) (Nat.le_refl _) _
  have b9 := Lib.hid b9
  have B9 := Lib.hid B9
  clear b7 B7 b6 k26 B46 r7 D7 E7 b8 B8 B78
  go_region_held3 (fun w' => w'.cell? ⟨w.heap.size, 2, none⟩ = some (.slice A 32 c)) (first | assumption) (fail)
  clear q54
  have k38 := HR.out.2.2.1.step B9.out
  go_wp2_with ((with_reducible refine atW (w8.setCell ⟨w3.heap.size, 42, none⟩ (.int .u8 1)) ?_); refine wpList_copyB (w := w8.setCell ⟨w3.heap.size, 42, none⟩ (.int .u8 1)) rfl (.tmp 34) (.tmp 35) rfl 89 w3.heap.size 54 6 10 (some ⟨w3.heap.size, 54, none⟩) A3 6 c3 rfl rfl (fun _ => rfl) l5 (dig n 6) d6.out b9.out k38 (by rw [HL5.out.2]; decide) w3.heap.size w3 B9.out (Nat.le_refl _) ?_; (intro w10 b10 B10; rw [← HL.out.2.2.2.1] at b10))
  have k10 : BytesAt w10 w10.heap.size (some ⟨w3.heap.size, 0, none⟩) (Jn.body a n r) := by
    have := b10.cut 60
    rwa [HL.out.2.2.2.2.2] at this
  have t10 := HR.out.2.2.2.below B10 (Nat.le_refl _)
  have zs0 := sum_n (some ⟨w3.heap.size, 0, none⟩) (Jn.body a n r) 60 64 HN.out.2.2.2.2.1 _ w10.drew t10 (by rw [HN.out.2.2.2.2.1]; decide) k10
  have zw : ∀ w, _ := fun w => word_any (Crc.sum (Jn.body a n r)) HN.out.2.2.2.2.2.2 w
  clear b9 B9 k38 zs0 run8 s8 t42 f42 g6 g7 g8
  go_region_held3 (fun w' => Below w3.heap.size w3 w') (first | assumption | exact B10.drew) (first
    | (go_at_call 69; refine (sum_n (some ⟨w3.heap.size, 0, none⟩) (Jn.body a n r) 60 64 HN.out.2.2.2.2.1 _ w10.drew t10 (by rw [HN.out.2.2.2.2.1]; decide) k10).mono ?_; (rintro e w11 ⟨rfl, rfl⟩))
    | (go_at_call 68; refine (zw w10.drew).mono ?_; (rintro e w5 ⟨g5, rfl, hg5, h5, B5⟩; have B5 : Below w10.heap.size w10 w5 := undrew B5; obtain ⟨w6, run6, b6, B6, s6⟩ := run_copyB w5 3 89 w3.heap.size 60 4 4 (some ⟨g5, 0, none⟩) l4 (dig (Crc.sum (Jn.body a n r)) 4) 4 4 d4.out (by decide) (by decide) (b10.step B5) h5.at_ (by rw [HN.out.2.2.2.1]; decide); rw [HL.out.2.2.2.2.1] at b6; have B95 := B10.trans (B5.mono B10.size); have B96 := B95.trans B6; have b6 := Lib.hid b6)))
  clear b10 k10 t10 B5 B6 B95 zw run6 s6 h5 hg5
  go_wp2_with (first
    | ((with_reducible refine atW w6 ?_); refine wpList_loadA (w := w6) rfl (.tmp 7) rfl w3.heap.size (Jn.sect a n r) rfl HN.out.2.2.2.2.2.1 b6.out ?_)
    | ((with_reducible refine atW w6 ?_); refine wpList_storeA (w := w6) rfl (.tmp 2) (.tmp 42) rfl W.heap.size (Jn.sect a n r) zs rfl rfl HN.out.2.2.2.2.2.1 (by simp) (HH.out.1.below B96 HH.out.2.2) ?_; (intro w7 b7 B7 s7 _)))
  exact bodyPost_ret (v := arr (Jn.sect a n r)) (w := w7) (results_cell_one Tryd.results71 _ _ _ _ _ rfl (loadA HN.out.2.2.2.2.2.1 b7)) rfl ⟨by rw [HS.out.1], HB.out.trans ((HH.out.2.1.trans ((B96.mono HH.out.2.1.size).trans B7)).mono HB.out.size)⟩
end Go.Proofs.YtlchpolheciadaaDoor
/-
  journal.check, journal.Bytes: what they tell. Conditions: the table of crc lies as the program's text lays it; the bytes can be read.
-/
namespace Go.Proofs.YtlchpolheciadaaDoor
open Go.RowKit Fix

theorem JbPost.none_ {e : Ent} (h : Jn.may e = false) {w W : World} (B : Below w.heap.size w W) : JbPost e w (.returned (.tuple #[.slice none 0 0, .int .i64 2])) W := by
  have e1 := Jn.bytesB_no h
  exact ⟨none, 0, by rw [Jn.bytesE_no h, e1]; rfl, by decide, by rw [e1]; exact Whole.none_, B⟩
set_option maxRecDepth 100000 in
theorem journalCheck_go (eb en : Int) (A : Option Addr) (m c : Nat) (w : World) :
    Calls Tryd.prog 70 #[.agg (entN eb en A m c).toArray] w fun x w' => x = .returned (.int .i64 (if 0 ≤ eb ∧ eb < 64 ∧ 1 ≤ en ∧ en ≤ 1099511627776 ∧ m = 32 then 0 else 2)) ∧ Below w.heap.size w w' := by
  have bx := BlkR.new w (entN eb en A m c) 79
  have B : Below w.heap.size w (w.alloc (.cells (entN eb en A m c).toArray 79)) := (Below.refl _ _).alloc (Nat.le_refl _) _
  have y0 : (w.alloc (.cells (entN eb en A m c).toArray 79)).cell? ⟨w.heap.size, 0, none⟩ = some (.int .i64 eb) := bx.cell rfl
  have y1 : (w.alloc (.cells (entN eb en A m c).toArray 79)).cell? ⟨w.heap.size, 1, none⟩ = some (.int .i64 en) := bx.cell rfl
  have y2 : (w.alloc (.cells (entN eb en A m c).toArray 79)).cell? ⟨w.heap.size, 2, none⟩ = some (.slice A m c) := bx.cell rfl
  obtain ⟨x, hx⟩ : ∃ x : Int, x = if 0 ≤ eb ∧ eb < 64 ∧ 1 ≤ en ∧ en ≤ 1099511627776 ∧ m = 32 then 0 else 2 := ⟨_, rfl⟩
  rw [← hx]
  have HB := Lib.hid B
  clear bx B
  unfold entN at *
  by_cases i1 : eb < 0
  · obtain rfl : x = 2 := by rw [hx, if_neg (by omega)]
    clear hx
    go_enter Tryd.func70, Tryd.ntmps70
    go_wp2
    go_ret
    exact ⟨rfl, HB.out⟩
  · by_cases i2 : 64 ≤ eb
    · obtain rfl : x = 2 := by rw [hx, if_neg (by omega)]
      clear hx
      go_enter Tryd.func70, Tryd.ntmps70
      go_wp2
      go_ret
      exact ⟨rfl, HB.out⟩
    · by_cases i3 : en < 1
      · obtain rfl : x = 2 := by rw [hx, if_neg (by omega)]
        clear hx
        go_enter Tryd.func70, Tryd.ntmps70
        go_wp2
        go_ret
        exact ⟨rfl, HB.out⟩
      · by_cases i4 : 1099511627776 < en
        · obtain rfl : x = 2 := by rw [hx, if_neg (by omega)]
          clear hx
          go_enter Tryd.func70, Tryd.ntmps70
          go_wp2
          go_ret
          exact ⟨rfl, HB.out⟩
        · by_cases i5 : m = 32
          · obtain rfl : x = 0 := by rw [hx, if_pos (by omega)]
            clear hx
            subst i5
            go_enter Tryd.func70, Tryd.ntmps70
            go_wp2
            go_ret
            exact ⟨rfl, HB.out⟩
          · obtain rfl : x = 2 := by rw [hx, if_neg (by omega)]
            have i6 : ((m : Int) != 32) = true := by simp; omega
            clear hx i5
            go_enter Tryd.func70, Tryd.ntmps70
            go_wp2
            go_ret
            exact ⟨rfl, HB.out⟩
theorem journalCheck_any (e : Ent) (A : Option Addr) (c : Nat) (w : World) :
    Calls Tryd.prog 70 #[.agg (entL e A c).toArray] w fun x w' => x = .returned (.int .i64 (Jn.bytesE e)) ∧ Below w.heap.size w w' := by
  obtain ⟨eb, en, d⟩ := e
  refine (journalCheck_go eb en A d.length c w).mono fun x w' ⟨h1, h2⟩ => ⟨?_, h2⟩
  rw [h1]
  congr 2
  unfold Jn.bytesE
  by_cases h : Jn.may ⟨eb, en, d⟩ = true
  · rw [if_pos h, if_pos ((Jn.may_mk _ _ _).1 h)]
  · rw [if_neg h, if_neg (fun x => h ((Jn.may_mk _ _ _).2 x))]
set_option maxRecDepth 100000 in
theorem journalBytes_any (e : Ent) (A : Option Addr) (c : Nat) (w : World) (ht : TabAt w) (hr : BytesAt w w.heap.size A e.d) : Calls Tryd.prog 64 #[.agg (entL e A c).toArray] w (JbPost e w) := by
  have bx := boxE w e A c
  obtain ⟨W, hW⟩ : ∃ W, W = w.alloc (.cells (entL e A c).toArray 79) := ⟨_, rfl⟩
  rw [← hW] at bx
  have HB := Lib.hid bx.out.2
  have HX := Lib.hid (show ∀ w', Below W.heap.size W w' → TabAt w' ∧ BytesAt w' w'.heap.size A e.d ∧ BlkR 79 w' w.heap.size (entL e A c) from fun w' h => ⟨ht.below (step_trans bx.out.2 h) (Nat.le_refl _), hr.step (step_trans bx.out.2 h), bx.out.1.step h⟩)
  have zc := journalCheck_any e A c W
  by_cases hy : Jn.may e = true
  · obtain ⟨a, k, he, h1, h2, h3, h4⟩ := Jn.may_nat hy
    obtain ⟨eb, en, d⟩ := e
    injection he with ha hk
    subst ha hk
    have h4 : d.length = 32 := h4
    have e2 := Jn.bytesB_yes hy
    have e1 := Jn.bytesE_yes hy
    have hse := Jn.sect_length a k d h4
    unfold JbPost
    rw [e1, e2, hse]
    rw [e1] at zc
    have z0 := fun w1 t r => jnSector_any a k A d c h4 h1 h3 w1 t r
    unfold JnSecPost at z0
    have hz64 := Lib.hid hse
    have qa := fun g W => cutA_all g W
    have eL := entL_eq (a : Int) (k : Int) d 32 h4 A c
    rw [eL] at hW HX zc ⊢
    clear bx eL e1 e2 hse h1 h2 h3 h4 hy ht hr
    unfold entN at hW zc z0 ⊢
    go_enter Tryd.func64, Tryd.ntmps64
    go_wp2_with (first
      | ((with_reducible refine atWorld (w.alloc (.cells #[.int .i64 (a : Int), .int .i64 (k : Int), .slice A 32 c] 79)) ?_); rw [← hW]; refine wpList_loadRow (w := W) entTy rfl (.tmp 1) rfl w.heap.size 0 [.int .i64 (a : Int), .int .i64 (k : Int), .slice A 32 c] rfl rfl (rangeOf (HX.out W (Below.refl _ _)).2.2) ?_)
      | (go_at_call 70; rw [← hW]; refine zc.mono ?_; (rintro e w1 ⟨rfl, B1⟩; obtain ⟨t1, r1, x1⟩ := HX.out w1 B1; have x1 := Lib.hid x1; clear hW))
      | ((with_reducible refine atWorld w1 ?_); refine wpList_loadRow (w := w1) entTy rfl (.tmp 1) rfl w.heap.size 0 [.int .i64 (a : Int), .int .i64 (k : Int), .slice A 32 c] rfl rfl (rangeOf x1.out) ?_)
      | (go_at_call 71; refine (z0 w1 t1 r1).mono ?_; (rintro e w2 ⟨rfl, B2⟩; have C2 := step_trans B1 B2))
      | ((with_reducible refine atW w2 ?_); refine wpList_allocA (w := w2) rfl rfl ?_; (intro w3 e3; have b3 : BlkR 89 w3 w2.heap.size (cellsOfBytes zs) := (by rw [e3]; exact BlkR.new w2 _ _); have B3 : Below w2.heap.size w2 w3 := (by rw [e3]; exact (Below.refl _ _).alloc (Nat.le_refl _) _); clear e3))
      | ((with_reducible refine atW w3 ?_); refine wpList_storeA (w := w3) rfl (.tmp 5) (.tmp 12) rfl w2.heap.size (Jn.sect a k d) zs rfl rfl hz64.out (by simp) b3 ?_; (intro w4 b4 B4 s4 _)))
    go_ret2
    exact ⟨some ⟨w2.heap.size, 0, none⟩, 64, rfl, by decide, .inr ⟨w2.heap.size, 0, _, rfl, Nat.le_trans HB.out.size C2.size, by rw [List.replicate_zero, List.append_nil]; exact b4, by rw [hz64.out]⟩, step_trans HB.out (C2.trans ((B3.trans B4).mono C2.size))⟩
  · replace hy : Jn.may e = false := by simpa using hy
    have hp := Lib.hid (fun w1 (B : Below W.heap.size W w1) => JbPost.none_ hy (step_trans HB.out B))
    rw [Jn.bytesE_no hy] at zc
    obtain ⟨Q, hQ⟩ : ∃ Q, Q = JbPost e w := ⟨_, rfl⟩
    rw [← hQ] at hp ⊢
    clear bx hQ hr ht hy
    obtain ⟨eb, en, d⟩ := e
    obtain ⟨m, hm⟩ : ∃ m, m = d.length := ⟨_, rfl⟩
    unfold entL at hW zc HX ⊢
    simp only [← hm] at hW zc HX ⊢
    clear hm
    go_enter Tryd.func64, Tryd.ntmps64
    go_wp2_with (first
      | ((with_reducible refine atWorld (w.alloc (.cells #[.int .i64 eb, .int .i64 en, .slice A m c] 79)) ?_); rw [← hW]; refine wpList_loadRow (w := W) entTy rfl (.tmp 1) rfl w.heap.size 0 [.int .i64 eb, .int .i64 en, .slice A m c] rfl rfl (rangeOf (HX.out W (Below.refl _ _)).2.2) ?_)
      | (go_at_call 70; rw [← hW]; refine zc.mono ?_; (rintro e w1 ⟨rfl, B1⟩; clear hW)))
    exact hp.out w1 B1
end Go.Proofs.YtlchpolheciadaaDoor
/-
  journal.said, journal.isEntry, journal.Read: what they tell. Conditions: the table of crc lies as the program's text lays it; the bytes can be read.
-/
namespace Go.Proofs.YtlchpolheciadaaDoor
open Go.RowKit Fix

theorem jnNum (l : List UInt8) (h : l.length = 64) : getN l 0 8 = Jn.num l := by
  unfold getN inN inR Jn.num
  rw [h]
  rfl
theorem jnPlace (l : List UInt8) (h : l.length = 64) : getsN l 8 2 = Jn.place l := by
  unfold getsN isz getN inN inR Jn.place
  rw [h]
  rfl
theorem JrPost.none_ {l : List UInt8} {x : Int} {w w' : World} (h : Jn.right l = false) (hx : Jn.readE l = x) (hB : Below w.heap.size w w') : JrPost l w (.returned (.tuple #[.agg entZ.toArray, .int .i64 x])) w' :=
  ⟨none, 0, by rw [hx, Jn.readV_no h, entZ_eq], by decide, by rw [Jn.readV_no h]; exact Inner.none_, hB⟩
theorem entZ_one : ∀ v ∈ entZ, v.oneCell' = true := by
  intro v hv
  simp only [entZ, List.mem_cons, List.not_mem_nil, or_false] at hv
  rcases hv with rfl | rfl | rfl <;> rfl
theorem cutA_lhm (g : Nat) (W : World) : (Instr.sliceAt 89 (.pointer (some ⟨g, 0, none⟩)) (some (.int .i64 10)) (some (.int .i64 42)) (some (.int .i64 42))).run Tryd.prog W = .ok (.slice (some ⟨g, 10, none⟩) 32 32) W := by
  rw [run_sliceAt_array_lhm W 89 ⟨g, 0, none⟩ elemA .i64 .i64 .i64 10 42 42 (by decide) (by decide) (by decide) (by rw [lenA]; decide), oneA]
  simp [Result.andThen, slicedAt, Addr.add]
def SaidPost (l : List UInt8) (w : World) (en : Ending) (w' : World) : Prop :=
  en = .returned (.agg (entN (Jn.place l) (IntKind.i64.wrap (Jn.num l : Int)) (some ⟨w.heap.size, 10, none⟩) 32 32).toArray) ∧ BlkR 89 w' w.heap.size (cellsOfBytes l) ∧ Below w.heap.size w w'
set_option maxRecDepth 100000 in
set_option maxHeartbeats 2000000 in
theorem jnSaid_any (l : List UInt8) (h64 : l.length = 64) (w : World) : Calls Tryd.prog 58 #[arr l] w (SaidPost l w) := by
  have hb := BlkR.new w (cellsOfBytes l) 89
  have B0 : Below w.heap.size w (w.alloc (.cells (cellsOfBytes l).toArray 89)) := (Below.refl _ _).alloc (Nat.le_refl _) _
  unfold arr SaidPost
  obtain ⟨C, hC⟩ : ∃ C, C = (cellsOfBytes l).toArray := ⟨_, rfl⟩
  rw [← hC] at hb B0 ⊢
  obtain ⟨W, hW⟩ : ∃ W, W = w.alloc (.cells C 89) := ⟨_, rfl⟩
  rw [← hW] at hb B0
  have hlt : w.heap.size < W.heap.size := by rw [hW]; simp
  have KX : Hid (∀ w', Below W.heap.size W w' → BlkR 89 w' w.heap.size (cellsOfBytes l) ∧ BytesAt w' w'.heap.size (some ⟨w.heap.size, 0, none⟩) l) := Lib.hid fun w' h => ⟨hb.below h hlt, (hb.below h hlt).all⟩
  have zg : ∀ w1, BytesAt w1 w1.heap.size (some ⟨w.heap.size, 0, none⟩) l → _ := fun w1 h => getLong_any (some ⟨w.heap.size, 0, none⟩) l 64 0 w1 (by rw [h64]; decide) (by rw [h64]; decide) h
  have zp : ∀ w1, BytesAt w1 w1.heap.size (some ⟨w.heap.size, 0, none⟩) l → _ := fun w1 h => get_any (some ⟨w.heap.size, 0, none⟩) l 64 8 2 w1 (by rw [h64]; decide) (by rw [h64]; decide) h
  simp only [jnNum l h64] at zg
  simp only [jnPlace l h64] at zp
  rw [h64] at zg zp
  simp only [flt, show getE 64 0 8 = 0 from rfl, show getA 64 0 8 = 0 from rfl] at zg
  simp only [flt, show getsE 64 8 2 = 0 from rfl, show getsA 64 8 2 = 0 from rfl] at zp
  have qa := fun g W => cutA_all g W
  have q10 := fun g W => cutA_lhm g W
  obtain ⟨n, hn⟩ : ∃ n, n = Jn.num l := ⟨_, rfl⟩
  obtain ⟨p, hp⟩ : ∃ n, n = Jn.place l := ⟨_, rfl⟩
  rw [← hn] at zg ⊢
  rw [← hp] at zp ⊢
  obtain ⟨nn, hnn⟩ : ∃ x, IntKind.i64.wrap (n : Int) = x := ⟨_, rfl⟩
  rw [hnn]
  have HB := Lib.hid B0
  clear hn hp hC hb B0 hlt h64
  go_enter Tryd.func58, Tryd.ntmps58
  go_wp2_with (first
    | ((with_reducible refine atWorld (w.alloc (.cells C 89)) ?_); rw [← hW]; refine wpList_allocRow (w := W) entTy rfl rfl ?_; (intro w1 b1 B1 s1; obtain ⟨x1, r1⟩ := KX.out w1 B1; have b1 := Lib.hid b1; replace s1 := Lib.hid s1; clear hW))
    | (go_at_call 59; refine (zg w1 r1).mono ?_; (rintro e w2 ⟨rfl, B2⟩; have B2' := step_trans B2 (fltBelow w2 0 0); obtain ⟨x2, r2⟩ := KX.out _ (step_trans B1 B2')))
    | (go_at_call 72; refine (zp _ r2).mono ?_; (rintro e w3 ⟨rfl, B3⟩; have B3' := step_trans B2' (step_trans B3 (fltBelow w3 0 0)); have b3 := Lib.hid (b1.out.step B3')))
    | ((with_reducible refine atWorld (w3.alloc (.cells #[.int .i64 0, .int .i64 0] 105)) ?_); refine wpList_storeRow (w := w3.alloc (.cells #[.int .i64 0, .int .i64 0] 105)) entTy rfl (.tmp 2) (.tmp 25) rfl W.heap.size (entN p nn (some ⟨w.heap.size, 10, none⟩) 32 32) entZ rfl rfl rfl rfl (entN_one _ _ _ _ _) b3.out ?_; (intro w9 b9 B9 s9 k9; have b9 := Lib.hid b9; replace s9 := Lib.hid s9)))
  have b9 := b9.out
  have C9 := (step_trans B1 B3').trans B9
  exact bodyPost_ret (w := w9) (results_cell1 Tryd.results58 _ _ _ _ _ rfl (loadRow entTy (by rfl) b9)) rfl ⟨rfl, (KX.out w9 C9).1, step_trans HB.out C9⟩
set_option maxRecDepth 100000 in
set_option maxHeartbeats 2000000 in
theorem jnIs_any (l : List UInt8) (h64 : l.length = 64) (w : World) (ht : TabAt w) : Calls Tryd.prog 57 #[arr l] w fun en w' => en = .returned (.bool (Jn.right l)) ∧ Below w.heap.size w w' := by
  have hb := BlkR.new w (cellsOfBytes l) 89
  have B0 : Below w.heap.size w (w.alloc (.cells (cellsOfBytes l).toArray 89)) := (Below.refl _ _).alloc (Nat.le_refl _) _
  have hdl := Jn.dat_length h64
  have hlp : Jn.place l < 65536 := by have := le_take_lt (l.drop 8) 2 (by rw [List.length_drop, h64]; decide); exact this
  obtain ⟨nn, hnn⟩ : ∃ x, IntKind.i64.wrap (Jn.num l : Int) = x := ⟨_, rfl⟩
  have N1 := fun h => Jn.not_right l nn hnn h
  have N2 := fun h => Jn.num_wrap l nn h64 hnn h
  have eL := entL_eq (Jn.place l : Int) nn (Jn.dat l) 32 hdl
  unfold arr
  obtain ⟨C, hC⟩ : ∃ C, C = (cellsOfBytes l).toArray := ⟨_, rfl⟩
  rw [← hC] at hb B0 ⊢
  obtain ⟨W, hW⟩ : ∃ W, W = w.alloc (.cells C 89) := ⟨_, rfl⟩
  rw [← hW] at hb B0
  have hlt : w.heap.size < W.heap.size := by rw [hW]; simp
  have tW := ht.below B0 (Nat.le_refl _)
  have zs := jnSaid_any l h64 W
  unfold SaidPost at zs
  rw [hnn] at zs
  have zc := fun A c w1 => journalCheck_any ⟨Jn.place l, nn, Jn.dat l⟩ A c w1
  simp only [eL] at zc
  have KX : Hid (∀ w', Below W.heap.size W w' → BlkR 89 w' w.heap.size (cellsOfBytes l) ∧ TabAt w') := Lib.hid fun w' h => ⟨hb.below h hlt, tW.below h (Nat.le_refl _)⟩
  have DX : Hid (∀ w', BlkR 89 w' W.heap.size (cellsOfBytes l) → BytesAt w' w'.heap.size (some ⟨W.heap.size, 10, none⟩) (Jn.dat l)) := Lib.hid fun w' h => by
    have := (Inner.bytes (w := w') (base := 0) (A := some ⟨W.heap.size, 10, none⟩) (c := 32) (l := Jn.dat l) (.inr ⟨W.heap.size, 10, _, l, rfl, Nat.zero_le _, h, hdl.symm, rfl⟩))
    exact this
  have HB := Lib.hid B0
  have H64 := Lib.hid h64
  have HW := Lib.hid hb
  have hsz : (Tryd.prog.info? 89).map (·.size) = some (cellsOfBytes l).length := by rw [cellsOfBytes_length, h64]; exact sizeA
  have hun := underA
  cases hz : Jn.may ⟨Jn.place l, nn, Jn.dat l⟩ with
  | true =>
    have en := N2 hz
    have ez : Jn.may ⟨Jn.place l, Jn.num l, Jn.dat l⟩ = true := by rw [← en]; exact hz
    obtain ⟨h1, h2, h3, h4, h5⟩ := (Jn.may_mk _ _ _).1 ez
    rw [Jn.bytesE_yes hz] at zc
    subst en
    have z0 := fun A c w1 t r => jnSector_any (Jn.place l) (Jn.num l) A (Jn.dat l) c hdl (by omega) (by omega) w1 t r
    unfold JnSecPost at z0
    have hsl := Jn.sect_length (Jn.place l) (Jn.num l) (Jn.dat l) hdl
    obtain ⟨y, hy⟩ : ∃ y, y = (Jn.sect (Jn.place l) (Jn.num l) (Jn.dat l) == l) := ⟨_, rfl⟩
    have hr : Jn.right l = y := by
      rw [hy, Bool.eq_iff_iff, Jn.right_iff, beq_iff_eq]
      exact ⟨fun h => h.2.2, fun h => ⟨h64, ez, h⟩⟩
    rw [hr]
    obtain ⟨s, hs⟩ : ∃ x, x = Jn.sect (Jn.place l) (Jn.num l) (Jn.dat l) := ⟨_, rfl⟩
    rw [← hs] at z0 hy hsl
    have qe : ∀ w, (binOp .eql 89 (arr s) (.agg (cellsOfBytes l).toArray)).run Tryd.prog w = .ok (.bool y) w := by
      intro w
      have := run_equalIn_arr Tryd.prog w 9998 89 5 64 s l underA Tryd.underlying5 (oneA w) hsl h64
      unfold arr
      rw [run_eql_struct, this, hy]
      rfl
    have qg : ∀ (a b : Operand) w, (eqGuard .eql 89 a b (arr s) (.agg (cellsOfBytes l).toArray)).run Tryd.prog w = .ok () w := by
      intro a b w
      unfold arr
      exact run_eqGuard_agg w .eql 89 a b _ _ (by kernel_rfl)
    obtain ⟨n, hn⟩ : ∃ n, n = Jn.num l := ⟨_, rfl⟩
    obtain ⟨p, hp⟩ : ∃ n, n = Jn.place l := ⟨_, rfl⟩
    obtain ⟨d, hd⟩ : ∃ x, x = Jn.dat l := ⟨_, rfl⟩
    simp only [← hn, ← hp, ← hd] at zs zc z0 DX
    have q0 : ((0 : Int) == 0) = true := rfl
    clear hn hp hd hs hr hy hsl h1 h2 h3 h4 h5 ez hz N1 N2 eL hdl hlp hnn hb B0 tW hlt h64 ht hC
    go_enter Tryd.func57, Tryd.ntmps57
    go_wp2_with (first
      | ((with_reducible refine atWorld (w.alloc (.cells C 89)) ?_); rw [← hW]; refine wpList_loadA (w := W) rfl (.tmp 1) rfl w.heap.size l rfl H64.out HW.out ?_)
      | (go_at_call 58; rw [← hW]; refine zs.mono ?_; (rintro e w1 ⟨rfl, x1, B1⟩; have x1 := Lib.hid x1; clear hW))
      | ((with_reducible refine atWorld w1 ?_); refine wpList_allocRow (w := w1) entTy rfl rfl ?_; (intro w2 b2 B2 s2; have b2 := Lib.hid b2; replace s2 := Lib.hid s2))
      | ((with_reducible refine atWorld w2 ?_); refine wpList_storeRow (w := w2) entTy rfl (.tmp 3) (.tmp 5) rfl w1.heap.size (entN p n (some ⟨W.heap.size, 10, none⟩) 32 32) entZ rfl rfl rfl rfl (entN_one _ _ _ _ _) b2.out ?_; (intro w3 b3 B3 s3 k3; have B13 : Below w1.heap.size w1 w3 := B2.trans B3; have b3 := Lib.hid b3; replace s3 := Lib.hid s3)))
    have C3 := step_trans B1 B13
    have SX : Hid (∀ w', Below w3.heap.size w3 w' → w'.cell? ⟨w1.heap.size, 0, none⟩ = some (.int .i64 (p : Int)) ∧ w'.cell? ⟨w1.heap.size, 1, none⟩ = some (.int .i64 (n : Int)) ∧ w'.cell? ⟨w1.heap.size, 2, none⟩ = some (.slice (some ⟨W.heap.size, 10, none⟩) 32 32) ∧ w'.rangeAt w.heap.size 0 (cellsOfBytes l)) := Lib.hid fun w' h => ⟨(b3.out.step h).cell rfl, (b3.out.step h).cell rfl, (b3.out.step h).cell rfl, rangeOf (KX.out w' (step_trans C3 h)).1⟩
    have TX : Hid (∀ w', Below w3.heap.size w3 w' → TabAt w' ∧ BytesAt w' w'.heap.size (some ⟨W.heap.size, 10, none⟩) d) := Lib.hid fun w' h => ⟨(KX.out w' (step_trans C3 h)).2, DX.out w' ((x1.out.step B13).step h)⟩
    have HC := Lib.hid (step_trans HB.out C3)
    have D0 := (Below.refl w3.heap.size w3).drew
    unfold entN at zc z0
    clear b3 k3 B3 b2 B2 s2 x1 B1 B13 C3 zs HW H64
    go_region_held3 (fun w' => w'.cell? ⟨w1.heap.size, 0, none⟩ = some (.int .i64 (p : Int)) ∧ w'.cell? ⟨w1.heap.size, 1, none⟩ = some (.int .i64 (n : Int)) ∧ w'.cell? ⟨w1.heap.size, 2, none⟩ = some (.slice (some ⟨W.heap.size, 10, none⟩) 32 32) ∧ w'.rangeAt w.heap.size 0 (cellsOfBytes l)) (first | assumption | exact SX.out _ D2 | exact SX.out _ D1 | exact SX.out _ D0) (first
      | (go_at_call 70; ((with_reducible refine (zc _ _ _).mono ?_); (rintro e w4 ⟨rfl, B4⟩; have D1 := step_trans D0 B4; obtain ⟨t4, r4⟩ := TX.out _ D1)))
      | (go_at_call 71; ((with_reducible refine (z0 _ _ w4 t4 r4).mono ?_); (rintro e w5 ⟨rfl, B5⟩; have D2 := step_trans D1 B5))))
    go_wp2
    go_ret
    exact ⟨rfl, step_trans HC.out D2⟩
  | false =>
    rw [Jn.bytesE_no hz] at zc
    have hr : Jn.right l = false := N1 hz
    rw [hr]
    obtain ⟨p, hp⟩ : ∃ n, n = Jn.place l := ⟨_, rfl⟩
    simp only [← hp] at zs zc
    have q0 : ((2 : Int) == 0) = false := rfl
    clear hp hr hz N1 N2 eL hdl hlp hnn hb B0 tW hlt h64 ht hC
    go_enter Tryd.func57, Tryd.ntmps57
    go_wp2_with (first
      | ((with_reducible refine atWorld (w.alloc (.cells C 89)) ?_); rw [← hW]; refine wpList_loadA (w := W) rfl (.tmp 1) rfl w.heap.size l rfl H64.out HW.out ?_)
      | (go_at_call 58; rw [← hW]; refine zs.mono ?_; (rintro e w1 ⟨rfl, x1, B1⟩; have x1 := Lib.hid x1; clear hW))
      | ((with_reducible refine atWorld w1 ?_); refine wpList_allocRow (w := w1) entTy rfl rfl ?_; (intro w2 b2 B2 s2; have b2 := Lib.hid b2; replace s2 := Lib.hid s2))
      | ((with_reducible refine atWorld w2 ?_); refine wpList_storeRow (w := w2) entTy rfl (.tmp 3) (.tmp 5) rfl w1.heap.size (entN p nn (some ⟨W.heap.size, 10, none⟩) 32 32) entZ rfl rfl rfl rfl (entN_one _ _ _ _ _) b2.out ?_; (intro w3 b3 B3 s3 k3; have B13 : Below w1.heap.size w1 w3 := B2.trans B3; have b3 := Lib.hid b3; replace s3 := Lib.hid s3)))
    have C3 := step_trans B1 B13
    have SX : Hid (∀ w', Below w3.heap.size w3 w' → w'.cell? ⟨w1.heap.size, 0, none⟩ = some (.int .i64 (p : Int)) ∧ w'.cell? ⟨w1.heap.size, 1, none⟩ = some (.int .i64 nn) ∧ w'.cell? ⟨w1.heap.size, 2, none⟩ = some (.slice (some ⟨W.heap.size, 10, none⟩) 32 32) ∧ w'.rangeAt w.heap.size 0 (cellsOfBytes l)) := Lib.hid fun w' h => ⟨(b3.out.step h).cell rfl, (b3.out.step h).cell rfl, (b3.out.step h).cell rfl, rangeOf (KX.out w' (step_trans C3 h)).1⟩
    have HC := Lib.hid (step_trans HB.out C3)
    have D0 := (Below.refl w3.heap.size w3).drew
    unfold entN at zc
    clear b3 k3 B3 b2 B2 s2 x1 B1 B13 C3 zs HW H64
    obtain ⟨e0, e1, e2, _⟩ := SX.out _ D0
    go_region_with (go_at_call 70; ((with_reducible refine (zc _ _ _).mono ?_); (rintro e w4 ⟨rfl, B4⟩; have D1 := step_trans D0 B4; obtain ⟨_, _, _, r4⟩ := SX.out _ D1)))
    all_goals go_wp2
    all_goals go_ret
    all_goals exact ⟨rfl, step_trans HC.out D1⟩
theorem bytes_spot {w : World} {B : Nat} {A : Option Addr} {l : List UInt8} (h : BytesAt w B A l) (hl : l ≠ []) : ∃ g o, A = some ⟨g, o, none⟩ := by
  obtain ⟨⟨b, o, s⟩, e, _, hc⟩ := h hl
  refine ⟨b, o, ?_⟩
  have h0 := hc 0 (by cases l with | nil => exact absurd rfl hl | cons _ _ => simp)
  rw [add_zero] at h0
  cases s with
  | none => exact e
  | some x =>
    exfalso
    unfold World.cell? at h0
    revert h0
    cases w.heap[(⟨b, o, some x⟩ : Addr).block]? with
    | none => intro h0; cases h0
    | some ob => cases ob <;> simp
theorem bytes_range {w : World} {B g o : Nat} {l : List UInt8} (h : BytesAt w B (some ⟨g, o, none⟩) l) : w.rangeAt g o (cellsOfBytes l) := fun j v hv => by
  have hj : j < l.length := by
    have := (List.getElem?_eq_some_iff.1 hv).1
    rwa [cellsOfBytes_length] at this
  obtain ⟨ad, e, _, hc⟩ := h (by rintro rfl; simp at hj)
  cases e
  rw [cellsOfBytes_get l j hj] at hv
  rw [← Option.some.inj hv, ← Addr.add_mid]
  exact hc j hj
set_option maxRecDepth 100000 in
theorem journalRead_len (A : Option Addr) (m c : Nat) (h64 : m ≠ 64) (w : World) : Calls Tryd.prog 44 #[.slice A m c] w fun en w' => en = .returned (.tuple #[.agg entZ.toArray, .int .i64 4]) ∧ Below w.heap.size w w' := by
  have hne : ((m : Int) != 64) = true := by simp; omega
  clear h64
  go_enter Tryd.func44, Tryd.ntmps44
  go_wp2_with (first
    | ((with_reducible refine atWorld w ?_); refine wpList_allocRow (w := w) entTy rfl rfl ?_; (intro w1 b1 B1 s1; have b1 := Lib.hid b1; replace s1 := Lib.hid s1))
    | ((with_reducible refine atWorld w1 ?_); refine wpList_storeRow (w := w1) entTy rfl (.tmp 2) (.tmp 8) rfl w.heap.size entZ entZ rfl rfl rfl rfl entZ_one b1.out ?_; (intro w9 b9 B9 s9 k9; have b9 := Lib.hid b9; replace s9 := Lib.hid s9)))
  have b9 := b9.out
  exact bodyPost_ret (w := w9) (results_cell2 Tryd.results44 _ _ _ _ _ _ rfl rfl (loadRow entTy (by rfl) b9)) rfl ⟨rfl, B1.trans B9⟩
set_option maxRecDepth 100000 in
set_option maxHeartbeats 2000000 in
theorem journalRead_any (A : Option Addr) (l : List UInt8) (m c : Nat) (hm : l.length = m) (hmc : m ≤ c) (w : World) (ht : TabAt w) (hr : BytesAt w w.heap.size A l) : Calls Tryd.prog 44 #[.slice A m c] w (JrPost l w) := by
  by_cases h64 : m = 64
  · subst h64
    obtain ⟨g, o, rfl⟩ := bytes_spot hr (by rintro rfl; simp at hm)
    have hsz : (Tryd.prog.info? 89).map (·.size) = some (cellsOfBytes l).length := by rw [cellsOfBytes_length, hm]; exact sizeA
    have qs : ∀ W, (Instr.arrayAt 89 (.slice (some ⟨g, o, none⟩) 64 c)).run Tryd.prog W = .ok (.pointer (some ⟨g, o, none⟩)) W := fun W => run_arrayAt W _ _ 64 _ 64 c underA (Nat.le_refl _)
    have zi := fun w t => jnIs_any l hm w t
    have zs := fun w => jnSaid_any l hm w
    unfold SaidPost at zs
    have hdl := Jn.dat_length hm
    by_cases hright : Jn.right l = true
    · obtain ⟨_, ez, _⟩ := (Jn.right_iff l).1 hright
      obtain ⟨_, _, h3, h4, _⟩ := (Jn.may_mk _ _ _).1 ez
      have h4 : (Jn.num l : Int) ≤ 1099511627776 := h4
      have hw : IntKind.i64.wrap (Jn.num l : Int) = (Jn.num l : Int) := by rw [IntKind.wrap_i64]; omega
      rw [hw] at zs
      rw [hright] at zi
      have hp : ∀ A' c' w', c' ≤ 9223372036854775807 → Inner w' w.heap.size A' c' (Jn.dat l) → Below w.heap.size w w' → JrPost l w (.returned (.tuple #[.agg (entN (Jn.place l) (Jn.num l) A' 32 c').toArray, .int .i64 0])) w' := fun A' c' w' h1 h2 h3 =>
        ⟨A', c', by rw [(Jn.readE_zero _).2 hright, Jn.readV_yes hright]; unfold Jn.ent; rw [entL_eq _ _ _ 32 hdl], h1, by rw [Jn.readV_yes hright]; exact h2, h3⟩
      replace hp := Lib.hid hp
      have HD := Lib.hid hdl
      obtain ⟨n, hn⟩ : ∃ n, n = Jn.num l := ⟨_, rfl⟩
      obtain ⟨p, hpl⟩ : ∃ n, n = Jn.place l := ⟨_, rfl⟩
      simp only [← hn, ← hpl] at zs hp
      clear hn hpl h3 h4 hw hright ez hdl hm
      go_enter Tryd.func44, Tryd.ntmps44
      go_wp2_with (first
        | ((with_reducible refine atWorld w ?_); refine wpList_allocRow (w := w) entTy rfl rfl ?_; (intro w1 b1 B1 s1; have r1 := bytes_range (hr.step B1); have t1 := ht.below B1 (Nat.le_refl _); have b1 := Lib.hid b1; replace s1 := Lib.hid s1))
        | ((with_reducible refine atWorld w1 ?_); refine wpList_load_mid rfl 89 (.tmp 11) rfl g o rfl (cellsOfBytes l) _ r1 underA rfl hsz ?_)
        | (go_at_call 57; refine (zi w1 t1).mono ?_; (rintro e w2 ⟨rfl, B2⟩; have C2 := step_trans B1 B2; have r2 := bytes_range (hr.step C2); have b2 := Lib.hid (b1.out.step B2)))
        | ((with_reducible refine atWorld w2 ?_); refine wpList_load_mid rfl 89 (.tmp 17) rfl g o rfl (cellsOfBytes l) _ r2 underA rfl hsz ?_)
        | (go_at_call 58; refine (zs w2).mono ?_; (rintro e w3 ⟨rfl, x3, B3⟩; have C3 := step_trans C2 B3; have b3 := Lib.hid (b2.out.step B3); have x3 := Lib.hid x3; have S3 := Lib.hid (And.intro B1.size B2.size)))
        | ((with_reducible refine atWorld w3 ?_); refine wpList_storeRow (w := w3) entTy rfl (.tmp 2) (.tmp 19) rfl w.heap.size (entN p n (some ⟨w2.heap.size, 10, none⟩) 32 32) entZ rfl rfl rfl rfl (entN_one _ _ _ _ _) b3.out ?_; (intro w9 b9 B9 s9 k9; have b9 := Lib.hid b9; replace s9 := Lib.hid s9)))
      have b9 := b9.out
      have hlt : w.heap.size < w2.heap.size := by have := s1.out; have := S3.out; omega
      have x9 : BlkR 89 w9 w2.heap.size (cellsOfBytes l) := (k9 w2.heap.size (by omega)).trans x3.out
      exact bodyPost_ret (w := w9) (results_cell2 Tryd.results44 _ _ _ _ _ _ rfl rfl (loadRow entTy (by rfl) b9)) rfl (hp.out _ _ w9 (by decide) (.inr ⟨w2.heap.size, 10, _, l, rfl, Nat.le_of_lt hlt, x9, HD.out.symm, rfl⟩) (C3.trans B9))
    · replace hright : Jn.right l = false := by simpa using hright
      rw [hright] at zi
      have hp : ∀ w', Below w.heap.size w w' → JrPost l w (.returned (.tuple #[.agg entZ.toArray, .int .i64 11])) w' := fun w' hB => JrPost.none_ hright (Jn.readE_bad hm hright) hB
      replace hp := Lib.hid hp
      clear hright hdl hm zs
      go_enter Tryd.func44, Tryd.ntmps44
      go_wp2_with (first
        | ((with_reducible refine atWorld w ?_); refine wpList_allocRow (w := w) entTy rfl rfl ?_; (intro w1 b1 B1 s1; have r1 := bytes_range (hr.step B1); have t1 := ht.below B1 (Nat.le_refl _); have b1 := Lib.hid b1; replace s1 := Lib.hid s1))
        | ((with_reducible refine atWorld w1 ?_); refine wpList_load_mid rfl 89 (.tmp 11) rfl g o rfl (cellsOfBytes l) _ r1 underA rfl hsz ?_)
        | (go_at_call 57; refine (zi w1 t1).mono ?_; (rintro e w2 ⟨rfl, B2⟩; have C2 := step_trans B1 B2; have b2 := Lib.hid (b1.out.step B2)))
        | ((with_reducible refine atWorld w2 ?_); refine wpList_storeRow (w := w2) entTy rfl (.tmp 2) (.tmp 15) rfl w.heap.size entZ entZ rfl rfl rfl rfl entZ_one b2.out ?_; (intro w9 b9 B9 s9 k9; have b9 := Lib.hid b9; replace s9 := Lib.hid s9)))
      have b9 := b9.out
      exact bodyPost_ret (w := w9) (results_cell2 Tryd.results44 _ _ _ _ _ _ rfl rfl (loadRow entTy (by rfl) b9)) rfl (hp.out w9 (C2.trans B9))
  · exact (journalRead_len A m c h64 w).mono fun en w' ⟨h1, h2⟩ => by
      rw [h1]
      exact JrPost.none_ (Jn.right_len (b := l) (by rw [hm]; exact h64)) (Jn.readE_len (by rw [hm]; exact h64)) h2
end Go.Proofs.YtlchpolheciadaaDoor
/-
  journal.Write, journal.Last: what they tell, and make of a disk. Conditions: a disk's methods do what the document says; at most so many changes; the table of crc lies as the program's text lays it.
-/
namespace Go.Proofs.YtlchpolheciadaaDoor
open Go.RowKit Fix

/-- what can't be read tells nothing -/
theorem DS.readB_none (S : DS) (i : Int) (e : S.readE i ≠ 0) : (S.readB i).length = 0 := by
  revert e
  unfold DS.readE DS.readB
  split
  · intro _; rfl
  · split
    · intro _; rfl
    · intro h; exact absurd rfl h
/-- what Last tells -/
def JlIs (V : Ent) (E : Int) (w : World) (en : Ending) (w' : World) : Prop :=
  ∃ A c, en = .returned (.tuple #[.agg (entL V A c).toArray, .int .i64 E]) ∧ c ≤ 9223372036854775807 ∧ Inner w' w.heap.size A c V.d ∧ Below w.heap.size w w'
set_option maxRecDepth 100000 in
theorem journalLast_err (p : Value) (i : Int) (w : World) (K : World → Prop) (hK : ∀ w w', K w → Below w.heap.size w w' → K w') (h : K w) (E : Int) (hE : E ≠ 0)
    (zd : ∀ w, K w → Calls Tryd.prog 21 #[p, .int .i64 i] w fun e w' => ∃ A c, e = .returned (.tuple #[.slice A 0 c, .int .i64 E]) ∧ Below w.heap.size w w') :
    Calls Tryd.prog 50 #[p, .int .i64 i] w fun en w' => en = .returned (.tuple #[.agg entZ.toArray, .int .i64 E]) ∧ Below w.heap.size w w' := by
  have hne : (E != 0) = true := by simpa using hE
  have zr := fun A c w1 => journalRead_len A 0 c (by decide) w1
  have Hh := Lib.hid h
  clear h hE
  go_enter Tryd.func50, Tryd.ntmps50
  go_wp2_with (first
    | ((with_reducible refine atWorld w ?_); refine wpList_allocRow (w := w) entTy rfl rfl ?_; (intro w0 b0 B0 s0; have b0 := Lib.hid b0; have h0 := hK w w0 Hh.out B0; replace s0 := Lib.hid s0))
    | (go_at_call 21; refine (zd w0 h0).mono ?_; (rintro e w1 ⟨A, c, rfl, B1⟩; have C1 := step_trans B0 B1; have b1 := Lib.hid (b0.out.step B1)))
    | (go_at_call 44; refine (zr A c w1).mono ?_; (rintro e w2 ⟨rfl, B2⟩; have C2 := step_trans C1 B2; have b2 := Lib.hid (b1.out.step B2)))
    | ((with_reducible refine atWorld w2 ?_); refine wpList_allocRow (w := w2) entTy rfl rfl ?_; (intro w3 b3 B3 s3; have b3 := Lib.hid b3; replace s3 := Lib.hid s3))
    | ((with_reducible refine atWorld w3 ?_); refine wpList_storeRow (w := w3) entTy rfl (.tmp 8) (.tmp 19) rfl w2.heap.size entZ entZ rfl rfl rfl rfl entZ_one b3.out ?_; (intro w4 b4 B4 s4 k4; have C34 : Below w2.heap.size w2 w4 := B3.trans B4; have C4 := step_trans C2 C34; have z4 := Lib.hid (b2.out.step C34); replace s4 := Lib.hid s4; clear k4 b4))
    | ((with_reducible refine atWorld w4 ?_); refine wpList_storeRow (w := w4) entTy rfl (.tmp 4) (.tmp 24) rfl w.heap.size entZ entZ rfl rfl rfl rfl entZ_one z4.out ?_; (intro w9 b9 B9 s9 k9; have b9 := Lib.hid b9; replace s9 := Lib.hid s9)))
  have b9 := b9.out
  exact bodyPost_ret (w := w9) (results_cell2 Tryd.results50 _ _ _ _ _ _ rfl rfl (loadRow entTy (by rfl) b9)) rfl ⟨rfl, C4.trans B9⟩
set_option maxRecDepth 100000 in
set_option maxHeartbeats 2000000 in
theorem journalLast_go (p : Value) (i : Int) (w : World) (K : World → Prop) (hK : ∀ w w', K w → Below w.heap.size w w' → K w') (h : K w) (hT : ∀ w, K w → TabAt w) (l : List UInt8) (E : Int) (hl : E = 0 → l.length = 64) (hn : E ≠ 0 → l.length = 0)
    (zd : ∀ w, K w → Calls Tryd.prog 21 #[p, .int .i64 i] w fun e w' => ∃ A c, e = .returned (.tuple #[.slice A l.length c, .int .i64 E]) ∧ l.length ≤ c ∧ BytesAt w' w'.heap.size A l ∧ Below w.heap.size w w') :
    Calls Tryd.prog 50 #[p, .int .i64 i] w (JlIs (if E = 0 then Jn.readV l else Jn.zero) (if E = 0 then (if Jn.right l = true then 0 else 6) else E) w) := by
  by_cases hE : E = 0
  · rw [if_pos hE, if_pos hE]
    subst hE
    have h64 := hl rfl
    rw [h64] at zd
    have zr := fun A c w1 hc t r => journalRead_any A l 64 c h64 hc w1 t r
    unfold JrPost at zr
    by_cases hr : Jn.right l = true
    · rw [if_pos hr]
      rw [(Jn.readE_zero l).2 hr] at zr
      obtain ⟨V, hV⟩ : ∃ V, V = Jn.readV l := ⟨_, rfl⟩
      rw [← hV] at zr ⊢
      have Hh := Lib.hid h
      clear hV hr h64 hl h
      unfold JlIs
      go_enter Tryd.func50, Tryd.ntmps50
      go_wp2_with (first
        | ((with_reducible refine atWorld w ?_); refine wpList_allocRow (w := w) entTy rfl rfl ?_; (intro w0 b0 B0 s0; have b0 := Lib.hid b0; have h0 := hK w w0 Hh.out B0; replace s0 := Lib.hid s0))
        | (go_at_call 21; refine (zd w0 h0).mono ?_; (rintro e w1 ⟨A, c, rfl, hc, r1, B1⟩; have t1 := hT w1 (hK w0 w1 h0 B1); have C1 := step_trans B0 B1; have S1 := B1.size; have b1 := Lib.hid (b0.out.step B1)))
        | (go_at_call 44; refine (zr A c w1 hc t1 r1).mono ?_; (rintro e w2 ⟨A2, c2, rfl, hc2, o2, B2⟩; have C2 := step_trans C1 B2; have b2 := Lib.hid (b1.out.step B2)))
        | ((with_reducible refine atWorld w2 ?_); refine wpList_allocRow (w := w2) entTy rfl rfl ?_; (intro w3 b3 B3 s3; have b3 := Lib.hid b3; replace s3 := Lib.hid s3))
        | ((with_reducible refine atWorld w3 ?_); refine wpList_storeRow (w := w3) entTy rfl (.tmp 8) (.tmp 19) rfl w2.heap.size (entL V A2 c2) entZ rfl rfl rfl rfl (ent_one _ _ _) b3.out ?_; (intro w4 b4 B4 s4 k4; have C34 : Below w2.heap.size w2 w4 := B3.trans B4; have C4 := step_trans C2 C34; have z4 := Lib.hid (b2.out.step C34); have o4 := Lib.hid (o2.step C34); have b4 := Lib.hid b4; replace s4 := Lib.hid s4; clear k4 o2))
        | ((with_reducible refine atWorld w4 ?_); refine wpList_loadRow (w := w4) entTy rfl (.tmp 8) rfl w2.heap.size 0 (entL V A2 c2) rfl rfl (rangeOf b4.out) ?_)
        | ((with_reducible refine atWorld w4 ?_); refine wpList_storeRow (w := w4) entTy rfl (.tmp 4) (.tmp 30) rfl w.heap.size (entL V A2 c2) entZ rfl rfl rfl rfl (ent_one _ _ _) z4.out ?_; (intro w9 b9 B9 s9 k9; have b9 := Lib.hid b9; replace s9 := Lib.hid s9)))
      have b9 := b9.out
      have hlt : w.heap.size < w1.heap.size := by have := s0.out; omega
      exact bodyPost_ret (w := w9) (results_cell2 Tryd.results50 _ _ _ _ _ _ rfl rfl (loadRow entTy (by rfl) b9)) rfl ⟨A2, c2, rfl, hc2, Inner.keepBut (o4.out.less (Nat.le_of_lt hlt)) k9 hlt o4.out, C4.trans B9⟩
    · rw [if_neg hr]
      replace hr : Jn.right l = false := by simpa using hr
      rw [Jn.readE_bad h64 hr, Jn.readV_no hr] at zr
      rw [Jn.readV_no hr]
      simp only [show ∀ A c, entL Jn.zero A c = entN 0 0 A 0 c from fun _ _ => rfl] at zr
      have hp : ∀ w', Below w.heap.size w w' → JlIs Jn.zero 6 w (.returned (.tuple #[.agg entZ.toArray, .int .i64 6])) w' := fun w' hB => ⟨none, 0, rfl, by decide, Inner.none_, hB⟩
      replace hp := Lib.hid hp
      have Hh := Lib.hid h
      clear hr h64 hl h
      go_enter Tryd.func50, Tryd.ntmps50
      go_wp2_with (first
        | ((with_reducible refine atWorld w ?_); refine wpList_allocRow (w := w) entTy rfl rfl ?_; (intro w0 b0 B0 s0; have b0 := Lib.hid b0; have h0 := hK w w0 Hh.out B0; replace s0 := Lib.hid s0))
        | (go_at_call 21; refine (zd w0 h0).mono ?_; (rintro e w1 ⟨A, c, rfl, hc, r1, B1⟩; have t1 := hT w1 (hK w0 w1 h0 B1); have C1 := step_trans B0 B1; have S1 := B1.size; have b1 := Lib.hid (b0.out.step B1)))
        | (go_at_call 44; refine (zr A c w1 hc t1 r1).mono ?_; (rintro e w2 ⟨A2, c2, rfl, hc2, o2, B2⟩; have C2 := step_trans C1 B2; have b2 := Lib.hid (b1.out.step B2)))
        | ((with_reducible refine atWorld w2 ?_); refine wpList_allocRow (w := w2) entTy rfl rfl ?_; (intro w3 b3 B3 s3; have b3 := Lib.hid b3; replace s3 := Lib.hid s3))
        | ((with_reducible refine atWorld w3 ?_); refine wpList_storeRow (w := w3) entTy rfl (.tmp 8) (.tmp 19) rfl w2.heap.size (entN 0 0 A2 0 c2) entZ rfl rfl rfl rfl (entN_one _ _ _ _ _) b3.out ?_; (intro w4 b4 B4 s4 k4; have C34 : Below w2.heap.size w2 w4 := B3.trans B4; have C4 := step_trans C2 C34; have z4 := Lib.hid (b2.out.step C34); have b4 := Lib.hid b4; replace s4 := Lib.hid s4; clear k4))
        | ((with_reducible refine atWorld w4 ?_); refine wpList_storeRow (w := w4) entTy rfl (.tmp 4) (.tmp 29) rfl w.heap.size entZ entZ rfl rfl rfl rfl entZ_one z4.out ?_; (intro w9 b9 B9 s9 k9; have b9 := Lib.hid b9; replace s9 := Lib.hid s9)))
      have b9 := b9.out
      exact bodyPost_ret (w := w9) (results_cell2 Tryd.results50 _ _ _ _ _ _ rfl rfl (loadRow entTy (by rfl) b9)) rfl (hp.out w9 (C4.trans B9))
  · rw [if_neg hE, if_neg hE]
    rw [hn hE] at zd
    exact (journalLast_err p i w K hK h E hE fun w h => (zd w h).mono fun _ _ ⟨A, c, h1, _, _, h4⟩ => ⟨A, c, h1, h4⟩).mono fun en w' ⟨h1, h2⟩ => ⟨none, 0, h1, by decide, Inner.none_, h2⟩
section
variable {At : World → Nat → (Nat → Prop) → DS → Prop} (D : Disks Tryd.prog At)
include D
theorem journalLast_any (w : World) (b : Nat) (F : Nat → Prop) (S : DS) (i : Int) (ht : TabAt w) (h : At w b F S) :
    Calls Tryd.prog 50 #[.pointer (some ⟨b, 0, none⟩), .int .i64 i] w (JlPost S i w) := by
  have z := journalLast_go (.pointer (some ⟨b, 0, none⟩)) i w (fun w => At w b F S ∧ TabAt w) (fun _ _ h B => ⟨At_step D h.1 B, h.2.below B (Nat.le_refl _)⟩) ⟨h, ht⟩ (fun _ h => h.2) (S.readB i) (S.readE i) (fun e => DS.readB_length (D.ok w b F S h) e) (DS.readB_none S i)
    (fun w h => (D.read w b F S i h.1).mono fun _ _ ⟨A, c, h1, h2, h3⟩ => ⟨A, c, h1, rdB_cap h2, h2.bytes, h3⟩)
  exact z
end
theorem journalLast_no (p : Value) (i : Int) (w : World) (h : NoDisk w p) : Calls Tryd.prog 50 #[p, .int .i64 i] w fun en w' => en = .returned (.tuple #[.agg entZ.toArray, .int .i64 1]) ∧ Below w.heap.size w w' :=
  journalLast_err p i w (fun w => NoDisk w p) (fun _ _ h B => h.step B) h 1 (by decide) fun w h => (noRead h i).mono fun _ _ ⟨h1, h2⟩ => ⟨none, 0, h1, by rw [h2]; exact Below.refl _ _⟩
section
variable {At : World → Nat → (Nat → Prop) → DS → Prop} (D : Disks Tryd.prog At)
include D
set_option maxRecDepth 100000 in
set_option maxHeartbeats 2000000 in
theorem journalWrite_any (w : World) (b : Nat) (F : Nat → Prop) (S : DS) (i : Int) (e : Ent) (A : Option Addr) (c : Nat) (ht : TabAt w) (h : At w b F S) (ho : S.ops ≤ 990000) (hr : BytesAt w w.heap.size A e.d) :
    Calls Tryd.prog 53 #[.pointer (some ⟨b, 0, none⟩), .int .i64 i, .agg (entL e A c).toArray] w (ChgPost At b F (Jn.write S i e) w) := by
  have bx := boxE w e A c
  obtain ⟨W, hW⟩ : ∃ W, W = w.alloc (.cells (entL e A c).toArray 79) := ⟨_, rfl⟩
  rw [← hW] at bx
  have tW := ht.below bx.out.2 (Nat.le_refl _)
  have rW := hr.step bx.out.2
  have hW0 := At_step D h bx.out.2
  have HB := Lib.hid bx.out.2
  have HX := Lib.hid bx.out.1
  have zb := journalBytes_any e A c W tW rW
  unfold JbPost at zb
  have zn := fun w h => D.sectors w b F S h
  have hn1 : (((S.n : Int)) == 0) = false := by have := (D.ok _ _ _ _ h).n1; simp; omega
  obtain ⟨n, hn⟩ : ∃ n : Nat, n = S.n := ⟨_, rfl⟩
  rw [← hn] at zn hn1
  by_cases hy : Jn.may e = true
  · have hl := Jn.bytes_len hy
    rw [Jn.bytesE_yes hy, hl] at zb
    have hw : Jn.write S i e = Slot.put1 S i (Jn.bytesB e) := by unfold Jn.write; rw [if_pos hy]
    rw [hw]
    obtain ⟨l, hll⟩ : ∃ x, x = Jn.bytesB e := ⟨_, rfl⟩
    rw [← hll] at zb hl ⊢
    have zw := fun w A c h r hc => D.write w b F S i A l 64 c h (by omega) r hl hc
    have hops := ops_write S i l
    have HL := Lib.hid hl
    unfold ChgPost Slot.put1
    clear hn hy hw hll hr ht tW rW h bx hl
    by_cases hx : (S.write i l).2 = 0
    · rw [if_pos hx]
      rw [hx] at zw
      have zf := fun w F' h => D.flush w b F' (S.write i l).1 h (by omega)
      obtain ⟨T, hT⟩ : ∃ T, T = (S.write i l).1 := ⟨_, rfl⟩
      rw [← hT] at zw zf ⊢
      clear hT hx hops
      obtain ⟨x, hx⟩ : ∃ x, x = T.flush.2 := ⟨_, rfl⟩
      obtain ⟨U, hU⟩ : ∃ x, x = T.flush.1 := ⟨_, rfl⟩
      rw [← hx, ← hU] at zf ⊢
      clear hx hU
      unfold entL at hW ⊢
      unfold entL at zb HX
      go_enter Tryd.func53, Tryd.ntmps53
      go_wp2_with (first
        | ((with_reducible refine atWorld (w.alloc (.cells #[.int .i64 e.b, .int .i64 e.n, .slice A e.d.length c] 79)) ?_); rw [← hW]; refine wpList_loadRow (w := W) entTy rfl (.tmp 5) rfl w.heap.size 0 [.int .i64 e.b, .int .i64 e.n, .slice A e.d.length c] rfl rfl (rangeOf HX.out) ?_)
        | (go_at_call 64; rw [← hW]; refine zb.mono ?_; (rintro en w1 ⟨A1, c1, rfl, hc1, o1, B1⟩; have h1 := At_step D hW0 B1; clear hW))
        | (go_at_call 49; refine (zn w1 h1).mono ?_; (rintro en w2 ⟨rfl, B2⟩; have h2 := At_step D h1 B2; have o2 := o1.step B2; have B12 := step_trans HB.out (step_trans B1 B2)))
        | (go_at_call 35; refine (zw w2 A1 c1 h2 o2.bytes (by have := o2.cap; rwa [HL.out] at this)).mono ?_; (rintro en w3 ⟨F3, rfl, h3, hF3, fr3⟩))
        | (go_at_call 39; refine (zf w3 F3 h3).mono ?_; (rintro en w4 ⟨F4, rfl, h4, hF4, fr4⟩)))
      go_ret
      refine ⟨F4, rfl, h4, fun k hk => ?_, ((Frame.of_below B12).trans fr3 fun k hk => .inl hk).trans fr4 fun k hk => (hF3 k hk).imp id fun y => Nat.le_trans B12.size y⟩
      rcases hF4 k hk with y | y
      · exact (hF3 k y).imp id fun y => Nat.le_trans B12.size y
      · exact .inr (Nat.le_trans (Nat.le_trans B12.size fr3.size) y)
    · rw [if_neg hx]
      obtain ⟨x, hx'⟩ : ∃ x, x = (S.write i l).2 := ⟨_, rfl⟩
      obtain ⟨T, hT⟩ : ∃ T, T = (S.write i l).1 := ⟨_, rfl⟩
      rw [← hx'] at hx
      rw [← hx', ← hT] at zw ⊢
      have hne : (x != 0) = true := by simpa using hx
      clear hx' hT hops hx
      unfold entL at hW ⊢
      unfold entL at zb HX
      go_enter Tryd.func53, Tryd.ntmps53
      go_wp2_with (first
        | ((with_reducible refine atWorld (w.alloc (.cells #[.int .i64 e.b, .int .i64 e.n, .slice A e.d.length c] 79)) ?_); rw [← hW]; refine wpList_loadRow (w := W) entTy rfl (.tmp 5) rfl w.heap.size 0 [.int .i64 e.b, .int .i64 e.n, .slice A e.d.length c] rfl rfl (rangeOf HX.out) ?_)
        | (go_at_call 64; rw [← hW]; refine zb.mono ?_; (rintro en w1 ⟨A1, c1, rfl, hc1, o1, B1⟩; have h1 := At_step D hW0 B1; clear hW))
        | (go_at_call 49; refine (zn w1 h1).mono ?_; (rintro en w2 ⟨rfl, B2⟩; have h2 := At_step D h1 B2; have o2 := o1.step B2; have B12 := step_trans HB.out (step_trans B1 B2)))
        | (go_at_call 35; refine (zw w2 A1 c1 h2 o2.bytes (by have := o2.cap; rwa [HL.out] at this)).mono ?_; (rintro en w3 ⟨F3, rfl, h3, hF3, fr3⟩)))
      go_ret
      exact ⟨F3, rfl, h3, fun k hk => (hF3 k hk).imp id fun y => Nat.le_trans B12.size y, (Frame.of_below B12).trans fr3 fun k hk => .inl hk⟩
  · replace hy : Jn.may e = false := by simpa using hy
    rw [Jn.bytesE_no hy, Jn.bytesB_no hy] at zb
    have hw : Jn.write S i e = (S, 2) := by unfold Jn.write; rw [if_neg (by rw [hy]; decide)]
    rw [hw]
    unfold ChgPost
    clear hn hy hw hr ht tW rW h bx
    unfold entL at hW ⊢
    unfold entL at zb HX
    go_enter Tryd.func53, Tryd.ntmps53
    go_wp2_with (first
      | ((with_reducible refine atWorld (w.alloc (.cells #[.int .i64 e.b, .int .i64 e.n, .slice A e.d.length c] 79)) ?_); rw [← hW]; refine wpList_loadRow (w := W) entTy rfl (.tmp 5) rfl w.heap.size 0 [.int .i64 e.b, .int .i64 e.n, .slice A e.d.length c] rfl rfl (rangeOf HX.out) ?_)
      | (go_at_call 64; rw [← hW]; refine zb.mono ?_; (rintro en w1 ⟨A1, c1, rfl, hc1, o1, B1⟩; have h1 := At_step D hW0 B1; clear hW))
      | (go_at_call 49; refine (zn w1 h1).mono ?_; (rintro en w2 ⟨rfl, B2⟩; have h2 := At_step D h1 B2; have B12 := step_trans HB.out (step_trans B1 B2))))
    go_ret
    exact ⟨F, rfl, h2, fun k hk => .inl hk, Frame.of_below B12⟩
end
set_option maxRecDepth 100000 in
theorem journalWrite_no (p : Value) (i : Int) (e : Ent) (A : Option Addr) (c : Nat) (w : World) (h : NoDisk w p) (ht : TabAt w) (hr : BytesAt w w.heap.size A e.d) : Calls Tryd.prog 53 #[p, .int .i64 i, .agg (entL e A c).toArray] w fun en w' => en = .returned (.int .i64 1) ∧ Below w.heap.size w w' := by
  have bx := boxE w e A c
  obtain ⟨W, hW⟩ : ∃ W, W = w.alloc (.cells (entL e A c).toArray 79) := ⟨_, rfl⟩
  rw [← hW] at bx
  have tW := ht.below bx.out.2 (Nat.le_refl _)
  have rW := hr.step bx.out.2
  have hW0 := h.step bx.out.2
  have HB := Lib.hid bx.out.2
  have HX := Lib.hid bx.out.1
  have zb := journalBytes_any e A c W tW rW
  unfold JbPost at zb
  have zn : ∀ w, NoDisk w p → _ := fun w h => noSectors (w := w) h
  obtain ⟨E, hE⟩ : ∃ x, x = Jn.bytesE e := ⟨_, rfl⟩
  rw [← hE] at zb
  clear hr ht tW rW h bx hE
  unfold entL at hW ⊢
  unfold entL at zb HX
  go_enter Tryd.func53, Tryd.ntmps53
  go_wp2_with (first
    | ((with_reducible refine atWorld (w.alloc (.cells #[.int .i64 e.b, .int .i64 e.n, .slice A e.d.length c] 79)) ?_); rw [← hW]; refine wpList_loadRow (w := W) entTy rfl (.tmp 5) rfl w.heap.size 0 [.int .i64 e.b, .int .i64 e.n, .slice A e.d.length c] rfl rfl (rangeOf HX.out) ?_)
    | (go_at_call 64; rw [← hW]; refine zb.mono ?_; (rintro en w1 ⟨A1, c1, rfl, hc1, o1, B1⟩; have h1 := hW0.step B1; clear hW))
    | (go_at_call 49; refine (zn w1 h1).mono ?_; (rintro en w2 ⟨rfl, rfl⟩)))
  go_ret
  exact ⟨rfl, step_trans HB.out B1⟩
end Go.Proofs.YtlchpolheciadaaDoor
/-
  What the program's own journal does (JnSec, JnBytes, JnRead, JnDisk), gathered. Conditions: as each says.
-/
namespace Go.Proofs.YtlchpolheciadaaDoor
end Go.Proofs.YtlchpolheciadaaDoor
