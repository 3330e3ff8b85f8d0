/-
  The walk of MetaKnown. Conditions: the table of crc lies as the program's text lays it.
-/
import Derived.Test.YtebicjblplkdeaaDoorMetaDisk
import Derived.Test.YtebicjblplkdeaaDoorMetaAwake
import Derived.Test.YtebicjblplkdeaaDoorDiskAny
namespace Go.Proofs.YtebicjblplkdeaaDoor
open Go.RowKit Fix

namespace Mt
def five : Mt := ⟨5, 0, 0, 0, 0, 0⟩
def k0 : DS := DS.fresh 2
def k1 : DS := (Slot.save k0 0 five.enc).1
def odd : List UInt8 := (List.replicate 26 0).set 6 4
theorem ex_first : first.bytes = List.replicate 26 0 ∧ first.err = 0 := by decide +kernel
theorem ex_25 : readE (List.replicate 25 0) = 4 ∧ readM (List.replicate 25 0) = zero := ⟨by decide +kernel, readM_no (by decide +kernel)⟩
theorem ex_odd : readE odd = 4 ∧ readM odd = zero := ⟨by decide +kernel, readM_no (by decide +kernel)⟩
theorem ex_k0 : Slot.loadE k0 0 = 6 := by decide +kernel
theorem ex_save : (Slot.save k0 0 five.enc).2 = 0 := by decide +kernel
theorem five_ok : five.ok = true := by decide
theorem ex_k1 : Slot.loadE k1 0 = 0 ∧ Slot.loadB k1 0 = five.enc := by decide +kernel
theorem l0 : loadM k0 0 = zero ∧ loadE k0 0 = 6 := by
  unfold loadM loadE
  rw [ex_k0]
  exact ⟨rfl, rfl⟩
theorem l1 : loadM k1 0 = five ∧ loadE k1 0 = 0 := by
  unfold loadM loadE
  rw [ex_k1.1, ex_k1.2]
  obtain ⟨h1, h2⟩ := read_enc five five_ok
  rw [h1, h2]
  exact ⟨rfl, rfl⟩
theorem s1 : save k0 0 five = (k1, 0) := by
  unfold save
  rw [if_pos five_ok]
  exact Prod.ext rfl ex_save
end Mt
theorem zO_all (w : World) (n : Nat) : Hid (BytesAt (w.alloc (zO n)) (w.alloc (zO n)).heap.size (some ⟨w.heap.size, 0, none⟩) (List.replicate n 0) ∧ Below w.heap.size w (w.alloc (zO n))) := Lib.hid ⟨(zO_blk w n).at_, (Below.refl _ _).alloc (Nat.le_refl _) _⟩
theorem odd_all (w : World) : Hid (BytesAt ((w.alloc (zO 26)).setCell ⟨w.heap.size, 6, none⟩ (.int .u8 4)) ((w.alloc (zO 26)).setCell ⟨w.heap.size, 6, none⟩ (.int .u8 4)).heap.size (some ⟨w.heap.size, 0, none⟩) Mt.odd ∧ Below w.heap.size w ((w.alloc (zO 26)).setCell ⟨w.heap.size, 6, none⟩ (.int .u8 4))) := Lib.hid ⟨((zO_blk w 26).set_ 6 4).at_, ((Below.refl _ _).alloc (Nat.le_refl _) _).setCell (Nat.le_refl _) _⟩
set_option maxHeartbeats 2000000 in
theorem known_any (w : World) (ht : TabAt w) : Calls Tryd.prog 5 #[] w fun e w' => e = .returned (.bool true) ∧ Below w.heap.size w w' := by
  have mk25 : ∀ W : World, (Instr.makeSlice 54 (.int .i64 25) (.int .i64 25)).run Tryd.prog W = .ok (.slice (some ⟨W.heap.size, 0, none⟩) 25 25) (W.alloc (zO 25)) := make_bytes 25 (by decide)
  have mk26 : ∀ W : World, (Instr.makeSlice 54 (.int .i64 26) (.int .i64 26)).run Tryd.prog W = .ok (.slice (some ⟨W.heap.size, 0, none⟩) 26 26) (W.alloc (zO 26)) := make_bytes 26 (by decide)
  have D := disks
  have zf := fun w => first_any w
  have zb := fun w => bytesO_any Mt.first (List.replicate 26 0) 0 Mt.ex_first.1 Mt.ex_first.2 26 (by simp) w
  have z25 := fun A w r => readO_any A (List.replicate 25 0) 25 (by simp) (by simp) Mt.zero 4 Mt.ex_25.2 Mt.ex_25.1 25 (by simp) w r
  have zodd := fun A w r => readO_any A Mt.odd 26 (by decide) (by decide) Mt.zero 4 Mt.ex_odd.2 Mt.ex_odd.1 26 (by decide) w r
  have zn := fun w => D.new_yes 2 w (by decide) (by decide)
  rw [show ((2 : Nat) : Int) = 2 from rfl, show DS.fresh 2 = Mt.k0 from rfl] at zn
  have zl0 := fun w b F t h => metaLoad_any D w b F Mt.k0 0 t h
  have zs := fun w b F t h => metaSave_any D w b F Mt.k0 0 Mt.five t h (by decide)
  have zl1 := fun w b F t h => metaLoad_any D w b F Mt.k1 0 t h
  unfold MtLd at zl0 zl1
  unfold ChgPost at zs
  rw [Mt.l0.1, Mt.l0.2] at zl0
  rw [Mt.l1.1, Mt.l1.2] at zl1
  rw [Mt.s1] at zs
  have zw := fun w => awake_any w
  have zy := fun w => newer_any 2 0 0 1 9 0 w
  have zz := fun w => newer_any 1 1 0 1 1 0 w
  rw [show newB 2 0 1 9 = true from rfl] at zy
  rw [show newB 1 1 1 1 = false from rfl] at zz
  have zsame := fun A c w h h' => same_yes A (List.replicate 26 0) 26 c (by simp) (some ⟨(w : World).heap.size, 0, none⟩) (List.replicate 26 0) 26 26 (by simp) (w.alloc (zO 26)) h h' rfl
  go_enter Tryd.func5, Tryd.ntmps5
  go_wp2_with (first
    | (go_at_call 10; refine (zf w).mono ?_; (rintro e w1 ⟨rfl, B1⟩))
    | (go_at_call 14; refine (zb w1).mono ?_; (rintro e w2 ⟨A2, c2, rfl, hc2, r2, B2⟩; have C2 := step_trans B1 B2; obtain ⟨q2, Q2⟩ := (zO_all w2 25).out; have C2 := step_trans C2 Q2; have r2 := r2.step Q2))
    | (go_at_call 15; first
      | ((with_reducible refine (z25 _ _ q2).mono ?_); (rintro e w3 ⟨rfl, B3⟩; have C3 := step_trans C2 B3; have r3 := r2.step B3))
      | ((with_reducible refine (zodd _ _ q5).mono ?_); (rintro e w7 ⟨rfl, B7⟩; have C7 := step_trans C5 B7; have r7 := r5.step B7)))
    | ((with_reducible refine atWorld w3 ?_); refine wpList_allocRow (w := w3) metaTy rfl rfl ?_; (intro w4 b4 B4 s4; have b4 := Lib.hid b4; have C4 := step_trans C3 B4; have r4 := r3.step B4))
    | ((with_reducible refine atWorld w4 ?_); refine wpList_storeRow (w := w4) metaTy rfl (.tmp 3) (.tmp 24) rfl w3.heap.size (mtL Mt.zero) (mtL Mt.zero) rfl rfl rfl rfl (mtL_one _) b4.out ?_; (intro w5 b5 B5 s5 k5; have C5 := C4.trans (B5.mono C3.size); have r5 : BytesAt w5 w5.heap.size A2 (List.replicate 26 0) := ((r3.below (B4.trans B5))).more (by omega); clear s5 s4 k5; obtain ⟨q5, Q5⟩ := (odd_all w5).out; have C5 := step_trans C5 Q5; have r5 := r5.step Q5; have y6 := (zO_blk w5 26).cell 6 (by decide); have f6 := (zO_blk w5 26).frozen 6))
    | ((with_reducible refine atWorld w7 ?_); refine wpList_allocRow (w := w7) metaTy rfl rfl ?_; (intro w8 b8 B8 s8; have b8 := Lib.hid b8; have C8 := step_trans C7 B8))
    | ((with_reducible refine atWorld w8 ?_); refine wpList_storeRow (w := w8) metaTy rfl (.tmp 6) (.tmp 32) rfl w7.heap.size (mtL Mt.zero) (mtL Mt.zero) rfl rfl rfl rfl (mtL_one _) b8.out ?_; (intro w9 b9 B9 s9 k9; have C9 := C8.trans (B9.mono C7.size); have r9 : BytesAt w9 w9.heap.size A2 (List.replicate 26 0) := ((r7.below (B8.trans B9))).more (by omega); clear s8 s9 k9))
    | (go_at_call 9; refine (zn w9).mono ?_; (rintro e w10 ⟨b, F, rfl, h10, hF, B10⟩; have t10 := ht.below (step_trans C9 B10) (Nat.le_refl _)))
    | (go_at_call 6; first
      | ((with_reducible refine (zl0 w10 b F t10 h10).mono ?_); (rintro e w11 ⟨rfl, B11⟩; have C11 := step_trans B10 B11; have h11 := At_step D h10 B11))
      | ((with_reducible refine (zl1 w14 b F14 t14 h14).mono ?_); (rintro e w15 ⟨rfl, B15⟩; have C15 := step_trans C14 B15)))
    | ((with_reducible refine atWorld w11 ?_); refine wpList_allocRow (w := w11) metaTy rfl rfl ?_; (intro w12 b12 B12 s12; have b12 := Lib.hid b12; have C12 := step_trans C11 B12; have h12 := At_step D h11 B12))
    | ((with_reducible refine atWorld w12 ?_); refine wpList_storeRow (w := w12) metaTy rfl (.tmp 10) (.tmp 47) rfl w11.heap.size (mtL Mt.zero) (mtL Mt.zero) rfl rfl rfl rfl (mtL_one _) b12.out ?_; (intro w13 b13 B13 s13 k13; have C13 := C12.trans (B13.mono C11.size); have h13 := At_step D h11 (B12.trans B13); have t13 := ht.below (step_trans C9 C13) (Nat.le_refl _); clear s12 s13 k13))
    | (go_at_call 7; refine (zs w13 b F t13 h13).mono ?_; (rintro e w14 ⟨F14, rfl, h14, hF14, fr14⟩; obtain ⟨C14, G14⟩ := chg_go C13 hF hF14 fr14; have t14 := ht.below (step_trans C9 C14) (Nat.le_refl _)))
    | ((with_reducible refine atWorld w15 ?_); refine wpList_allocRow (w := w15) metaTy rfl rfl ?_; (intro w16 b16 B16 s16; have b16 := Lib.hid b16; have C16 := step_trans C15 B16))
    | ((with_reducible refine atWorld w16 ?_); refine wpList_storeRow (w := w16) metaTy rfl (.tmp 13) (.tmp 55) rfl w15.heap.size (mtL Mt.five) (mtL Mt.zero) rfl rfl rfl rfl (mtL_one _) b16.out ?_; (intro w17 b17 B17 s17 k17; clear s16 s17 k17; have C17 := C16.trans (B17.mono C15.size); obtain ⟨q17, Q17⟩ := (zO_all w17 26).out; have C18 := step_trans C17 Q17; have r18 := r9.step C18; obtain ⟨u0, u1, u2, u3, u4, u5⟩ := mt_cells (b17.go Q17)))
    | (go_at_call 16; refine (zsame A2 c2 w17 r18 q17).mono ?_; (rintro e w18 ⟨rfl, rfl⟩))
    | (go_at_call 8; refine (zw _).mono ?_; (rintro e w19 ⟨rfl, B19⟩; have C19 := step_trans C18 B19))
    | (go_at_call 17; first
      | ((with_reducible refine (zy w19).mono ?_); (rintro e w20 ⟨rfl, B20⟩; have C20 := step_trans C19 B20))
      | ((with_reducible refine (zz w20).mono ?_); (rintro e w21 ⟨rfl, B21⟩; have C21 := step_trans C20 B21))))
  go_ret
  exact ⟨rfl, step_trans C9 C21⟩
end Go.Proofs.YtebicjblplkdeaaDoor
