/-
  The walk of DirtyKnown. Conditions: the table of crc lies as the program's text lays it.
-/
import Derived.Test.YtcahpodmcklnbaaDoorDyKit
import Derived.Test.YtcahpodmcklnbaaDoorBa
namespace Go.Proofs.YtcahpodmcklnbaaDoor
open Go.RowKit Fix

/-- the examples' states of the disk -/
theorem ex_states {S : DS} (i : Dy.Inv S 1 0) (o : S.ops ≤ 4) : ∃ T1 T3 T4, (Dy.step S 0 0 3 0 0 = (T1, 0) ∧ Dy.stepS S 0 0 3 0 0 = 8) ∧ (Dy.step T1 0 0 3 0 8 = (T1, 0) ∧ Dy.stepS T1 0 0 3 0 8 = 8) ∧ (Dy.step T1 0 1 0 33 8 = (T3, 0) ∧ Dy.stepS T1 0 1 0 33 8 = 41) ∧ (Dy.step T3 0 2 0 8 41 = (T4, 0) ∧ Dy.stepS T3 0 2 0 8 41 = 33) ∧ (Dy.step T4 0 0 64 0 33 = (T4, 5) ∧ Dy.stepS T4 0 0 64 0 33 = 33) ∧
    T1.ops ≤ 900 ∧ T3.ops ≤ 900 ∧ T4.ops ≤ 900 := by
  obtain ⟨T1, N1, a1, a2, a3, a4, a5, _⟩ := i.goes (by decide) 0 3 (v := 0) (by decide) (by decide)
  rw [show Dy.want 0 3 0 0 = 8 by decide] at a2 a5
  obtain ⟨T3, N3, b1, b2, b3, b4, b5, _⟩ := a5.goes (by omega) 1 0 (v := 33) (by decide) (by decide)
  rw [show Dy.want 1 0 33 8 = 41 by decide] at b2 b5
  obtain ⟨T4, N4, c1, c2, c3, c4, c5, _⟩ := b5.goes (by omega) 2 0 (v := 8) (by decide) (by decide)
  rw [show Dy.want 2 0 8 41 = 33 by decide] at c2 c5
  have d1 : Dy.step T1 0 0 3 0 8 = (T1, 0) := by
    unfold Dy.step Dy.put
    rw [if_neg (by decide), if_pos (by decide)]
  refine ⟨T1, T3, T4, ⟨a1, a2⟩, ⟨d1, ?_⟩, ⟨b1, b2⟩, ⟨c1, c2⟩, ⟨Dy.step_bad _ _ _ _ (by decide), Dy.stepS_bad _ _ _ _ (by decide)⟩, by omega, by omega, by omega⟩
  unfold Dy.stepS
  rw [d1, if_pos rfl]
  decide
set_option maxHeartbeats 2000000 in
theorem known_any (w : World) (ht : TabAt w) : Calls Tryd.prog 6 #[] w fun e w' => e = .returned (.bool true) ∧ Below w.heap.size w w' := by
  have zs := fun w t => start_made w t
  have zw := fun w t => awake_any w t
  have zp := fun w : World => pick_any 3 4 w (by decide) (by decide) (by decide) (by decide)
  rw [show (3 : Int) % 4 = 3 from rfl] at zp
  have zn := fun w : World => disks.new_yes 2 w (by decide) (by decide)
  rw [show ((2 : Nat) : Int) = 2 from rfl] at zn
  have zo := fun w b F t h => (mpOpen_any disks w b F (DS.fresh 2) 0 t h).mono fun e w' h => h.2 (by rw [Dy.fresh_open]; decide)
  rw [Dy.fresh_open] at zo
  have HT := Lib.hid ht
  clear ht
  go_enter Tryd.func6, Tryd.ntmps6
  go_wp2_with fail
  refine (zs w HT.out).mono ?_
  rintro e w2 ⟨b, F, S, g, rfl, D2, i2, o2, B2⟩
  obtain ⟨T1, T3, T4, ⟨a1, a2⟩, ⟨b1, b2⟩, ⟨c1, c2⟩, ⟨d1, d2⟩, ⟨e1, e2⟩, o1, o3, o4⟩ := ex_states i2 o2
  have hB := B2.size
  have z1 := duo_mark D2 hB 3 0 (HT.out.below B2 (Nat.le_refl _)) (by omega)
  have z2 := fun u F (D : MpDuo u w.heap.size b F T1 g 8) h t => duo_mark D h 3 0 t (by omega)
  have z3 := fun u F (D : MpDuo u w.heap.size b F T1 g 8) h t => duo_merge D h 0 33 (by decide) t (by omega)
  have z4 := fun u F (D : MpDuo u w.heap.size b F T3 g 41) h t => duo_clear D h 0 8 (by decide) t (by omega)
  have z5 := fun u F (D : MpDuo u w.heap.size b F T4 g 33) h t => duo_mark D h 64 0 t (by omega)
  have zq := fun u F (D : MpDuo u w.heap.size b F T1 g 8) h => duo_ops D h (by omega)
  have zb := fun u F (D : MpDuo u w.heap.size b F T4 g 33) => mpBits_any D.m
  rw [a1, a2] at z1
  rw [b1, b2] at z2
  rw [c1, c2] at z3
  rw [d1, d2] at z4
  rw [e1, e2] at z5
  unfold DuoPost at z1 z2 z3 z4 z5
  have HS := Lib.hid hB
  have TT := Lib.hid (fun (u : World) (C : Below w.heap.size w u) => HT.out.below C (Nat.le_refl _))
  clear D2 i2 o2 a1 a2 b1 b2 c1 c2 d1 d2 e1 e2 o1 o3 o4 zs HT hB
  go_wp2_with (first
    | (go_at_call 8; first
      | ((with_reducible refine z1.mono ?_); (rintro e w3 ⟨F3, rfl, D3, C3⟩; have C3 := B2.trans C3; have s3 := C3.size; have t3 := TT.out w3 C3))
      | ((with_reducible refine (z2 w4 F3 D4 s4 t4).mono ?_); (rintro e w5 ⟨F5, rfl, D5, C5⟩; have C5 := C4.trans C5; have s5 := C5.size; have t5 := TT.out w5 C5))
      | ((with_reducible refine (z5 w8 F8 D8 s8 t8).mono ?_); (rintro e w9 ⟨F9, rfl, D9, C9⟩; have C9 := C8.trans C9; have s9 := C9.size; have t9 := TT.out w9 C9)))
    | (go_at_call 17; first
      | ((with_reducible refine (zq w3 F3 D3 s3).mono ?_); (rintro e w4 ⟨rfl, D4, C4⟩; have C4 := C3.trans C4; have s4 := C4.size; have t4 := TT.out w4 C4))
      | ((with_reducible refine (zq w5 F5 D5 s5).mono ?_); (rintro e w6 ⟨rfl, D6, C6⟩; have C6 := C5.trans C6; have s6 := C6.size; have t6 := TT.out w6 C6)))
    | (go_at_call 9; refine (z3 w6 F5 D6 s6 t6).mono ?_; (rintro e w7 ⟨F7, rfl, D7, C7⟩; have C7 := C6.trans C7; have s7 := C7.size; have t7 := TT.out w7 C7))
    | (go_at_call 10; refine (z4 w7 F7 D7 s7 t7).mono ?_; (rintro e w8 ⟨F8, rfl, D8, C8⟩; have C8 := C7.trans C8; have s8 := C8.size; have t8 := TT.out w8 C8))
    | (go_at_call 20; refine (zn w9).mono ?_; (rintro e w10 ⟨b10, F10, rfl, h10, hF10, B10⟩; have D10 := D9.step B10; have C10 := step_trans C9 B10; have t10 := TT.out w10 C10))
    | (go_at_call 7; refine (zo w10 b10 F10 t10 h10).mono ?_; (rintro e w11 ⟨rfl, B11⟩; have D11 := D10.step B11; have C11 := step_trans C10 B11; have t11 := TT.out w11 C11))
    | (go_at_call 13; refine (zw w11 t11).mono ?_; (rintro e w12 ⟨rfl, B12⟩; have D12 := D11.step B12; have C12 := step_trans C11 B12))
    | (go_at_call 11; refine (zb w12 F9 D12).mono ?_; (rintro e w' ⟨rfl, rfl⟩))
    | (go_at_call 21; refine (zp w12).mono ?_; (rintro e w' ⟨rfl, rfl⟩)))
  go_ret
  exact ⟨rfl, C12⟩
end Go.Proofs.YtcahpodmcklnbaaDoor
