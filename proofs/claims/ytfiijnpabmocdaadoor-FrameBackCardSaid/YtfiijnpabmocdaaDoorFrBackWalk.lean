/-
  The walk of FrameBack. Conditions: the table of crc lies as the program's text lays it; the bytes can be read.
-/
import Derived.Test.YtfiijnpabmocdaaDoorFrAwake
import Derived.Test.YtfiijnpabmocdaaDoorBa
namespace Go.Proofs.YtfiijnpabmocdaaDoor
open Go.RowKit Fix

abbrev fO (e a : Int) : Obj := .cells #[.int .i64 e, .int .i64 a] 28
set_option maxRecDepth 100000 in
theorem frback_long_a (A : Option Addr) (r : List UInt8) (c : Nat) (A' : Option Addr) (l : List UInt8) (c' : Nat) (x : Int) (D : Option Addr) (k : List UInt8) (d : Nat) (w : World) (ht : TabAt w) (h : 300 < r.length) : Calls Tryd.prog 4 #[.slice A r.length c, .slice A' l.length c', .int .i64 x, .slice D k.length d] w fun e w' => e = .returned (.bool true) ∧ Below w.heap.size w w' := by
  have i1 : (300 : Int) < (r.length : Int) := by omega
  clear h
  go_enter Tryd.func4, Tryd.ntmps4
  go_wp2_with (go_at_call 15; refine (awake_any w ht).mono ?_; (rintro e w1 ⟨rfl, X⟩; have B1 := Lib.hid X))
  go_ret
  exact ⟨rfl, B1.out⟩
set_option maxRecDepth 100000 in
theorem frback_long_b (A : Option Addr) (r : List UInt8) (c : Nat) (A' : Option Addr) (l : List UInt8) (c' : Nat) (x : Int) (D : Option Addr) (k : List UInt8) (d : Nat) (w : World) (ht : TabAt w) (h : ¬ 300 < r.length) (h2 : 300 < l.length) : Calls Tryd.prog 4 #[.slice A r.length c, .slice A' l.length c', .int .i64 x, .slice D k.length d] w fun e w' => e = .returned (.bool true) ∧ Below w.heap.size w w' := by
  have i1 : ¬ (300 : Int) < (r.length : Int) := by omega
  have i2 : (300 : Int) < (l.length : Int) := by omega
  clear h h2
  go_enter Tryd.func4, Tryd.ntmps4
  go_wp2_with (go_at_call 15; refine (awake_any w ht).mono ?_; (rintro e w1 ⟨rfl, X⟩; have B1 := Lib.hid X))
  go_ret
  exact ⟨rfl, B1.out⟩
set_option maxRecDepth 100000 in
theorem frback_long_c (A : Option Addr) (r : List UInt8) (c : Nat) (A' : Option Addr) (l : List UInt8) (c' : Nat) (x : Int) (D : Option Addr) (k : List UInt8) (d : Nat) (w : World) (ht : TabAt w) (h : ¬ 300 < r.length) (h2 : ¬ 300 < l.length) (h3 : 300 < k.length) : Calls Tryd.prog 4 #[.slice A r.length c, .slice A' l.length c', .int .i64 x, .slice D k.length d] w fun e w' => e = .returned (.bool true) ∧ Below w.heap.size w w' := by
  have i1 : ¬ (300 : Int) < (r.length : Int) := by omega
  have i2 : ¬ (300 : Int) < (l.length : Int) := by omega
  have i3 : (300 : Int) < (k.length : Int) := by omega
  clear h h2 h3
  go_enter Tryd.func4, Tryd.ntmps4
  go_wp2_with (go_at_call 15; refine (awake_any w ht).mono ?_; (rintro e w1 ⟨rfl, X⟩; have B1 := Lib.hid X))
  go_ret
  exact ⟨rfl, B1.out⟩
set_option maxRecDepth 100000 in
set_option maxHeartbeats 4000000 in
theorem frback_no_x_wrong (A : Option Addr) (r : List UInt8) (n c : Nat) (A' : Option Addr) (l : List UInt8) (q c' : Nat) (x : Int) (D : Option Addr) (k : List UInt8) (m d : Nat) (w : World) (ht : TabAt w) (hr : BytesAt w w.heap.size A r) (hl : BytesAt w w.heap.size A' l) (hn : r.length = n) (hq : l.length = q) (hm : k.length = m) (hlc : q ≤ c') (g2 : q ≤ 300) (g3 : m ≤ 300) (g1 : n ≤ 300) (g4 : 200 < n) (gr : Frm.wrongE l ≠ 0) : Calls Tryd.prog 4 #[.slice A n c, .slice A' q c', .int .i64 x, .slice D m d] w fun e w' => e = .returned (.bool true) ∧ Below w.heap.size w w' := by
  have i1 : ¬ (300 : Int) < (n : Int) := by omega
  have i2 : ¬ (300 : Int) < (q : Int) := by omega
  have i3 : ¬ (300 : Int) < (m : Int) := by omega
  have i4 : (200 : Int) < (n : Int) := by omega
  have zp := fun w : World => frput_long A r n c hn w g4
  unfold FrPutPost at zp
  rw [show Frm.putB r = [] by unfold Frm.putB; rw [if_neg (by omega)], show Frm.putE r = 3 by unfold Frm.putE; rw [if_neg (by omega)]] at zp
  obtain ⟨re, hre⟩ : ∃ x, x = Frm.wrongE l := ⟨_, rfl⟩
  obtain ⟨ra, hra⟩ : ∃ x, x = Frm.wrongA l := ⟨_, rfl⟩
  have zb := fun w t h => frget_no A' l re ra q c' hre.symm hra.symm (by rw [hre]; exact gr) hq hlc (by omega) w t h
  have i6 : (re != 0) = true := by rw [bne_iff_ne, hre]; exact gr
  have i7 := Frm.wrongA_in l
  rw [← hra, hq] at i7
  obtain ⟨i7, i8⟩ := i7
  clear hre hra
  have HT := Lib.hid ht
  have HR := Lib.hid (And.intro hr hl)
  clear hr hl hn hq hm hlc g1 g2 g3 gr ht g4
  go_enter Tryd.func4, Tryd.ntmps4
  go_wp2_with (first
    | (go_at_call 15; refine (awake_any w HT.out).mono ?_; (rintro e w1 ⟨rfl, X⟩; have B1 := Lib.hid (X); have t1 := Lib.hid (HT.out.below B1.out (Nat.le_refl _)); have r1 := Lib.hid (HR.out.1.step B1.out); have l1 := Lib.hid (HR.out.2.step B1.out)))
    | (go_at_call 8; first | ((with_reducible refine (zp w1).mono ?_); (rintro e w2 ⟨A2, c2, rfl, _, _, X⟩; have B2 := Lib.hid (step_trans B1.out X); have t2 := Lib.hid (HT.out.below B2.out (Nat.le_refl _)); have r2 := Lib.hid (HR.out.1.step B2.out); have l2 := Lib.hid (HR.out.2.step B2.out))))
    | (go_at_call 10; first | ((with_reducible refine (zb _ t2.out l2.out).mono ?_); (rintro e w8 ⟨A8, c8, rfl, X⟩; have Y := step_alloc X (fO re ra); obtain ⟨q0, q1⟩ := flt_at w8 re ra _ (Below.refl _ _); have B8 := Lib.hid (step_trans B2.out Y); have t8 := Lib.hid (HT.out.below B8.out (Nat.le_refl _)); have r8 := Lib.hid (HR.out.1.step B8.out); have l8 := Lib.hid (HR.out.2.step B8.out)))))
  go_ret
  exact ⟨by first | rfl | simp [i7, i8], B8.out⟩
set_option maxRecDepth 100000 in
set_option maxHeartbeats 4000000 in
theorem frback_no_x_right (A : Option Addr) (r : List UInt8) (n c : Nat) (A' : Option Addr) (l : List UInt8) (q c' : Nat) (x : Int) (D : Option Addr) (k : List UInt8) (m d : Nat) (w : World) (ht : TabAt w) (hr : BytesAt w w.heap.size A r) (hl : BytesAt w w.heap.size A' l) (hn : r.length = n) (hq : l.length = q) (hm : k.length = m) (hlc : q ≤ c') (g2 : q ≤ 300) (g3 : m ≤ 300) (g1 : n ≤ 300) (g4 : 200 < n) (gr : Frm.wrongE l = 0) : Calls Tryd.prog 4 #[.slice A n c, .slice A' q c', .int .i64 x, .slice D m d] w fun e w' => e = .returned (.bool true) ∧ Below w.heap.size w w' := by
  have i1 : ¬ (300 : Int) < (n : Int) := by omega
  have i2 : ¬ (300 : Int) < (q : Int) := by omega
  have i3 : ¬ (300 : Int) < (m : Int) := by omega
  have i4 : (200 : Int) < (n : Int) := by omega
  have zp := fun w : World => frput_long A r n c hn w g4
  unfold FrPutPost at zp
  rw [show Frm.putB r = [] by unfold Frm.putB; rw [if_neg (by omega)], show Frm.putE r = 3 by unfold Frm.putE; rw [if_neg (by omega)]] at zp
  obtain ⟨k1, k2, k3⟩ := Frm.put_get l gr
  obtain ⟨p, hp⟩ : ∃ p, p = Frm.pay l := ⟨_, rfl⟩
  obtain ⟨pn, hpn⟩ : ∃ b, b = p.length := ⟨_, rfl⟩
  have zb := fun w t h => frget_yes A' l p q pn c' gr hp.symm hq hpn.symm hlc (by omega) w t h
  rw [← hp] at k1 k2
  have zy := fun A1 c1 w t h => frput_yes A1 p pn c1 hpn.symm (by omega) w t h
  rw [k1] at zy
  have zs := fun A1 c1 w1 h h' => same_yes A1 l (pn + 9) c1 (by rw [hpn, k3, hp]) A' l q c' hq w1 h h' rfl
  clear k1 k2 k3 hp hpn
  have HT := Lib.hid ht
  have HR := Lib.hid (And.intro hr hl)
  clear hr hl hn hq hm hlc g1 g2 g3 gr ht g4
  go_enter Tryd.func4, Tryd.ntmps4
  go_wp2_with (first
    | (go_at_call 15; refine (awake_any w HT.out).mono ?_; (rintro e w1 ⟨rfl, X⟩; have B1 := Lib.hid (X); have t1 := Lib.hid (HT.out.below B1.out (Nat.le_refl _)); have r1 := Lib.hid (HR.out.1.step B1.out); have l1 := Lib.hid (HR.out.2.step B1.out)))
    | (go_at_call 8; first | ((with_reducible refine (zp w1).mono ?_); (rintro e w2 ⟨A2, c2, rfl, _, _, X⟩; have B2 := Lib.hid (step_trans B1.out X); have t2 := Lib.hid (HT.out.below B2.out (Nat.le_refl _)); have r2 := Lib.hid (HR.out.1.step B2.out); have l2 := Lib.hid (HR.out.2.step B2.out))) | ((with_reducible refine (zy A8 c8 _ t8.out P8.out).mono ?_); (rintro e w9 ⟨A9, c9, rfl, _, _, o9, X⟩; have x9 := Lib.hid o9.own.bytes; clear o9; have B9 := Lib.hid (step_trans B8.out X); have t9 := Lib.hid (HT.out.below B9.out (Nat.le_refl _)); have r9 := Lib.hid (HR.out.1.step B9.out); have l9 := Lib.hid (HR.out.2.step B9.out))))
    | (go_at_call 10; first | ((with_reducible refine (zb _ t2.out l2.out).mono ?_); (rintro e w8 ⟨A8, c8, rfl, p8, X⟩; have Y := step_alloc X (fO 0 0); obtain ⟨q0, q1⟩ := flt_at w8 0 0 _ (Below.refl _ _); have P8 := Lib.hid (p8.stepA (fO 0 0)); clear p8; have B8 := Lib.hid (step_trans B2.out Y); have t8 := Lib.hid (HT.out.below B8.out (Nat.le_refl _)); have r8 := Lib.hid (HR.out.1.step B8.out); have l8 := Lib.hid (HR.out.2.step B8.out))))
    | (go_at_call 12; first | ((with_reducible refine (zs A9 c9 _ x9.out l9.out).mono ?_); (rintro e w0 ⟨rfl, rfl⟩))))
  go_ret
  exact ⟨rfl, B9.out⟩
set_option maxRecDepth 100000 in
set_option maxHeartbeats 4000000 in
theorem frback_yes_more_wrong (A : Option Addr) (r : List UInt8) (n c : Nat) (A' : Option Addr) (l : List UInt8) (q c' : Nat) (x : Int) (D : Option Addr) (k : List UInt8) (m d : Nat) (w : World) (ht : TabAt w) (hr : BytesAt w w.heap.size A r) (hl : BytesAt w w.heap.size A' l) (hk : BytesAt w w.heap.size D k) (hx : -9223372036854775808 ≤ x) (hx2 : x ≤ 9223372036854775807) (hn : r.length = n) (hq : l.length = q) (hm : k.length = m) (hlc : q ≤ c') (g2 : q ≤ 300) (g3 : m ≤ 300) (g1 : n ≤ 200) (gm : k ≠ []) (gr : Frm.wrongE l ≠ 0) : Calls Tryd.prog 4 #[.slice A n c, .slice A' q c', .int .i64 x, .slice D m d] w fun e w' => e = .returned (.bool true) ∧ Below w.heap.size w w' := by
  have i1 : ¬ (300 : Int) < (n : Int) := by omega
  have i2 : ¬ (300 : Int) < (q : Int) := by omega
  have i3 : ¬ (300 : Int) < (m : Int) := by omega
  have i4 : (n : Int) ≤ 200 := by omega
  have hg := Frm.get_put r (by omega)
  have hel : (Frm.enc r).length = n + 9 := by rw [Frm.enc_length, hn]
  have zp := fun w t h => frput_yes A r n c hn g1 w t h
  have zg := fun A1 c1 h1 w t h => frget_yes A1 (Frm.enc r) r (n + 9) n c1 hg.1 hg.2 hel hn h1 (by omega) w t h
  have zt := fun A1 c1 w1 h h' => same_yes A1 r n c1 hn A r n c hn w1 h h' rfl
  obtain ⟨j, hj⟩ : ∃ j : Nat, x % ((n + 9 : Nat) : Int) = (j : Int) := ⟨(x % ((n + 9 : Nat) : Int)).toNat, by have := Int.emod_nonneg x (b := ((n + 9 : Nat) : Int)) (by omega); omega⟩
  have hj2 : j < n + 9 := by have := Int.emod_lt_of_pos x (b := ((n + 9 : Nat) : Int)) (by omega); omega
  have zi := fun w : World => pick_any x ((n + 9 : Nat) : Int) w hx hx2 (by omega) (by omega)
  rw [hj] at zi
  have zu : ∀ (A1 : Option Addr) (c1 : Nat), n + 9 ≤ c1 → ∀ W, _ := fun A1 c1 h1 W => cut_to A1 (n + 9) c1 j (by omega) W
  have hcut := Frm.cut_bad r (by omega) j (by omega)
  obtain ⟨ca, hca⟩ : ∃ a, a = Frm.wrongA ((Frm.enc r).take j) := ⟨_, rfl⟩
  have zv := fun A1 c1 (h1 : n + 9 ≤ c1) w t h => frget_no A1 ((Frm.enc r).take j) 4 ca j c1 hcut hca.symm (by decide) (by rw [List.length_take, hel]; omega) (by omega) (by omega) w t h
  have zc := fun A1 c1 w h => copyBytes_any A1 (Frm.enc r) (n + 9) c1 hel w (by rw [hel]; omega) h
  unfold CopyPost at zc
  have zl0 : (((n + 9 : Nat) : Int) == 0) = false := by rw [beq_eq_false_iff_ne]; omega
  have HL := Lib.hid (And.intro hel (And.intro hm (And.intro g1 g3)))
  have hl2 : (Frm.enc r ++ k).length = n + 9 + m := by rw [List.length_append, hel, hm]
  have HL2 := Lib.hid hl2
  have i5 : ((m : Int) == 0) = false := by rw [beq_eq_false_iff_ne, ← hm]; have := List.length_pos_iff.2 gm; omega
  obtain ⟨ma, hma⟩ : ∃ a, a = Frm.wrongA (Frm.enc r ++ k) := ⟨_, rfl⟩
  have zm := fun A1 c1 (h1 : n + 9 + m ≤ c1) w t h => frget_no A1 (Frm.enc r ++ k) 4 ma (n + 9 + m) c1 (Frm.more_bad r k (by omega) gm) hma.symm (by decide) hl2 h1 (by omega) w t h
  obtain ⟨re, hre⟩ : ∃ x, x = Frm.wrongE l := ⟨_, rfl⟩
  obtain ⟨ra, hra⟩ : ∃ x, x = Frm.wrongA l := ⟨_, rfl⟩
  have zb := fun w t h => frget_no A' l re ra q c' hre.symm hra.symm (by rw [hre]; exact gr) hq hlc (by omega) w t h
  have i6 : (re != 0) = true := by rw [bne_iff_ne, hre]; exact gr
  have i7 := Frm.wrongA_in l
  rw [← hra, hq] at i7
  obtain ⟨i7, i8⟩ := i7
  clear hre hra
  obtain ⟨en, hen⟩ : ∃ b, b = Frm.enc r := ⟨_, rfl⟩
  rw [← hen] at zp zg zv zc zm HL HL2
  have HT := Lib.hid ht
  have HR := Lib.hid (And.intro hr (And.intro hl hk))
  clear hr hl hn hq hm hlc g1 g2 g3 gr ht hen hg hel hj hj2 hcut hca hl2 gm hx hx2 hk hma
  go_enter Tryd.func4, Tryd.ntmps4
  go_wp2_with (first
    | (go_at_call 15; refine (awake_any w HT.out).mono ?_; (rintro e w1 ⟨rfl, X⟩; have B1 := Lib.hid (X); have t1 := Lib.hid (HT.out.below B1.out (Nat.le_refl _)); have r1 := Lib.hid (HR.out.1.step B1.out); have l1 := Lib.hid (HR.out.2.1.step B1.out); have m1 := Lib.hid (HR.out.2.2.step B1.out)))
    | (go_at_call 16; refine (zi _).mono ?_; (rintro e w0 ⟨rfl, rfl⟩))
    | (go_at_call 17; refine (zc A2 c2 _ x4.out).mono ?_; (rintro e w5 ⟨A5, c5, rfl, o5, X⟩; rw [HL.out.1] at o5 ⊢; have X5 := Lib.hid X; have m5 := m4.out.step X; clear X))
    | (at_builtin; refine wpList_appendB rfl (.tmp 81) (.tmp 82) 22 rfl rfl (w4.alloc (fO 4 ca)).heap.size _ en rfl o5 D k m d _ rfl HL.out.2.1 m5 (by have := HL.out; omega) X5.out.size ?_; (intro v6 w6 ho6 hg6 hat6; have X6 := X5.out.grown hg6 X5.out.size (fun j hj => (o5.lt j hj).1); obtain ⟨A6, c6, rfl, hc6⟩ := ho6.form; rw [HL2.out] at ho6 hc6 ⊢; have x6 := Lib.hid ho6.bytes; have H6 := Lib.hid hc6; have G6 := Lib.hid X6; clear ho6 hc6 o5; have B6 := Lib.hid (step_trans B4.out X6); have t6 := Lib.hid (HT.out.below B6.out (Nat.le_refl _)); have r6 := Lib.hid (HR.out.1.step B6.out); have l6 := Lib.hid (HR.out.2.1.step B6.out); have m6 := Lib.hid (HR.out.2.2.step B6.out)))
    | (go_at_call 8; first | ((with_reducible refine (zp w1 t1.out r1.out).mono ?_); (rintro e w2 ⟨A2, c2, rfl, hc2, _, o2, X⟩; have x2 := Lib.hid o2.own.bytes; clear o2; have H2 := Lib.hid hc2; have u2 := zu A2 c2 hc2; clear hc2; have B2 := Lib.hid (step_trans B1.out X); have t2 := Lib.hid (HT.out.below B2.out (Nat.le_refl _)); have r2 := Lib.hid (HR.out.1.step B2.out); have l2 := Lib.hid (HR.out.2.1.step B2.out); have m2 := Lib.hid (HR.out.2.2.step B2.out))))
    | (go_at_call 10; first | ((with_reducible refine (zg A2 c2 H2.out w2 t2.out x2.out).mono ?_); (rintro e w3 ⟨A3, c3, rfl, p3, X⟩; have Y := step_alloc X (fO 0 0); obtain ⟨y0, y1⟩ := flt_at w3 0 0 _ (Below.refl _ _); have P3 := Lib.hid (p3.stepA (fO 0 0)); have x3 := Lib.hid (x2.out.step Y); clear p3; have B3 := Lib.hid (step_trans B2.out Y); have t3 := Lib.hid (HT.out.below B3.out (Nat.le_refl _)); have r3 := Lib.hid (HR.out.1.step B3.out); have l3 := Lib.hid (HR.out.2.1.step B3.out); have m3 := Lib.hid (HR.out.2.2.step B3.out))) | ((with_reducible refine (zv A2 c2 H2.out _ t3.out (x3.out.take j)).mono ?_); (rintro e w4 ⟨A4, c4, rfl, X⟩; have Y := step_alloc X (fO 4 ca); have F4 := Lib.hid (flt_at w4 4 ca); have x4 := Lib.hid (x3.out.step Y); have B4 := Lib.hid (step_trans B3.out Y); have t4 := Lib.hid (HT.out.below B4.out (Nat.le_refl _)); have r4 := Lib.hid (HR.out.1.step B4.out); have l4 := Lib.hid (HR.out.2.1.step B4.out); have m4 := Lib.hid (HR.out.2.2.step B4.out))) | ((with_reducible refine (zm A6 c6 H6.out w6 t6.out x6.out).mono ?_); (rintro e w7 ⟨A7, c7, rfl, X⟩; have Y := step_alloc X (fO 4 ma); obtain ⟨v0, v1⟩ := flt_at w7 4 ma _ (Below.refl _ _); obtain ⟨s0, s1⟩ := F4.out _ (step_trans G6.out Y); have B7 := Lib.hid (step_trans B6.out Y); have t7 := Lib.hid (HT.out.below B7.out (Nat.le_refl _)); have r7 := Lib.hid (HR.out.1.step B7.out); have l7 := Lib.hid (HR.out.2.1.step B7.out); have m7 := Lib.hid (HR.out.2.2.step B7.out))) | ((with_reducible refine (zb _ t7.out l7.out).mono ?_); (rintro e w8 ⟨A8, c8, rfl, X⟩; have Y := step_alloc X (fO re ra); obtain ⟨q0, q1⟩ := flt_at w8 re ra _ (Below.refl _ _); have B8 := Lib.hid (step_trans B7.out Y); have t8 := Lib.hid (HT.out.below B8.out (Nat.le_refl _)); have r8 := Lib.hid (HR.out.1.step B8.out); have l8 := Lib.hid (HR.out.2.1.step B8.out); have m8 := Lib.hid (HR.out.2.2.step B8.out))))
    | (go_at_call 12; first | ((with_reducible refine (zt A3 c3 _ P3.out r3.out).mono ?_); (rintro e w0 ⟨rfl, rfl⟩))))
  go_ret
  exact ⟨by first | rfl | simp [i7, i8], B8.out⟩
set_option maxRecDepth 100000 in
set_option maxHeartbeats 4000000 in
theorem frback_yes_more_right (A : Option Addr) (r : List UInt8) (n c : Nat) (A' : Option Addr) (l : List UInt8) (q c' : Nat) (x : Int) (D : Option Addr) (k : List UInt8) (m d : Nat) (w : World) (ht : TabAt w) (hr : BytesAt w w.heap.size A r) (hl : BytesAt w w.heap.size A' l) (hk : BytesAt w w.heap.size D k) (hx : -9223372036854775808 ≤ x) (hx2 : x ≤ 9223372036854775807) (hn : r.length = n) (hq : l.length = q) (hm : k.length = m) (hlc : q ≤ c') (g2 : q ≤ 300) (g3 : m ≤ 300) (g1 : n ≤ 200) (gm : k ≠ []) (gr : Frm.wrongE l = 0) : Calls Tryd.prog 4 #[.slice A n c, .slice A' q c', .int .i64 x, .slice D m d] w fun e w' => e = .returned (.bool true) ∧ Below w.heap.size w w' := by
  have i1 : ¬ (300 : Int) < (n : Int) := by omega
  have i2 : ¬ (300 : Int) < (q : Int) := by omega
  have i3 : ¬ (300 : Int) < (m : Int) := by omega
  have i4 : (n : Int) ≤ 200 := by omega
  have hg := Frm.get_put r (by omega)
  have hel : (Frm.enc r).length = n + 9 := by rw [Frm.enc_length, hn]
  have zp := fun w t h => frput_yes A r n c hn g1 w t h
  have zg := fun A1 c1 h1 w t h => frget_yes A1 (Frm.enc r) r (n + 9) n c1 hg.1 hg.2 hel hn h1 (by omega) w t h
  have zt := fun A1 c1 w1 h h' => same_yes A1 r n c1 hn A r n c hn w1 h h' rfl
  obtain ⟨j, hj⟩ : ∃ j : Nat, x % ((n + 9 : Nat) : Int) = (j : Int) := ⟨(x % ((n + 9 : Nat) : Int)).toNat, by have := Int.emod_nonneg x (b := ((n + 9 : Nat) : Int)) (by omega); omega⟩
  have hj2 : j < n + 9 := by have := Int.emod_lt_of_pos x (b := ((n + 9 : Nat) : Int)) (by omega); omega
  have zi := fun w : World => pick_any x ((n + 9 : Nat) : Int) w hx hx2 (by omega) (by omega)
  rw [hj] at zi
  have zu : ∀ (A1 : Option Addr) (c1 : Nat), n + 9 ≤ c1 → ∀ W, _ := fun A1 c1 h1 W => cut_to A1 (n + 9) c1 j (by omega) W
  have hcut := Frm.cut_bad r (by omega) j (by omega)
  obtain ⟨ca, hca⟩ : ∃ a, a = Frm.wrongA ((Frm.enc r).take j) := ⟨_, rfl⟩
  have zv := fun A1 c1 (h1 : n + 9 ≤ c1) w t h => frget_no A1 ((Frm.enc r).take j) 4 ca j c1 hcut hca.symm (by decide) (by rw [List.length_take, hel]; omega) (by omega) (by omega) w t h
  have zc := fun A1 c1 w h => copyBytes_any A1 (Frm.enc r) (n + 9) c1 hel w (by rw [hel]; omega) h
  unfold CopyPost at zc
  have zl0 : (((n + 9 : Nat) : Int) == 0) = false := by rw [beq_eq_false_iff_ne]; omega
  have HL := Lib.hid (And.intro hel (And.intro hm (And.intro g1 g3)))
  have hl2 : (Frm.enc r ++ k).length = n + 9 + m := by rw [List.length_append, hel, hm]
  have HL2 := Lib.hid hl2
  have i5 : ((m : Int) == 0) = false := by rw [beq_eq_false_iff_ne, ← hm]; have := List.length_pos_iff.2 gm; omega
  obtain ⟨ma, hma⟩ : ∃ a, a = Frm.wrongA (Frm.enc r ++ k) := ⟨_, rfl⟩
  have zm := fun A1 c1 (h1 : n + 9 + m ≤ c1) w t h => frget_no A1 (Frm.enc r ++ k) 4 ma (n + 9 + m) c1 (Frm.more_bad r k (by omega) gm) hma.symm (by decide) hl2 h1 (by omega) w t h
  obtain ⟨k1, k2, k3⟩ := Frm.put_get l gr
  obtain ⟨p, hp⟩ : ∃ p, p = Frm.pay l := ⟨_, rfl⟩
  obtain ⟨pn, hpn⟩ : ∃ b, b = p.length := ⟨_, rfl⟩
  have zb := fun w t h => frget_yes A' l p q pn c' gr hp.symm hq hpn.symm hlc (by omega) w t h
  rw [← hp] at k1 k2
  have zy := fun A1 c1 w t h => frput_yes A1 p pn c1 hpn.symm (by omega) w t h
  rw [k1] at zy
  have zs := fun A1 c1 w1 h h' => same_yes A1 l (pn + 9) c1 (by rw [hpn, k3, hp]) A' l q c' hq w1 h h' rfl
  clear k1 k2 k3 hp hpn
  obtain ⟨en, hen⟩ : ∃ b, b = Frm.enc r := ⟨_, rfl⟩
  rw [← hen] at zp zg zv zc zm HL HL2
  have HT := Lib.hid ht
  have HR := Lib.hid (And.intro hr (And.intro hl hk))
  clear hr hl hn hq hm hlc g1 g2 g3 gr ht hen hg hel hj hj2 hcut hca hl2 gm hx hx2 hk hma
  go_enter Tryd.func4, Tryd.ntmps4
  go_wp2_with (first
    | (go_at_call 15; refine (awake_any w HT.out).mono ?_; (rintro e w1 ⟨rfl, X⟩; have B1 := Lib.hid (X); have t1 := Lib.hid (HT.out.below B1.out (Nat.le_refl _)); have r1 := Lib.hid (HR.out.1.step B1.out); have l1 := Lib.hid (HR.out.2.1.step B1.out); have m1 := Lib.hid (HR.out.2.2.step B1.out)))
    | (go_at_call 16; refine (zi _).mono ?_; (rintro e w0 ⟨rfl, rfl⟩))
    | (go_at_call 17; refine (zc A2 c2 _ x4.out).mono ?_; (rintro e w5 ⟨A5, c5, rfl, o5, X⟩; rw [HL.out.1] at o5 ⊢; have X5 := Lib.hid X; have m5 := m4.out.step X; clear X))
    | (at_builtin; refine wpList_appendB rfl (.tmp 81) (.tmp 82) 22 rfl rfl (w4.alloc (fO 4 ca)).heap.size _ en rfl o5 D k m d _ rfl HL.out.2.1 m5 (by have := HL.out; omega) X5.out.size ?_; (intro v6 w6 ho6 hg6 hat6; have X6 := X5.out.grown hg6 X5.out.size (fun j hj => (o5.lt j hj).1); obtain ⟨A6, c6, rfl, hc6⟩ := ho6.form; rw [HL2.out] at ho6 hc6 ⊢; have x6 := Lib.hid ho6.bytes; have H6 := Lib.hid hc6; have G6 := Lib.hid X6; clear ho6 hc6 o5; have B6 := Lib.hid (step_trans B4.out X6); have t6 := Lib.hid (HT.out.below B6.out (Nat.le_refl _)); have r6 := Lib.hid (HR.out.1.step B6.out); have l6 := Lib.hid (HR.out.2.1.step B6.out); have m6 := Lib.hid (HR.out.2.2.step B6.out)))
    | (go_at_call 8; first | ((with_reducible refine (zp w1 t1.out r1.out).mono ?_); (rintro e w2 ⟨A2, c2, rfl, hc2, _, o2, X⟩; have x2 := Lib.hid o2.own.bytes; clear o2; have H2 := Lib.hid hc2; have u2 := zu A2 c2 hc2; clear hc2; have B2 := Lib.hid (step_trans B1.out X); have t2 := Lib.hid (HT.out.below B2.out (Nat.le_refl _)); have r2 := Lib.hid (HR.out.1.step B2.out); have l2 := Lib.hid (HR.out.2.1.step B2.out); have m2 := Lib.hid (HR.out.2.2.step B2.out))) | ((with_reducible refine (zy A8 c8 _ t8.out P8.out).mono ?_); (rintro e w9 ⟨A9, c9, rfl, _, _, o9, X⟩; have x9 := Lib.hid o9.own.bytes; clear o9; have B9 := Lib.hid (step_trans B8.out X); have t9 := Lib.hid (HT.out.below B9.out (Nat.le_refl _)); have r9 := Lib.hid (HR.out.1.step B9.out); have l9 := Lib.hid (HR.out.2.1.step B9.out); have m9 := Lib.hid (HR.out.2.2.step B9.out))))
    | (go_at_call 10; first | ((with_reducible refine (zg A2 c2 H2.out w2 t2.out x2.out).mono ?_); (rintro e w3 ⟨A3, c3, rfl, p3, X⟩; have Y := step_alloc X (fO 0 0); obtain ⟨y0, y1⟩ := flt_at w3 0 0 _ (Below.refl _ _); have P3 := Lib.hid (p3.stepA (fO 0 0)); have x3 := Lib.hid (x2.out.step Y); clear p3; have B3 := Lib.hid (step_trans B2.out Y); have t3 := Lib.hid (HT.out.below B3.out (Nat.le_refl _)); have r3 := Lib.hid (HR.out.1.step B3.out); have l3 := Lib.hid (HR.out.2.1.step B3.out); have m3 := Lib.hid (HR.out.2.2.step B3.out))) | ((with_reducible refine (zv A2 c2 H2.out _ t3.out (x3.out.take j)).mono ?_); (rintro e w4 ⟨A4, c4, rfl, X⟩; have Y := step_alloc X (fO 4 ca); have F4 := Lib.hid (flt_at w4 4 ca); have x4 := Lib.hid (x3.out.step Y); have B4 := Lib.hid (step_trans B3.out Y); have t4 := Lib.hid (HT.out.below B4.out (Nat.le_refl _)); have r4 := Lib.hid (HR.out.1.step B4.out); have l4 := Lib.hid (HR.out.2.1.step B4.out); have m4 := Lib.hid (HR.out.2.2.step B4.out))) | ((with_reducible refine (zm A6 c6 H6.out w6 t6.out x6.out).mono ?_); (rintro e w7 ⟨A7, c7, rfl, X⟩; have Y := step_alloc X (fO 4 ma); obtain ⟨v0, v1⟩ := flt_at w7 4 ma _ (Below.refl _ _); obtain ⟨s0, s1⟩ := F4.out _ (step_trans G6.out Y); have B7 := Lib.hid (step_trans B6.out Y); have t7 := Lib.hid (HT.out.below B7.out (Nat.le_refl _)); have r7 := Lib.hid (HR.out.1.step B7.out); have l7 := Lib.hid (HR.out.2.1.step B7.out); have m7 := Lib.hid (HR.out.2.2.step B7.out))) | ((with_reducible refine (zb _ t7.out l7.out).mono ?_); (rintro e w8 ⟨A8, c8, rfl, p8, X⟩; have Y := step_alloc X (fO 0 0); obtain ⟨q0, q1⟩ := flt_at w8 0 0 _ (Below.refl _ _); have P8 := Lib.hid (p8.stepA (fO 0 0)); clear p8; have B8 := Lib.hid (step_trans B7.out Y); have t8 := Lib.hid (HT.out.below B8.out (Nat.le_refl _)); have r8 := Lib.hid (HR.out.1.step B8.out); have l8 := Lib.hid (HR.out.2.1.step B8.out); have m8 := Lib.hid (HR.out.2.2.step B8.out))))
    | (go_at_call 12; first | ((with_reducible refine (zt A3 c3 _ P3.out r3.out).mono ?_); (rintro e w0 ⟨rfl, rfl⟩)) | ((with_reducible refine (zs A9 c9 _ x9.out l9.out).mono ?_); (rintro e w0 ⟨rfl, rfl⟩))))
  go_ret
  exact ⟨rfl, B9.out⟩
set_option maxRecDepth 100000 in
set_option maxHeartbeats 4000000 in
theorem frback_yes_nil_wrong (A : Option Addr) (r : List UInt8) (n c : Nat) (A' : Option Addr) (l : List UInt8) (q c' : Nat) (x : Int) (D : Option Addr) (k : List UInt8) (m d : Nat) (w : World) (ht : TabAt w) (hr : BytesAt w w.heap.size A r) (hl : BytesAt w w.heap.size A' l) (hk : BytesAt w w.heap.size D k) (hx : -9223372036854775808 ≤ x) (hx2 : x ≤ 9223372036854775807) (hn : r.length = n) (hq : l.length = q) (hm : k.length = m) (hlc : q ≤ c') (g2 : q ≤ 300) (g3 : m ≤ 300) (g1 : n ≤ 200) (gm : k = []) (gr : Frm.wrongE l ≠ 0) : Calls Tryd.prog 4 #[.slice A n c, .slice A' q c', .int .i64 x, .slice D m d] w fun e w' => e = .returned (.bool true) ∧ Below w.heap.size w w' := by
  have i1 : ¬ (300 : Int) < (n : Int) := by omega
  have i2 : ¬ (300 : Int) < (q : Int) := by omega
  have i3 : ¬ (300 : Int) < (m : Int) := by omega
  have i4 : (n : Int) ≤ 200 := by omega
  have hg := Frm.get_put r (by omega)
  have hel : (Frm.enc r).length = n + 9 := by rw [Frm.enc_length, hn]
  have zp := fun w t h => frput_yes A r n c hn g1 w t h
  have zg := fun A1 c1 h1 w t h => frget_yes A1 (Frm.enc r) r (n + 9) n c1 hg.1 hg.2 hel hn h1 (by omega) w t h
  have zt := fun A1 c1 w1 h h' => same_yes A1 r n c1 hn A r n c hn w1 h h' rfl
  obtain ⟨j, hj⟩ : ∃ j : Nat, x % ((n + 9 : Nat) : Int) = (j : Int) := ⟨(x % ((n + 9 : Nat) : Int)).toNat, by have := Int.emod_nonneg x (b := ((n + 9 : Nat) : Int)) (by omega); omega⟩
  have hj2 : j < n + 9 := by have := Int.emod_lt_of_pos x (b := ((n + 9 : Nat) : Int)) (by omega); omega
  have zi := fun w : World => pick_any x ((n + 9 : Nat) : Int) w hx hx2 (by omega) (by omega)
  rw [hj] at zi
  have zu : ∀ (A1 : Option Addr) (c1 : Nat), n + 9 ≤ c1 → ∀ W, _ := fun A1 c1 h1 W => cut_to A1 (n + 9) c1 j (by omega) W
  have hcut := Frm.cut_bad r (by omega) j (by omega)
  obtain ⟨ca, hca⟩ : ∃ a, a = Frm.wrongA ((Frm.enc r).take j) := ⟨_, rfl⟩
  have zv := fun A1 c1 (h1 : n + 9 ≤ c1) w t h => frget_no A1 ((Frm.enc r).take j) 4 ca j c1 hcut hca.symm (by decide) (by rw [List.length_take, hel]; omega) (by omega) (by omega) w t h
  have zc := fun A1 c1 w h => copyBytes_any A1 (Frm.enc r) (n + 9) c1 hel w (by rw [hel]; omega) h
  unfold CopyPost at zc
  have zl0 : (((n + 9 : Nat) : Int) == 0) = false := by rw [beq_eq_false_iff_ne]; omega
  have HL := Lib.hid (And.intro hel (And.intro hm (And.intro g1 g3)))
  have hl2 : (Frm.enc r ++ k).length = n + 9 + m := by rw [List.length_append, hel, hm]
  have HL2 := Lib.hid hl2
  have i5 : ((m : Int) == 0) = true := by rw [← hm, gm]; rfl
  have zm := fun A1 c1 (h1 : n + 9 + m ≤ c1) w t h => frget_yes A1 (Frm.enc r ++ k) r (n + 9 + m) n c1 (by rw [gm, List.append_nil]; exact hg.1) (by rw [gm, List.append_nil]; exact hg.2) hl2 hn h1 (by omega) w t h
  obtain ⟨re, hre⟩ : ∃ x, x = Frm.wrongE l := ⟨_, rfl⟩
  obtain ⟨ra, hra⟩ : ∃ x, x = Frm.wrongA l := ⟨_, rfl⟩
  have zb := fun w t h => frget_no A' l re ra q c' hre.symm hra.symm (by rw [hre]; exact gr) hq hlc (by omega) w t h
  have i6 : (re != 0) = true := by rw [bne_iff_ne, hre]; exact gr
  have i7 := Frm.wrongA_in l
  rw [← hra, hq] at i7
  obtain ⟨i7, i8⟩ := i7
  clear hre hra
  obtain ⟨en, hen⟩ : ∃ b, b = Frm.enc r := ⟨_, rfl⟩
  rw [← hen] at zp zg zv zc zm HL HL2
  have HT := Lib.hid ht
  have HR := Lib.hid (And.intro hr (And.intro hl hk))
  clear hr hl hn hq hm hlc g1 g2 g3 gr ht hen hg hel hj hj2 hcut hca hl2 gm hx hx2 hk
  go_enter Tryd.func4, Tryd.ntmps4
  go_wp2_with (first
    | (go_at_call 15; refine (awake_any w HT.out).mono ?_; (rintro e w1 ⟨rfl, X⟩; have B1 := Lib.hid (X); have t1 := Lib.hid (HT.out.below B1.out (Nat.le_refl _)); have r1 := Lib.hid (HR.out.1.step B1.out); have l1 := Lib.hid (HR.out.2.1.step B1.out); have m1 := Lib.hid (HR.out.2.2.step B1.out)))
    | (go_at_call 16; refine (zi _).mono ?_; (rintro e w0 ⟨rfl, rfl⟩))
    | (go_at_call 17; refine (zc A2 c2 _ x4.out).mono ?_; (rintro e w5 ⟨A5, c5, rfl, o5, X⟩; rw [HL.out.1] at o5 ⊢; have X5 := Lib.hid X; have m5 := m4.out.step X; clear X))
    | (at_builtin; refine wpList_appendB rfl (.tmp 81) (.tmp 82) 22 rfl rfl (w4.alloc (fO 4 ca)).heap.size _ en rfl o5 D k m d _ rfl HL.out.2.1 m5 (by have := HL.out; omega) X5.out.size ?_; (intro v6 w6 ho6 hg6 hat6; have X6 := X5.out.grown hg6 X5.out.size (fun j hj => (o5.lt j hj).1); obtain ⟨A6, c6, rfl, hc6⟩ := ho6.form; rw [HL2.out] at ho6 hc6 ⊢; have x6 := Lib.hid ho6.bytes; have H6 := Lib.hid hc6; have G6 := Lib.hid X6; clear ho6 hc6 o5; have B6 := Lib.hid (step_trans B4.out X6); have t6 := Lib.hid (HT.out.below B6.out (Nat.le_refl _)); have r6 := Lib.hid (HR.out.1.step B6.out); have l6 := Lib.hid (HR.out.2.1.step B6.out); have m6 := Lib.hid (HR.out.2.2.step B6.out)))
    | (go_at_call 8; first | ((with_reducible refine (zp w1 t1.out r1.out).mono ?_); (rintro e w2 ⟨A2, c2, rfl, hc2, _, o2, X⟩; have x2 := Lib.hid o2.own.bytes; clear o2; have H2 := Lib.hid hc2; have u2 := zu A2 c2 hc2; clear hc2; have B2 := Lib.hid (step_trans B1.out X); have t2 := Lib.hid (HT.out.below B2.out (Nat.le_refl _)); have r2 := Lib.hid (HR.out.1.step B2.out); have l2 := Lib.hid (HR.out.2.1.step B2.out); have m2 := Lib.hid (HR.out.2.2.step B2.out))))
    | (go_at_call 10; first | ((with_reducible refine (zg A2 c2 H2.out w2 t2.out x2.out).mono ?_); (rintro e w3 ⟨A3, c3, rfl, p3, X⟩; have Y := step_alloc X (fO 0 0); obtain ⟨y0, y1⟩ := flt_at w3 0 0 _ (Below.refl _ _); have P3 := Lib.hid (p3.stepA (fO 0 0)); have x3 := Lib.hid (x2.out.step Y); clear p3; have B3 := Lib.hid (step_trans B2.out Y); have t3 := Lib.hid (HT.out.below B3.out (Nat.le_refl _)); have r3 := Lib.hid (HR.out.1.step B3.out); have l3 := Lib.hid (HR.out.2.1.step B3.out); have m3 := Lib.hid (HR.out.2.2.step B3.out))) | ((with_reducible refine (zv A2 c2 H2.out _ t3.out (x3.out.take j)).mono ?_); (rintro e w4 ⟨A4, c4, rfl, X⟩; have Y := step_alloc X (fO 4 ca); have F4 := Lib.hid (flt_at w4 4 ca); have x4 := Lib.hid (x3.out.step Y); have B4 := Lib.hid (step_trans B3.out Y); have t4 := Lib.hid (HT.out.below B4.out (Nat.le_refl _)); have r4 := Lib.hid (HR.out.1.step B4.out); have l4 := Lib.hid (HR.out.2.1.step B4.out); have m4 := Lib.hid (HR.out.2.2.step B4.out))) | ((with_reducible refine (zm A6 c6 H6.out w6 t6.out x6.out).mono ?_); (rintro e w7 ⟨A7, c7, rfl, _, X⟩; have Y := step_alloc X (fO 0 0); obtain ⟨v0, v1⟩ := flt_at w7 0 0 _ (Below.refl _ _); obtain ⟨s0, s1⟩ := F4.out _ (step_trans G6.out Y); have B7 := Lib.hid (step_trans B6.out Y); have t7 := Lib.hid (HT.out.below B7.out (Nat.le_refl _)); have r7 := Lib.hid (HR.out.1.step B7.out); have l7 := Lib.hid (HR.out.2.1.step B7.out); have m7 := Lib.hid (HR.out.2.2.step B7.out))) | ((with_reducible refine (zb _ t7.out l7.out).mono ?_); (rintro e w8 ⟨A8, c8, rfl, X⟩; have Y := step_alloc X (fO re ra); obtain ⟨q0, q1⟩ := flt_at w8 re ra _ (Below.refl _ _); have B8 := Lib.hid (step_trans B7.out Y); have t8 := Lib.hid (HT.out.below B8.out (Nat.le_refl _)); have r8 := Lib.hid (HR.out.1.step B8.out); have l8 := Lib.hid (HR.out.2.1.step B8.out); have m8 := Lib.hid (HR.out.2.2.step B8.out))))
    | (go_at_call 12; first | ((with_reducible refine (zt A3 c3 _ P3.out r3.out).mono ?_); (rintro e w0 ⟨rfl, rfl⟩))))
  go_ret
  exact ⟨by first | rfl | simp [i7, i8], B8.out⟩
set_option maxRecDepth 100000 in
set_option maxHeartbeats 4000000 in
theorem frback_yes_nil_right (A : Option Addr) (r : List UInt8) (n c : Nat) (A' : Option Addr) (l : List UInt8) (q c' : Nat) (x : Int) (D : Option Addr) (k : List UInt8) (m d : Nat) (w : World) (ht : TabAt w) (hr : BytesAt w w.heap.size A r) (hl : BytesAt w w.heap.size A' l) (hk : BytesAt w w.heap.size D k) (hx : -9223372036854775808 ≤ x) (hx2 : x ≤ 9223372036854775807) (hn : r.length = n) (hq : l.length = q) (hm : k.length = m) (hlc : q ≤ c') (g2 : q ≤ 300) (g3 : m ≤ 300) (g1 : n ≤ 200) (gm : k = []) (gr : Frm.wrongE l = 0) : Calls Tryd.prog 4 #[.slice A n c, .slice A' q c', .int .i64 x, .slice D m d] w fun e w' => e = .returned (.bool true) ∧ Below w.heap.size w w' := by
  have i1 : ¬ (300 : Int) < (n : Int) := by omega
  have i2 : ¬ (300 : Int) < (q : Int) := by omega
  have i3 : ¬ (300 : Int) < (m : Int) := by omega
  have i4 : (n : Int) ≤ 200 := by omega
  have hg := Frm.get_put r (by omega)
  have hel : (Frm.enc r).length = n + 9 := by rw [Frm.enc_length, hn]
  have zp := fun w t h => frput_yes A r n c hn g1 w t h
  have zg := fun A1 c1 h1 w t h => frget_yes A1 (Frm.enc r) r (n + 9) n c1 hg.1 hg.2 hel hn h1 (by omega) w t h
  have zt := fun A1 c1 w1 h h' => same_yes A1 r n c1 hn A r n c hn w1 h h' rfl
  obtain ⟨j, hj⟩ : ∃ j : Nat, x % ((n + 9 : Nat) : Int) = (j : Int) := ⟨(x % ((n + 9 : Nat) : Int)).toNat, by have := Int.emod_nonneg x (b := ((n + 9 : Nat) : Int)) (by omega); omega⟩
  have hj2 : j < n + 9 := by have := Int.emod_lt_of_pos x (b := ((n + 9 : Nat) : Int)) (by omega); omega
  have zi := fun w : World => pick_any x ((n + 9 : Nat) : Int) w hx hx2 (by omega) (by omega)
  rw [hj] at zi
  have zu : ∀ (A1 : Option Addr) (c1 : Nat), n + 9 ≤ c1 → ∀ W, _ := fun A1 c1 h1 W => cut_to A1 (n + 9) c1 j (by omega) W
  have hcut := Frm.cut_bad r (by omega) j (by omega)
  obtain ⟨ca, hca⟩ : ∃ a, a = Frm.wrongA ((Frm.enc r).take j) := ⟨_, rfl⟩
  have zv := fun A1 c1 (h1 : n + 9 ≤ c1) w t h => frget_no A1 ((Frm.enc r).take j) 4 ca j c1 hcut hca.symm (by decide) (by rw [List.length_take, hel]; omega) (by omega) (by omega) w t h
  have zc := fun A1 c1 w h => copyBytes_any A1 (Frm.enc r) (n + 9) c1 hel w (by rw [hel]; omega) h
  unfold CopyPost at zc
  have zl0 : (((n + 9 : Nat) : Int) == 0) = false := by rw [beq_eq_false_iff_ne]; omega
  have HL := Lib.hid (And.intro hel (And.intro hm (And.intro g1 g3)))
  have hl2 : (Frm.enc r ++ k).length = n + 9 + m := by rw [List.length_append, hel, hm]
  have HL2 := Lib.hid hl2
  have i5 : ((m : Int) == 0) = true := by rw [← hm, gm]; rfl
  have zm := fun A1 c1 (h1 : n + 9 + m ≤ c1) w t h => frget_yes A1 (Frm.enc r ++ k) r (n + 9 + m) n c1 (by rw [gm, List.append_nil]; exact hg.1) (by rw [gm, List.append_nil]; exact hg.2) hl2 hn h1 (by omega) w t h
  obtain ⟨k1, k2, k3⟩ := Frm.put_get l gr
  obtain ⟨p, hp⟩ : ∃ p, p = Frm.pay l := ⟨_, rfl⟩
  obtain ⟨pn, hpn⟩ : ∃ b, b = p.length := ⟨_, rfl⟩
  have zb := fun w t h => frget_yes A' l p q pn c' gr hp.symm hq hpn.symm hlc (by omega) w t h
  rw [← hp] at k1 k2
  have zy := fun A1 c1 w t h => frput_yes A1 p pn c1 hpn.symm (by omega) w t h
  rw [k1] at zy
  have zs := fun A1 c1 w1 h h' => same_yes A1 l (pn + 9) c1 (by rw [hpn, k3, hp]) A' l q c' hq w1 h h' rfl
  clear k1 k2 k3 hp hpn
  obtain ⟨en, hen⟩ : ∃ b, b = Frm.enc r := ⟨_, rfl⟩
  rw [← hen] at zp zg zv zc zm HL HL2
  have HT := Lib.hid ht
  have HR := Lib.hid (And.intro hr (And.intro hl hk))
  clear hr hl hn hq hm hlc g1 g2 g3 gr ht hen hg hel hj hj2 hcut hca hl2 gm hx hx2 hk
  go_enter Tryd.func4, Tryd.ntmps4
  go_wp2_with (first
    | (go_at_call 15; refine (awake_any w HT.out).mono ?_; (rintro e w1 ⟨rfl, X⟩; have B1 := Lib.hid (X); have t1 := Lib.hid (HT.out.below B1.out (Nat.le_refl _)); have r1 := Lib.hid (HR.out.1.step B1.out); have l1 := Lib.hid (HR.out.2.1.step B1.out); have m1 := Lib.hid (HR.out.2.2.step B1.out)))
    | (go_at_call 16; refine (zi _).mono ?_; (rintro e w0 ⟨rfl, rfl⟩))
    | (go_at_call 17; refine (zc A2 c2 _ x4.out).mono ?_; (rintro e w5 ⟨A5, c5, rfl, o5, X⟩; rw [HL.out.1] at o5 ⊢; have X5 := Lib.hid X; have m5 := m4.out.step X; clear X))
    | (at_builtin; refine wpList_appendB rfl (.tmp 81) (.tmp 82) 22 rfl rfl (w4.alloc (fO 4 ca)).heap.size _ en rfl o5 D k m d _ rfl HL.out.2.1 m5 (by have := HL.out; omega) X5.out.size ?_; (intro v6 w6 ho6 hg6 hat6; have X6 := X5.out.grown hg6 X5.out.size (fun j hj => (o5.lt j hj).1); obtain ⟨A6, c6, rfl, hc6⟩ := ho6.form; rw [HL2.out] at ho6 hc6 ⊢; have x6 := Lib.hid ho6.bytes; have H6 := Lib.hid hc6; have G6 := Lib.hid X6; clear ho6 hc6 o5; have B6 := Lib.hid (step_trans B4.out X6); have t6 := Lib.hid (HT.out.below B6.out (Nat.le_refl _)); have r6 := Lib.hid (HR.out.1.step B6.out); have l6 := Lib.hid (HR.out.2.1.step B6.out); have m6 := Lib.hid (HR.out.2.2.step B6.out)))
    | (go_at_call 8; first | ((with_reducible refine (zp w1 t1.out r1.out).mono ?_); (rintro e w2 ⟨A2, c2, rfl, hc2, _, o2, X⟩; have x2 := Lib.hid o2.own.bytes; clear o2; have H2 := Lib.hid hc2; have u2 := zu A2 c2 hc2; clear hc2; have B2 := Lib.hid (step_trans B1.out X); have t2 := Lib.hid (HT.out.below B2.out (Nat.le_refl _)); have r2 := Lib.hid (HR.out.1.step B2.out); have l2 := Lib.hid (HR.out.2.1.step B2.out); have m2 := Lib.hid (HR.out.2.2.step B2.out))) | ((with_reducible refine (zy A8 c8 _ t8.out P8.out).mono ?_); (rintro e w9 ⟨A9, c9, rfl, _, _, o9, X⟩; have x9 := Lib.hid o9.own.bytes; clear o9; have B9 := Lib.hid (step_trans B8.out X); have t9 := Lib.hid (HT.out.below B9.out (Nat.le_refl _)); have r9 := Lib.hid (HR.out.1.step B9.out); have l9 := Lib.hid (HR.out.2.1.step B9.out); have m9 := Lib.hid (HR.out.2.2.step B9.out))))
    | (go_at_call 10; first | ((with_reducible refine (zg A2 c2 H2.out w2 t2.out x2.out).mono ?_); (rintro e w3 ⟨A3, c3, rfl, p3, X⟩; have Y := step_alloc X (fO 0 0); obtain ⟨y0, y1⟩ := flt_at w3 0 0 _ (Below.refl _ _); have P3 := Lib.hid (p3.stepA (fO 0 0)); have x3 := Lib.hid (x2.out.step Y); clear p3; have B3 := Lib.hid (step_trans B2.out Y); have t3 := Lib.hid (HT.out.below B3.out (Nat.le_refl _)); have r3 := Lib.hid (HR.out.1.step B3.out); have l3 := Lib.hid (HR.out.2.1.step B3.out); have m3 := Lib.hid (HR.out.2.2.step B3.out))) | ((with_reducible refine (zv A2 c2 H2.out _ t3.out (x3.out.take j)).mono ?_); (rintro e w4 ⟨A4, c4, rfl, X⟩; have Y := step_alloc X (fO 4 ca); have F4 := Lib.hid (flt_at w4 4 ca); have x4 := Lib.hid (x3.out.step Y); have B4 := Lib.hid (step_trans B3.out Y); have t4 := Lib.hid (HT.out.below B4.out (Nat.le_refl _)); have r4 := Lib.hid (HR.out.1.step B4.out); have l4 := Lib.hid (HR.out.2.1.step B4.out); have m4 := Lib.hid (HR.out.2.2.step B4.out))) | ((with_reducible refine (zm A6 c6 H6.out w6 t6.out x6.out).mono ?_); (rintro e w7 ⟨A7, c7, rfl, _, X⟩; have Y := step_alloc X (fO 0 0); obtain ⟨v0, v1⟩ := flt_at w7 0 0 _ (Below.refl _ _); obtain ⟨s0, s1⟩ := F4.out _ (step_trans G6.out Y); have B7 := Lib.hid (step_trans B6.out Y); have t7 := Lib.hid (HT.out.below B7.out (Nat.le_refl _)); have r7 := Lib.hid (HR.out.1.step B7.out); have l7 := Lib.hid (HR.out.2.1.step B7.out); have m7 := Lib.hid (HR.out.2.2.step B7.out))) | ((with_reducible refine (zb _ t7.out l7.out).mono ?_); (rintro e w8 ⟨A8, c8, rfl, p8, X⟩; have Y := step_alloc X (fO 0 0); obtain ⟨q0, q1⟩ := flt_at w8 0 0 _ (Below.refl _ _); have P8 := Lib.hid (p8.stepA (fO 0 0)); clear p8; have B8 := Lib.hid (step_trans B7.out Y); have t8 := Lib.hid (HT.out.below B8.out (Nat.le_refl _)); have r8 := Lib.hid (HR.out.1.step B8.out); have l8 := Lib.hid (HR.out.2.1.step B8.out); have m8 := Lib.hid (HR.out.2.2.step B8.out))))
    | (go_at_call 12; first | ((with_reducible refine (zt A3 c3 _ P3.out r3.out).mono ?_); (rintro e w0 ⟨rfl, rfl⟩)) | ((with_reducible refine (zs A9 c9 _ x9.out l9.out).mono ?_); (rintro e w0 ⟨rfl, rfl⟩))))
  go_ret
  exact ⟨rfl, B9.out⟩
theorem frback_any (A : Option Addr) (r : List UInt8) (c : Nat) (A' : Option Addr) (l : List UInt8) (c' : Nat) (x : Int) (D : Option Addr) (k : List UInt8) (d : Nat) (w : World) (ht : TabAt w) (hlc : l.length ≤ c') (hr : BytesAt w w.heap.size A r) (hl : BytesAt w w.heap.size A' l) (hk : BytesAt w w.heap.size D k) (hx : -9223372036854775808 ≤ x ∧ x ≤ 9223372036854775807) : Calls Tryd.prog 4 #[.slice A r.length c, .slice A' l.length c', .int .i64 x, .slice D k.length d] w fun e w' => e = .returned (.bool true) ∧ Below w.heap.size w w' := by
  by_cases g1 : 300 < r.length
  · exact frback_long_a A r c A' l c' x D k d w ht g1
  by_cases g2 : 300 < l.length
  · exact frback_long_b A r c A' l c' x D k d w ht g1 g2
  by_cases g3 : 300 < k.length
  · exact frback_long_c A r c A' l c' x D k d w ht g1 g2 g3
  by_cases g4 : 200 < r.length
  · by_cases gr : Frm.wrongE l = 0
    · exact frback_no_x_right A r _ c A' l _ c' x D k _ d w ht hr hl rfl rfl rfl hlc (by omega) (by omega) (by omega) g4 gr
    · exact frback_no_x_wrong A r _ c A' l _ c' x D k _ d w ht hr hl rfl rfl rfl hlc (by omega) (by omega) (by omega) g4 gr
  · by_cases gm : k = []
    · by_cases gr : Frm.wrongE l = 0
      · exact frback_yes_nil_right A r _ c A' l _ c' x D k _ d w ht hr hl hk hx.1 hx.2 rfl rfl rfl hlc (by omega) (by omega) (by omega) gm gr
      · exact frback_yes_nil_wrong A r _ c A' l _ c' x D k _ d w ht hr hl hk hx.1 hx.2 rfl rfl rfl hlc (by omega) (by omega) (by omega) gm gr
    · by_cases gr : Frm.wrongE l = 0
      · exact frback_yes_more_right A r _ c A' l _ c' x D k _ d w ht hr hl hk hx.1 hx.2 rfl rfl rfl hlc (by omega) (by omega) (by omega) gm gr
      · exact frback_yes_more_wrong A r _ c A' l _ c' x D k _ d w ht hr hl hk hx.1 hx.2 rfl rfl rfl hlc (by omega) (by omega) (by omega) gm gr
end Go.Proofs.YtfiijnpabmocdaaDoor
