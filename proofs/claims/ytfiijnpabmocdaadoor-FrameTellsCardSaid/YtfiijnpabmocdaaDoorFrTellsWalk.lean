/-
  The walk of FrameTells. Conditions: the table of crc lies as the program's text lays it; the bytes can be read.
-/
import Derived.Test.YtfiijnpabmocdaaDoorFrRef
namespace Go.Proofs.YtfiijnpabmocdaaDoor
open Go.RowKit Fix

set_option maxRecDepth 100000 in
theorem tells_long (A : Option Addr) (r : List UInt8) (c : Nat) (A' : Option Addr) (l : List UInt8) (c' : Nat) (w : World) (h : 300 < r.length ∨ 300 < l.length) :
    Calls Tryd.prog 3 #[.slice A r.length c, .slice A' l.length c'] w fun e w' => e = .returned (.bool true) ∧ Below w.heap.size w w' := by
  by_cases h1 : 300 < r.length
  · have i1 : (300 : Int) < (r.length : Int) := by omega
    clear h h1
    go_enter Tryd.func3, Tryd.ntmps3
    go_wp2
    go_ret
    exact ⟨rfl, Below.refl _ _⟩
  · have i1 : ¬ (300 : Int) < (r.length : Int) := by omega
    have i2 : (300 : Int) < (l.length : Int) := by omega
    clear h h1
    go_enter Tryd.func3, Tryd.ntmps3
    go_wp2
    go_ret
    exact ⟨rfl, Below.refl _ _⟩
theorem lent_bytes {w : World} {g : Nat} {l : List UInt8} (h : BlkB w g (lent l)) : BytesAt w w.heap.size (some ⟨g, 0, none⟩) l := h.bytes l ⟨_, rfl⟩ h.lt
abbrev fO (e a : Int) : Obj := .cells #[.int .i64 e, .int .i64 a] 28
set_option maxRecDepth 100000 in
set_option maxHeartbeats 1000000 in
theorem tells_short (A : Option Addr) (r : List UInt8) (c : Nat) (A' : Option Addr) (l : List UInt8) (c' : Nat) (hlc : l.length ≤ c') (w : World) (ht : TabAt w) (hr : BytesAt w w.heap.size A r) (hr' : BytesAt w w.heap.size A' l) (h1 : r.length ≤ 300) (h2 : l.length ≤ 300) :
    Calls Tryd.prog 3 #[.slice A r.length c, .slice A' l.length c'] w fun e w' => e = .returned (.bool true) ∧ Below w.heap.size w w' := by
  have i1 : ¬ (300 : Int) < (r.length : Int) := by omega
  have i2 : ¬ (300 : Int) < (l.length : Int) := by omega
  have za : ∀ w, BytesAt w w.heap.size A r → _ := fun w h => lentBytes_any A r c w (by omega) h
  have zb : ∀ w, BytesAt w w.heap.size A' l → _ := fun w h => lentBytes_any A' l c' w (by omega) h
  have zk := fun g w h1' h2' => keptBytes_yes g r A c w (by omega) h1' h2'
  have zk' := fun g w h1' h2' => keptBytes_yes g l A' c' w (by omega) h1' h2'
  unfold LentPost at za zb
  obtain ⟨p, hp⟩ : ∃ m, m = r.length := ⟨_, rfl⟩
  obtain ⟨q, hq⟩ : ∃ m, m = l.length := ⟨_, rfl⟩
  rw [← hp] at i1 za zk ⊢
  rw [← hq] at i2 zb zk' hlc ⊢
  have zy := fun A c w t h => frput_any A r p c hp.symm w t h
  have zry := fun A c w h => frrefPut_any A r p c hp.symm w h
  have zd := fun A c hc w t h => frget_any A l q c hq.symm hc (by omega) w t h
  have zrd := fun w h => frrefGet_any A' l q c' hq.symm hlc (by omega) w h
  unfold FrPutPost at zy
  unfold FrRefPost at zry
  unfold FrGetPost flt at zd
  unfold FrRgPost flt at zrd
  obtain ⟨bb, hbb⟩ : ∃ x, x = Frm.putB r := ⟨_, rfl⟩
  obtain ⟨be, hbe⟩ : ∃ x, x = Frm.putE r := ⟨_, rfl⟩
  obtain ⟨re, hre⟩ : ∃ x, x = Frm.wrongE l := ⟨_, rfl⟩
  obtain ⟨ra, hra⟩ : ∃ x, x = Frm.wrongA l := ⟨_, rfl⟩
  obtain ⟨rb, hrb⟩ : ∃ x, x = Frm.getB l := ⟨_, rfl⟩
  rw [← hbb, ← hbe] at zy zry
  rw [← hra, ← hre, ← hrb] at zd zrd
  clear hbb hbe hra hre hrb hp hq h1 h2
  have e1 : (be == be) = true := beq_self_eq_true _
  have e2 : (ra == ra) = true := beq_self_eq_true _
  have e3 : (re == re) = true := beq_self_eq_true _
  have zs := fun A1 c1 A2 c2 w1 h h' => same_yes A1 bb bb.length c1 rfl A2 bb bb.length c2 rfl w1 h h' rfl
  have zs' := fun A1 c1 A2 c2 w1 h h' => same_yes A1 rb rb.length c1 rfl A2 rb rb.length c2 rfl w1 h h' rfl
  have zo := fun A c base w h => over_ownZ (w := w) (base := base) (A := A) (n := bb.length) (c := c) (l := bb) h
  have zo' := fun A c base w hc h hb => over_whole A rb rb.length c base rfl hc w h hb
  go_enter Tryd.func3, Tryd.ntmps3
  go_wp2_with (first
    | (go_at_call 7; first
      | ((with_reducible refine (za w hr).mono ?_); (rintro e w1 ⟨g1, rfl, hg1, b1, B1⟩; have x1 := hr.step B1; have l1 := hr'.step B1))
      | ((with_reducible refine (zb w1 l1).mono ?_); (rintro e w2 ⟨g2, rfl, hg2, b2, B2⟩; have x2 := x1.step B2; have l2 := l1.step B2; have b12 := b1.step B2; have C2 := step_trans B1 B2; have t2 := ht.below C2 (Nat.le_refl _); have y2 := lent_bytes b12; have z2 := lent_bytes b2)))
    | (go_at_call 8; (with_reducible refine (zy _ _ w2 t2 y2).mono ?_); (rintro e w3 ⟨A3, c3, rfl, hc3, o3, B3⟩; have C3 := step_trans C2 B3; have x3 := x2.step B3))
    | (go_at_call 9; (with_reducible refine (zry _ _ w3 x3).mono ?_); (rintro e w4 ⟨A4, c4, rfl, o4, B4⟩; have C4 := step_trans C3 B4; have t4 := ht.below C4 (Nat.le_refl _); have z4 := (z2.step B3).step B4; have l4 := (l2.step B3).step B4; have o34 := o3.below B4))
    | (go_at_call 10; (with_reducible refine (zd _ _ (Nat.le_add_right _ _) w4 t4 z4).mono ?_); (rintro e w5 ⟨A5, c5, rfl, hc5, o5, B5⟩; have D5 := step_alloc B5 (fO re ra); have C5 := step_trans C4 D5; have l5 := l4.step D5; have o35 := o34.below D5; have o45 := o4.step D5; have o5 := o5.step (step_alloc (Below.refl _ w5) (fO re ra))))
    | (go_at_call 11; (with_reducible refine (zrd (w5.alloc (fO re ra)) l5).mono ?_); (rintro e w6 ⟨A6, c6, rfl, o6, B6⟩; have D6 := step_alloc B6 (fO re ra); have C6 := step_trans C5 D6; have o36 := o35.below D6; have o46 := o45.step D6; have o56 := o5.step D6; have v3 := o36.own.bytes; have v5 := o56.bytes; have v6 := o6.stepA (fO re ra); obtain ⟨p0, p1⟩ := flt_at w5 re ra _ D6; obtain ⟨q0, q1⟩ := flt_at w6 re ra _ (Below.refl _ _)))
    | (go_at_call 12; first
      | ((with_reducible refine (zs A3 c3 A4 c4 (w6.alloc (fO re ra)) v3 o46).mono ?_); (rintro e w7 ⟨rfl, rfl⟩))
      | ((with_reducible refine (zs' A5 c5 A6 c6 (w6.alloc (fO re ra)) v5 v6).mono ?_); (rintro e w7 ⟨rfl, rfl⟩)))
    | (go_at_call 13; first
      | ((with_reducible refine (zo A3 c3 _ (w6.alloc (fO re ra)) o36).mono ?_); (rintro e w7 ⟨rfl, B7, f7⟩; have o57 := o56.frame f7 o34.blt))
      | ((with_reducible refine (zo' A5 c5 _ w7 hc5 o57 (Nat.le_trans (Nat.le_trans D5.size D6.size) B7.size)).mono ?_); (rintro e w8 ⟨rfl, B8, f8⟩; have D8 := (((step_trans B3 (step_trans B4 (step_trans D5 D6))).trans B7).trans (B8.mono (Nat.le_trans B3.size B4.size))); have g8 := b12.step D8; have g8' := b2.step D8; have x8 := x2.step D8; have l8 := l2.step D8; have C8 := step_trans C2 D8)))
    | (go_at_call 14; first
      | ((with_reducible refine (zk _ w8 g8 x8).mono ?_); (rintro e w9 ⟨rfl, B9⟩; have g9 := g8'.step B9; have l9 := l8.step B9; have C9 := step_trans C8 B9))
      | ((with_reducible refine (zk' _ w9 g9 l9).mono ?_); (rintro e w10 ⟨rfl, B10⟩; have C10 := step_trans C9 B10; have t10 := ht.below C10 (Nat.le_refl _))))
    | (go_at_call 15; refine (awake_any w10 t10).mono ?_; (rintro e w11 ⟨rfl, B11⟩; have C11 := step_trans C10 B11)))
  go_ret
  exact ⟨rfl, C11⟩
theorem tells_any (A : Option Addr) (r : List UInt8) (c : Nat) (A' : Option Addr) (l : List UInt8) (c' : Nat) (hlc : l.length ≤ c') (w : World) (ht : TabAt w) (hr : BytesAt w w.heap.size A r) (hr' : BytesAt w w.heap.size A' l) :
    Calls Tryd.prog 3 #[.slice A r.length c, .slice A' l.length c'] w fun e w' => e = .returned (.bool true) ∧ Below w.heap.size w w' := by
  by_cases h : 300 < r.length ∨ 300 < l.length
  · exact tells_long A r c A' l c' w h
  · exact tells_short A r c A' l c' hlc w ht hr hr' (by omega) (by omega)
end Go.Proofs.YtfiijnpabmocdaaDoor
