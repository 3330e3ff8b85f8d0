/-
  The walk of JournalTells. Conditions: the table of crc lies as the program's text lays it; the bytes can be read.
-/
import Derived.Test.YtliiejdhbkmifaaDoorJnAwake
import Derived.Test.YtliiejdhbkmifaaDoorJnRefRead
import Derived.Test.YtliiejdhbkmifaaDoorDiskAny
namespace Go.Proofs.YtliiejdhbkmifaaDoor
open Go.RowKit Fix

set_option maxRecDepth 100000 in
theorem tells_long (e : Ent) (A : Option Addr) (c : Nat) (A' : Option Addr) (l : List UInt8) (c' : Nat) (w : World) (h : 100 < e.d.length ∨ 100 < l.length) :
    Calls Tryd.prog 3 #[.agg (entL e A c).toArray, .slice A' l.length c'] w fun en w' => en = .returned (.bool true) ∧ Below w.heap.size w w' := by
  have bx := boxE w e A c
  obtain ⟨W, hW⟩ : ∃ W, W = w.alloc (.cells (entL e A c).toArray 24) := ⟨_, rfl⟩
  rw [← hW] at bx
  obtain ⟨y0, y1, y2⟩ := ent_cells bx.out.1
  have hB := Lib.hid bx.out.2
  obtain ⟨b, n, d⟩ := e
  replace h : 100 < d.length ∨ 100 < l.length := h
  replace y2 : W.cell? ⟨w.heap.size, 2, none⟩ = some (.slice A d.length c) := y2
  unfold entL at hW ⊢
  obtain ⟨m, hm⟩ : ∃ p, p = d.length := ⟨_, rfl⟩
  obtain ⟨q, hq⟩ : ∃ p, p = l.length := ⟨_, rfl⟩
  simp only [← hm, ← hq] at y2 h hW ⊢
  rw [hW] at y2
  clear bx hm hq y0 y1
  by_cases h1 : 100 < m
  · have i1 : (100 : Int) < (m : Int) := by omega
    clear h h1
    go_enter Tryd.func3, Tryd.ntmps3
    go_wp2
    go_ret
    exact ⟨rfl, by rw [← hW]; exact hB.out⟩
  · have i1 : ¬ (100 : Int) < (m : Int) := by omega
    have i2 : (100 : Int) < (q : Int) := by omega
    clear h h1
    go_enter Tryd.func3, Tryd.ntmps3
    go_wp2
    go_ret
    exact ⟨rfl, by rw [← hW]; exact hB.out⟩
theorem lentJ_bytes {w : World} {g : Nat} {l : List UInt8} (h : BlkB w g (lent l)) : BytesAt w w.heap.size (some ⟨g, 0, none⟩) l := h.bytes l ⟨_, rfl⟩ h.lt
set_option maxRecDepth 100000 in
set_option maxHeartbeats 4000000 in
theorem tells_short (eb ek : Int) (d : List UInt8) (A : Option Addr) (c : Nat) (A' : Option Addr) (l : List UInt8) (c' : Nat) (hlc : l.length ≤ c') (w : World) (ht : TabAt w) (hr : BytesAt w w.heap.size A d) (hr' : BytesAt w w.heap.size A' l) (h1 : d.length ≤ 100) (h2 : l.length ≤ 100) :
    Calls Tryd.prog 3 #[.agg (entL ⟨eb, ek, d⟩ A c).toArray, .slice A' l.length c'] w fun en w' => en = .returned (.bool true) ∧ Below w.heap.size w w' := by
  have i1 : ¬ (100 : Int) < (d.length : Int) := by omega
  have i2 : ¬ (100 : Int) < (l.length : Int) := by omega
  have za : ∀ w, BytesAt w w.heap.size A d → _ := fun w h => lentBytes_any A d c w (by omega) h
  have zb : ∀ w, BytesAt w w.heap.size A' l → _ := fun w h => lentBytes_any A' l c' w (by omega) h
  have zk := fun g w h1' h2' => keptBytes_yes g d A c w (by omega) h1' h2'
  have zk' := fun g w h1' h2' => keptBytes_yes g l A' c' w (by omega) h1' h2'
  unfold LentPost at za zb
  have bx := boxE w ⟨eb, ek, d⟩ A c
  obtain ⟨W, hW⟩ : ∃ W, W = w.alloc (.cells (entL ⟨eb, ek, d⟩ A c).toArray 24) := ⟨_, rfl⟩
  rw [← hW] at bx
  have zy := fun A c w t h => journalBytes_any ⟨eb, ek, d⟩ A c w t h
  have zry := fun w h => refBytes8_any ⟨eb, ek, d⟩ A c w h
  have eL : ∀ A c, entL ⟨eb, ek, d⟩ A c = entN eb ek A d.length c := fun A c => rfl
  obtain ⟨p, hp⟩ : ∃ m, m = d.length := ⟨_, rfl⟩
  obtain ⟨q, hq⟩ : ∃ m, m = l.length := ⟨_, rfl⟩
  simp only [eL] at zy zry bx hW ⊢
  rw [← hp] at i1 za zk zry bx hW ⊢
  simp only [← hp] at zy
  rw [← hq] at i2 zb zk' hlc ⊢
  have KX : Hid (∀ w', Below W.heap.size W w' → BlkR 24 w' w.heap.size (entN eb ek A p c) ∧ BytesAt w' w'.heap.size A d ∧ BytesAt w' w'.heap.size A' l ∧ TabAt w') := Lib.hid fun w' hb => ⟨bx.out.1.step hb, hr.step (step_trans bx.out.2 hb), hr'.step (step_trans bx.out.2 hb), ht.below (step_trans bx.out.2 hb) (Nat.le_refl _)⟩
  have C0 := Lib.hid bx.out.2
  have zd := fun A c hc w t h => journalRead_any A l q c hq.symm hc w t h
  have zrd := fun w h => refRead8_any A' l q c' hq.symm hlc w h
  unfold JbPost at zy
  unfold JrbPost at zry
  unfold JrPost at zd
  unfold JrrPost at zrd
  obtain ⟨bb, hbb⟩ : ∃ x, x = Jn.bytesB ⟨eb, ek, d⟩ := ⟨_, rfl⟩
  obtain ⟨be, hbe⟩ : ∃ x, x = Jn.bytesE ⟨eb, ek, d⟩ := ⟨_, rfl⟩
  obtain ⟨re, hre⟩ : ∃ x, x = Jn.readE l := ⟨_, rfl⟩
  obtain ⟨V, hV⟩ : ∃ x, x = Jn.readV l := ⟨_, rfl⟩
  rw [← hbb, ← hbe] at zy zry
  rw [← hre, ← hV] at zd zrd
  clear hbb hbe hre hV hp hq h1 h2 ht hr hr' bx eL
  have e1 : (be == be) = true := beq_self_eq_true _
  have e3 : (re == re) = true := beq_self_eq_true _
  have zs := fun A1 c1 A2 c2 w1 h h' => same_yes A1 bb bb.length c1 rfl A2 bb bb.length c2 rfl w1 h h' rfl
  have zs' := fun A1 c1 A2 c2 w1 h h' => sameEntry_any V A1 c1 V A2 c2 w1 h h'
  rw [Jn.same_self] at zs'
  have zo := fun A c base w hc h hb => over_whole A bb bb.length c base rfl hc w h hb
  have zo' := fun A c base w hc h hb => over_part A V.d V.d.length c base rfl hc w h hb
  have zw := fun w t => awake_any disks w t
  obtain ⟨y0, y1, y2⟩ : W.cell? ⟨w.heap.size, 0, none⟩ = some (.int .i64 eb) ∧ W.cell? ⟨w.heap.size, 1, none⟩ = some (.int .i64 ek) ∧ W.cell? ⟨w.heap.size, 2, none⟩ = some (.slice A p c) := ⟨(KX.out W (Below.refl _ _)).1.cell rfl, (KX.out W (Below.refl _ _)).1.cell rfl, (KX.out W (Below.refl _ _)).1.cell rfl⟩
  obtain ⟨_, rW, _, _⟩ := KX.out W (Below.refl _ _)
  unfold entL at zs'
  unfold entN at hW zy ⊢
  rw [hW] at y0 y1 y2
  go_enter Tryd.func3, Tryd.ntmps3
  go_wp2_with (first
    | (go_at_call 10; first
      | (rw [← hW]; (with_reducible refine (za W rW).mono ?_); (rintro e w1 ⟨g1, rfl, hg1, b1, B1⟩; obtain ⟨_, _, l1, _⟩ := KX.out w1 B1))
      | ((with_reducible refine (zb w1 l1).mono ?_); (rintro e w2 ⟨g2, rfl, hg2, b2, B2⟩; have C2 := step_trans B1 B2; obtain ⟨x2, _, _, t2⟩ := KX.out w2 C2; have b12 := b1.step B2; have z0 := x2.cell (k := 0) rfl; have z1 := x2.cell (k := 1) rfl; have q2 := lentJ_bytes b12)))
    | (go_at_call 11; (with_reducible refine (zy _ _ w2 t2 q2).mono ?_); (rintro e w3 ⟨A3, c3, rfl, hc3, o3, B3⟩; have C3 := step_trans C2 B3; obtain ⟨x3, r3, _, _⟩ := KX.out w3 C3; have x3 := Lib.hid x3))
    | ((with_reducible refine atWorld w3 ?_); refine wpList_loadRow (w := w3) entTy rfl (.tmp 2) rfl w.heap.size 0 (entN eb ek A p c) rfl rfl (rangeOf x3.out) ?_)
    | (go_at_call 12; (with_reducible refine (zry w3 r3).mono ?_); (rintro e w4 ⟨A4, c4, rfl, hc4, o4, _, B4⟩; have C4 := step_trans C3 B4; obtain ⟨_, _, _, t4⟩ := KX.out w4 C4; have z4 := lentJ_bytes ((b2.step B3).step B4); have o34 := o3.step B4))
    | (go_at_call 13; (with_reducible refine (zd _ _ (Nat.le_add_right _ _) w4 t4 z4).mono ?_); (rintro e w5 ⟨A5, c5, rfl, hc5, o5, B5⟩; have C5 := step_trans C4 B5; have o35 := o34.step B5; have o45 := o4.step B5))
    | ((with_reducible refine atWorld w5 ?_); refine wpList_allocRow (w := w5) entTy rfl rfl ?_; (intro w6 b6 B6 s6; have b6 := Lib.hid b6; replace s6 := Lib.hid s6))
    | ((with_reducible refine atWorld w6 ?_); refine wpList_storeRow (w := w6) entTy rfl (.tmp 11) (.tmp 48) rfl w5.heap.size (entL V A5 c5) entZ rfl rfl rfl rfl (ent_one _ _ _) b6.out ?_; (intro w7 b7 B7 s7 k7; have D7 : Below w5.heap.size w5 w7 := B6.trans B7; have C7 := step_trans C5 D7; obtain ⟨_, _, l7, _⟩ := KX.out w7 C7; have o37 := o35.step D7; have o47 := o45.step D7; have o57 := o5.step D7; have b7 := Lib.hid b7; clear k7))
    | (go_at_call 14; (with_reducible refine (zrd w7 l7).mono ?_); (rintro e w8 ⟨A8, c8, rfl, hc8, o8, _, B8⟩; have C8 := step_trans C7 B8; have o38 := o37.step B8; have o48 := o47.step B8; have o58 := o57.step B8; have b8 := Lib.hid (b7.out.step B8)))
    | ((with_reducible refine atWorld w8 ?_); refine wpList_allocRow (w := w8) entTy rfl rfl ?_; (intro w9 b9 B9 s9; have b9 := Lib.hid b9; replace s9 := Lib.hid s9))
    | ((with_reducible refine atWorld w9 ?_); refine wpList_storeRow (w := w9) entTy rfl (.tmp 13) (.tmp 53) rfl w8.heap.size (entL V A8 c8) entZ rfl rfl rfl rfl (ent_one _ _ _) b9.out ?_; (intro w10 b10 B10 s10 k10; have D10 : Below w8.heap.size w8 w10 := B9.trans B10; have C10 := step_trans C8 D10; have o310 := o38.step D10; have v3 := o310.bytes; have v4 := o48.step D10; have o510 := o58.step D10; have v5 := o510.bytes; have v8 := o8.step D10; obtain ⟨f0, f1, f2⟩ := ent_cells (b8.out.step D10); obtain ⟨g0, g1', g2'⟩ := ent_cells b10; have b810 := Lib.hid (b8.out.step D10); clear k10))
    | (go_at_call 15; ((with_reducible refine (zs A3 c3 A4 c4 w10 v3 v4).mono ?_); (rintro e w11 ⟨rfl, rfl⟩)))
    | (go_at_call 16; ((with_reducible refine (zs' A5 c5 A8 c8 w10 v5 v8).mono ?_); (rintro e w11 ⟨rfl, B11⟩; have C11 := step_trans C10 B11; have o311 := o310.step B11; have o511 := o510.step B11; have b811 := Lib.hid (b810.out.step B11))))
    | (go_at_call 17; first
      | ((with_reducible refine (zo A3 c3 w2.heap.size w11 hc3 o311 (Nat.le_trans B3.size (Nat.le_trans B4.size (Nat.le_trans B5.size (Nat.le_trans D7.size (Nat.le_trans B8.size (Nat.le_trans D10.size B11.size))))))).mono ?_); (rintro e w12 ⟨rfl, B12, f12⟩; have o512 := o511.frame f12 o34.lt; have b12' := b811.out.frame f12 (fun hh => by have := o34.lt _ hh; have := B5.size; omega); obtain ⟨_, _, h2'⟩ := ent_cells b12'))
      | ((with_reducible refine (zo' A5 c5 w4.heap.size w12 hc5 o512 (by have := B5.size; have := D7.size; have := B8.size; have := D10.size; have := B11.size; have := B12.size; omega)).mono ?_); (rintro e w13 ⟨rfl, B13, f13⟩; have D13 := ((((step_trans B3 (step_trans B4 (step_trans B5 (step_trans D7 (step_trans B8 (step_trans D10 B11)))))).trans B12).trans (B13.mono (Nat.le_trans B3.size B4.size)))); have m1 := b12.step D13; have m2 := b2.step D13; have C13 := step_trans C2 D13; obtain ⟨x13, r13, l13, _⟩ := KX.out w13 C13; have z2 := x13.cell (k := 2) rfl)))
    | (go_at_call 18; first
      | ((with_reducible refine (zk _ w13 m1 r13).mono ?_); (rintro e w14 ⟨rfl, B14⟩; have m24 := m2.step B14; have l14 := l13.step B14; have C14 := step_trans C13 B14))
      | ((with_reducible refine (zk' _ w14 m24 l14).mono ?_); (rintro e w15 ⟨rfl, B15⟩; have C15 := step_trans C14 B15; obtain ⟨_, _, _, t15⟩ := KX.out w15 C15)))
    | (go_at_call 19; refine (zw w15 t15).mono ?_; (rintro e w16 ⟨rfl, B16⟩; have C16 := step_trans C15 B16)))
  go_ret
  exact ⟨rfl, step_trans C0.out C16⟩
theorem tells_any (e : Ent) (A : Option Addr) (c : Nat) (A' : Option Addr) (l : List UInt8) (c' : Nat) (hlc : l.length ≤ c') (w : World) (ht : TabAt w) (hr : BytesAt w w.heap.size A e.d) (hr' : BytesAt w w.heap.size A' l) :
    Calls Tryd.prog 3 #[.agg (entL e A c).toArray, .slice A' l.length c'] w fun en w' => en = .returned (.bool true) ∧ Below w.heap.size w w' := by
  by_cases h : 100 < e.d.length ∨ 100 < l.length
  · exact tells_long e A c A' l c' w h
  · obtain ⟨b, n, d⟩ := e
    exact tells_short b n d A c A' l c' hlc w ht hr hr' (by have h : ¬ (100 < d.length ∨ 100 < l.length) := h; omega) (by have h : ¬ (100 < d.length ∨ 100 < l.length) := h; omega)
end Go.Proofs.YtliiejdhbkmifaaDoor
