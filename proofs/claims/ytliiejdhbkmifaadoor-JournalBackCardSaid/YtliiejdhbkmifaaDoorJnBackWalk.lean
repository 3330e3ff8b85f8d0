/-
  The walk of JournalBack. Conditions: the table of crc lies as the program's text lays it; the bytes can be read.
-/
import Derived.Test.YtliiejdhbkmifaaDoorJnAwake
import Derived.Test.YtliiejdhbkmifaaDoorDiskAny
namespace Go.Proofs.YtliiejdhbkmifaaDoor
open Go.RowKit Fix

set_option maxRecDepth 100000 in
theorem back_long (e : Ent) (A : Option Addr) (c : Nat) (A' : Option Addr) (l : List UInt8) (c' : Nat) (w : World) (ht : TabAt w) (h : 100 < e.d.length ∨ 100 < l.length) :
    Calls Tryd.prog 6 #[.agg (entL e A c).toArray, .slice A' l.length c'] w fun en w' => en = .returned (.bool true) ∧ Below w.heap.size w w' := by
  have zw := fun w t => awake_any disks w t
  have bx := boxE w e A c
  obtain ⟨W, hW⟩ : ∃ W, W = w.alloc (.cells (entL e A c).toArray 24) := ⟨_, rfl⟩
  rw [← hW] at bx
  have tW := ht.below bx.out.2 (Nat.le_refl _)
  have KX : Hid (∀ w', Below W.heap.size W w' → w'.cell? ⟨w.heap.size, 2, none⟩ = some (.slice A e.d.length c)) := Lib.hid fun w' hb => (ent_cells (bx.out.1.step hb)).2.2
  have hB := Lib.hid bx.out.2
  obtain ⟨b, n, d⟩ := e
  replace h : 100 < d.length ∨ 100 < l.length := h
  replace KX : Hid (∀ w', Below W.heap.size W w' → w'.cell? ⟨w.heap.size, 2, none⟩ = some (.slice A d.length c)) := KX
  unfold entL at hW ⊢
  obtain ⟨m, hm⟩ : ∃ p, p = d.length := ⟨_, rfl⟩
  obtain ⟨q, hq⟩ : ∃ p, p = l.length := ⟨_, rfl⟩
  rw [← hm] at KX
  simp only [← hm, ← hq] at h hW ⊢
  clear bx hm hq
  by_cases h1 : 100 < m
  · have i1 : (100 : Int) < (m : Int) := by omega
    clear h h1
    go_enter Tryd.func6, Tryd.ntmps6
    go_wp2_with (go_at_call 19; rw [← hW]; refine (zw W tW).mono ?_; (rintro e w1 ⟨rfl, B1⟩; have y1 := KX.out w1 B1))
    go_ret
    exact ⟨rfl, step_trans hB.out B1⟩
  · have i1 : ¬ (100 : Int) < (m : Int) := by omega
    have i2 : (100 : Int) < (q : Int) := by omega
    clear h h1
    go_enter Tryd.func6, Tryd.ntmps6
    go_wp2_with (go_at_call 19; rw [← hW]; refine (zw W tW).mono ?_; (rintro e w1 ⟨rfl, B1⟩; have y1 := KX.out w1 B1))
    go_ret
    exact ⟨rfl, step_trans hB.out B1⟩
set_option maxRecDepth 100000 in
set_option maxHeartbeats 2000000 in
theorem back_yy (e : Ent) (A : Option Addr) (c : Nat) (A' : Option Addr) (l : List UInt8) (c' : Nat) (hlc : l.length ≤ c') (w : World) (ht : TabAt w) (hr : BytesAt w w.heap.size A e.d) (hr' : BytesAt w w.heap.size A' l) (h1 : e.d.length ≤ 100) (_h2 : l.length ≤ 100)
    (hm : Jn.may e = true) (hy : Jn.readE l = 0) :
    Calls Tryd.prog 6 #[.agg (entL e A c).toArray, .slice A' l.length c'] w fun en w' => en = .returned (.bool true) ∧ Below w.heap.size w w' := by
  have zw := fun w t => awake_any disks w t
  have bx := boxE w e A c
  obtain ⟨W, hW⟩ : ∃ W, W = w.alloc (.cells (entL e A c).toArray 24) := ⟨_, rfl⟩
  rw [← hW] at bx
  have tW := ht.below bx.out.2 (Nat.le_refl _)
  have KX : Hid (∀ w', Below W.heap.size W w' → BlkR 24 w' w.heap.size (entL e A c) ∧ BytesAt w' w'.heap.size A e.d ∧ BytesAt w' w'.heap.size A' l ∧ TabAt w') := Lib.hid fun w' hb => ⟨bx.out.1.step hb, hr.step (step_trans bx.out.2 hb), hr'.step (step_trans bx.out.2 hb), ht.below (step_trans bx.out.2 hb) (Nat.le_refl _)⟩
  have hB := Lib.hid bx.out.2
  have zb := fun w t h => journalBytes_any e A c w t h
  unfold JbPost at zb
  have e1 := Jn.bytes_len hm
  obtain ⟨e2, e3, _⟩ := Jn.read_bytes hm
  rw [Jn.bytesE_yes hm, e1] at zb
  have zr := fun A c hc w t h => journalRead_any A (Jn.bytesB e) 64 c e1 hc w t h
  unfold JrPost at zr
  rw [e2, e3] at zr
  have zs := fun A1 c1 w h h' => sameEntry_any e A1 c1 e A c w h h'
  rw [Jn.same_self] at zs
  obtain ⟨sc, hsc⟩ : ∃ x, x = Jn.bytesB e := ⟨_, rfl⟩
  rw [← hsc] at zb zr e1
  have HLEN := Lib.hid e1
  obtain ⟨q, hq⟩ : ∃ p, p = l.length := ⟨_, rfl⟩
  have zl := fun w t h => journalRead_any A' l q c' hq.symm (by omega) w t h
  unfold JrPost at zl
  obtain ⟨k1, k2, k3, k4⟩ := Jn.sect_read l hy
  rw [hy] at zl
  have zy := fun A c w t h => journalBytes_any (Jn.readV l) A c w t h
  unfold JbPost at zy
  rw [Jn.bytesE_yes k1, k2, k4] at zy
  have zt := fun A1 c1 w1 h h' => same_yes A1 l 64 c1 k4 A' l q c' hq.symm w1 h h' rfl
  obtain ⟨V, hV⟩ : ∃ x, x = Jn.readV l := ⟨_, rfl⟩
  rw [← hV] at zl zy
  have i1 : ¬ (100 : Int) < (e.d.length : Int) := by omega
  have i2 : ¬ (100 : Int) < (q : Int) := by omega
  rw [← hq] at hlc ⊢
  obtain ⟨eb, en, ed⟩ := e
  have eL : ∀ A c, entL ⟨eb, en, ed⟩ A c = entN eb en A ed.length c := fun A c => rfl
  simp only [eL] at zb zr zs KX bx hW ⊢
  replace i1 : ¬ (100 : Int) < (ed.length : Int) := i1
  obtain ⟨p, hp⟩ : ∃ p, p = ed.length := ⟨_, rfl⟩
  simp only [← hp] at zb zr zs KX bx hW i1 ⊢
  unfold entN at hW zs ⊢
  clear ht hr hr' bx eL hp hq hm h1 _h2 hV e1 e2 e3 hsc hy k1 k2 k3 k4
  go_enter Tryd.func6, Tryd.ntmps6
  go_wp2_with (first
    | (go_at_call 19; rw [← hW]; refine (zw W tW).mono ?_; (rintro e w1 ⟨rfl, B1⟩; obtain ⟨x1, r1, _, t1⟩ := KX.out w1 B1; have y12 := x1.cell (k := 2) rfl; have x1 := Lib.hid x1))
    | ((with_reducible refine atWorld w1 ?_); refine wpList_loadRow (w := w1) entTy rfl (.tmp 2) rfl w.heap.size 0 (entN eb en A p c) rfl rfl (rangeOf x1.out) ?_)
    | (go_at_call 11; first
      | ((with_reducible refine (zb w1 t1 r1).mono ?_); (rintro e w2 ⟨A2, c2, rfl, hc2, o2, B2⟩; have C2 := step_trans B1 B2; obtain ⟨_, _, _, t2⟩ := KX.out w2 C2; have r2 := o2.bytes; have hc2 := o2.cap))
      | ((with_reducible refine (zy A7 c7 w9 t9 o9).mono ?_); (rintro e w10 ⟨A10, c10, rfl, _, o10, B10⟩; have C10 := step_trans C9 B10; have q10 := o10.bytes; obtain ⟨_, _, l10, _⟩ := KX.out w10 C10)))
    | (go_at_call 13; first
      | ((with_reducible refine (zr A2 c2 (by rw [HLEN.out] at hc2; exact hc2) w2 t2 r2).mono ?_); (rintro e w3 ⟨A3, c3, rfl, hc3, o3, B3⟩; have C3 := step_trans C2 B3))
      | ((with_reducible refine (zl w6 t6 l6).mono ?_); (rintro e w7 ⟨A7, c7, rfl, hc7, o7, B7⟩; have C7 := step_trans C6 B7)))
    | ((with_reducible refine atWorld w3 ?_); refine wpList_allocRow (w := w3) entTy rfl rfl ?_; (intro w4 b4 B4 s4; have b4 := Lib.hid b4; replace s4 := Lib.hid s4))
    | ((with_reducible refine atWorld w4 ?_); refine wpList_storeRow (w := w4) entTy rfl (.tmp 8) (.tmp 35) rfl w3.heap.size (entN eb en A3 p c3) entZ rfl rfl rfl rfl (entN_one _ _ _ _ _) b4.out ?_; (intro w5 b5 B5 s5 k5; have D5 : Below w3.heap.size w3 w5 := B4.trans B5; have C5 := step_trans C3 D5; obtain ⟨x5, r5, _, _⟩ := KX.out w5 C5; have u0 := x5.cell (k := 0) rfl; have u1 := x5.cell (k := 1) rfl; have u2 := x5.cell (k := 2) rfl; have v0 := b5.cell (k := 0) rfl; have v1 := b5.cell (k := 1) rfl; have v2 := b5.cell (k := 2) rfl; have o5 := (o3.step D5).bytes; clear k5))
    | (go_at_call 16; ((with_reducible refine (zs A3 c3 w5 o5 r5).mono ?_); (rintro e w6 ⟨rfl, B6⟩; have C6 := step_trans C5 B6; obtain ⟨_, _, l6, t6⟩ := KX.out w6 C6)))
    | ((with_reducible refine atWorld w7 ?_); refine wpList_allocRow (w := w7) entTy rfl rfl ?_; (intro w8 b8 B8 s8; have b8 := Lib.hid b8; replace s8 := Lib.hid s8))
    | ((with_reducible refine atWorld w8 ?_); refine wpList_storeRow (w := w8) entTy rfl (.tmp 10) (.tmp 53) rfl w7.heap.size (entL V A7 c7) entZ rfl rfl rfl rfl (ent_one _ _ _) b8.out ?_; (intro w9 b9 B9 s9 k9; have D9 : Below w7.heap.size w7 w9 := B8.trans B9; have C9 := step_trans C7 D9; obtain ⟨_, _, _, t9⟩ := KX.out w9 C9; have o9 := (o7.step D9).bytes; have b9 := Lib.hid b9; clear k9))
    | ((with_reducible refine atWorld w9 ?_); refine wpList_loadRow (w := w9) entTy rfl (.tmp 10) rfl w7.heap.size 0 (entL V A7 c7) rfl rfl (rangeOf b9.out) ?_)
    | (go_at_call 15; ((with_reducible refine (zt A10 c10 w10 q10 l10).mono ?_); (rintro e w11 ⟨rfl, rfl⟩))))
  go_ret
  exact ⟨rfl, step_trans hB.out C10⟩
set_option maxRecDepth 100000 in
set_option maxHeartbeats 2000000 in
theorem back_yn (e : Ent) (A : Option Addr) (c : Nat) (A' : Option Addr) (l : List UInt8) (c' : Nat) (hlc : l.length ≤ c') (w : World) (ht : TabAt w) (hr : BytesAt w w.heap.size A e.d) (hr' : BytesAt w w.heap.size A' l) (h1 : e.d.length ≤ 100) (h2 : l.length ≤ 100)
    (hm : Jn.may e = true) (hy : Jn.readE l ≠ 0) :
    Calls Tryd.prog 6 #[.agg (entL e A c).toArray, .slice A' l.length c'] w fun en w' => en = .returned (.bool true) ∧ Below w.heap.size w w' := by
  have zw := fun w t => awake_any disks w t
  have bx := boxE w e A c
  obtain ⟨W, hW⟩ : ∃ W, W = w.alloc (.cells (entL e A c).toArray 24) := ⟨_, rfl⟩
  rw [← hW] at bx
  have tW := ht.below bx.out.2 (Nat.le_refl _)
  have KX : Hid (∀ w', Below W.heap.size W w' → BlkR 24 w' w.heap.size (entL e A c) ∧ BytesAt w' w'.heap.size A e.d ∧ BytesAt w' w'.heap.size A' l ∧ TabAt w') := Lib.hid fun w' hb => ⟨bx.out.1.step hb, hr.step (step_trans bx.out.2 hb), hr'.step (step_trans bx.out.2 hb), ht.below (step_trans bx.out.2 hb) (Nat.le_refl _)⟩
  have hB := Lib.hid bx.out.2
  have zb := fun w t h => journalBytes_any e A c w t h
  unfold JbPost at zb
  have e1 := Jn.bytes_len hm
  obtain ⟨e2, e3, _⟩ := Jn.read_bytes hm
  rw [Jn.bytesE_yes hm, e1] at zb
  have zr := fun A c hc w t h => journalRead_any A (Jn.bytesB e) 64 c e1 hc w t h
  unfold JrPost at zr
  rw [e2, e3] at zr
  have zs := fun A1 c1 w h h' => sameEntry_any e A1 c1 e A c w h h'
  rw [Jn.same_self] at zs
  obtain ⟨sc, hsc⟩ : ∃ x, x = Jn.bytesB e := ⟨_, rfl⟩
  rw [← hsc] at zb zr e1
  have HLEN := Lib.hid e1
  obtain ⟨q, hq⟩ : ∃ p, p = l.length := ⟨_, rfl⟩
  have zl := fun w t h => journalRead_any A' l q c' hq.symm (by omega) w t h
  unfold JrPost at zl
  obtain ⟨re, hre⟩ : ∃ x, x = Jn.readE l := ⟨_, rfl⟩
  rw [← hre] at zl hy
  have hny : (re != 0) = true := by simpa using hy
  obtain ⟨V, hV⟩ : ∃ x, x = Jn.readV l := ⟨_, rfl⟩
  rw [← hV] at zl
  have i1 : ¬ (100 : Int) < (e.d.length : Int) := by omega
  have i2 : ¬ (100 : Int) < (q : Int) := by omega
  rw [← hq] at hlc ⊢
  obtain ⟨eb, en, ed⟩ := e
  have eL : ∀ A c, entL ⟨eb, en, ed⟩ A c = entN eb en A ed.length c := fun A c => rfl
  simp only [eL] at zb zr zs KX bx hW ⊢
  replace i1 : ¬ (100 : Int) < (ed.length : Int) := i1
  obtain ⟨p, hp⟩ : ∃ p, p = ed.length := ⟨_, rfl⟩
  simp only [← hp] at zb zr zs KX bx hW i1 ⊢
  unfold entN at hW zs ⊢
  clear ht hr hr' bx eL hp hq hm h1 h2 hV e1 e2 e3 hsc hy hre
  go_enter Tryd.func6, Tryd.ntmps6
  go_wp2_with (first
    | (go_at_call 19; rw [← hW]; refine (zw W tW).mono ?_; (rintro e w1 ⟨rfl, B1⟩; obtain ⟨x1, r1, _, t1⟩ := KX.out w1 B1; have y12 := x1.cell (k := 2) rfl; have x1 := Lib.hid x1))
    | ((with_reducible refine atWorld w1 ?_); refine wpList_loadRow (w := w1) entTy rfl (.tmp 2) rfl w.heap.size 0 (entN eb en A p c) rfl rfl (rangeOf x1.out) ?_)
    | (go_at_call 11; first
      | ((with_reducible refine (zb w1 t1 r1).mono ?_); (rintro e w2 ⟨A2, c2, rfl, hc2, o2, B2⟩; have C2 := step_trans B1 B2; obtain ⟨_, _, _, t2⟩ := KX.out w2 C2; have r2 := o2.bytes; have hc2 := o2.cap)))
    | (go_at_call 13; first
      | ((with_reducible refine (zr A2 c2 (by rw [HLEN.out] at hc2; exact hc2) w2 t2 r2).mono ?_); (rintro e w3 ⟨A3, c3, rfl, hc3, o3, B3⟩; have C3 := step_trans C2 B3))
      | ((with_reducible refine (zl w6 t6 l6).mono ?_); (rintro e w7 ⟨A7, c7, rfl, hc7, o7, B7⟩; have C7 := step_trans C6 B7)))
    | ((with_reducible refine atWorld w3 ?_); refine wpList_allocRow (w := w3) entTy rfl rfl ?_; (intro w4 b4 B4 s4; have b4 := Lib.hid b4; replace s4 := Lib.hid s4))
    | ((with_reducible refine atWorld w4 ?_); refine wpList_storeRow (w := w4) entTy rfl (.tmp 8) (.tmp 35) rfl w3.heap.size (entN eb en A3 p c3) entZ rfl rfl rfl rfl (entN_one _ _ _ _ _) b4.out ?_; (intro w5 b5 B5 s5 k5; have D5 : Below w3.heap.size w3 w5 := B4.trans B5; have C5 := step_trans C3 D5; obtain ⟨x5, r5, _, _⟩ := KX.out w5 C5; have u0 := x5.cell (k := 0) rfl; have u1 := x5.cell (k := 1) rfl; have u2 := x5.cell (k := 2) rfl; have v0 := b5.cell (k := 0) rfl; have v1 := b5.cell (k := 1) rfl; have v2 := b5.cell (k := 2) rfl; have o5 := (o3.step D5).bytes; clear k5))
    | (go_at_call 16; ((with_reducible refine (zs A3 c3 w5 o5 r5).mono ?_); (rintro e w6 ⟨rfl, B6⟩; have C6 := step_trans C5 B6; obtain ⟨_, _, l6, t6⟩ := KX.out w6 C6)))
    | ((with_reducible refine atWorld w7 ?_); refine wpList_allocRow (w := w7) entTy rfl rfl ?_; (intro w8 b8 B8 s8; have b8 := Lib.hid b8; replace s8 := Lib.hid s8))
    | ((with_reducible refine atWorld w8 ?_); refine wpList_storeRow (w := w8) entTy rfl (.tmp 10) (.tmp 53) rfl w7.heap.size (entL V A7 c7) entZ rfl rfl rfl rfl (ent_one _ _ _) b8.out ?_; (intro w9 b9 B9 s9 k9; have D9 : Below w7.heap.size w7 w9 := B8.trans B9; have C9 := step_trans C7 D9; obtain ⟨_, _, _, t9⟩ := KX.out w9 C9; have o9 := (o7.step D9).bytes; have b9 := Lib.hid b9; clear k9)))
  go_ret
  exact ⟨rfl, step_trans hB.out C9⟩
set_option maxRecDepth 100000 in
set_option maxHeartbeats 2000000 in
theorem back_ny (e : Ent) (A : Option Addr) (c : Nat) (A' : Option Addr) (l : List UInt8) (c' : Nat) (hlc : l.length ≤ c') (w : World) (ht : TabAt w) (hr : BytesAt w w.heap.size A e.d) (hr' : BytesAt w w.heap.size A' l) (h1 : e.d.length ≤ 100) (_h2 : l.length ≤ 100)
    (hm : Jn.may e = false) (hy : Jn.readE l = 0) :
    Calls Tryd.prog 6 #[.agg (entL e A c).toArray, .slice A' l.length c'] w fun en w' => en = .returned (.bool true) ∧ Below w.heap.size w w' := by
  have zw := fun w t => awake_any disks w t
  have bx := boxE w e A c
  obtain ⟨W, hW⟩ : ∃ W, W = w.alloc (.cells (entL e A c).toArray 24) := ⟨_, rfl⟩
  rw [← hW] at bx
  have tW := ht.below bx.out.2 (Nat.le_refl _)
  have KX : Hid (∀ w', Below W.heap.size W w' → BlkR 24 w' w.heap.size (entL e A c) ∧ BytesAt w' w'.heap.size A e.d ∧ BytesAt w' w'.heap.size A' l ∧ TabAt w') := Lib.hid fun w' hb => ⟨bx.out.1.step hb, hr.step (step_trans bx.out.2 hb), hr'.step (step_trans bx.out.2 hb), ht.below (step_trans bx.out.2 hb) (Nat.le_refl _)⟩
  have hB := Lib.hid bx.out.2
  have zb := fun w t h => journalBytes_any e A c w t h
  unfold JbPost at zb
  rw [Jn.bytesE_no hm, Jn.bytesB_no hm] at zb
  obtain ⟨q, hq⟩ : ∃ p, p = l.length := ⟨_, rfl⟩
  have zl := fun w t h => journalRead_any A' l q c' hq.symm (by omega) w t h
  unfold JrPost at zl
  obtain ⟨k1, k2, k3, k4⟩ := Jn.sect_read l hy
  rw [hy] at zl
  have zy := fun A c w t h => journalBytes_any (Jn.readV l) A c w t h
  unfold JbPost at zy
  rw [Jn.bytesE_yes k1, k2, k4] at zy
  have zt := fun A1 c1 w1 h h' => same_yes A1 l 64 c1 k4 A' l q c' hq.symm w1 h h' rfl
  obtain ⟨V, hV⟩ : ∃ x, x = Jn.readV l := ⟨_, rfl⟩
  rw [← hV] at zl zy
  have i1 : ¬ (100 : Int) < (e.d.length : Int) := by omega
  have i2 : ¬ (100 : Int) < (q : Int) := by omega
  rw [← hq] at hlc ⊢
  obtain ⟨eb, en, ed⟩ := e
  have eL : ∀ A c, entL ⟨eb, en, ed⟩ A c = entN eb en A ed.length c := fun A c => rfl
  simp only [eL] at zb  KX bx hW ⊢
  replace i1 : ¬ (100 : Int) < (ed.length : Int) := i1
  obtain ⟨p, hp⟩ : ∃ p, p = ed.length := ⟨_, rfl⟩
  simp only [← hp] at zb  KX bx hW i1 ⊢
  unfold entN at hW  ⊢
  clear ht hr hr' bx eL hp hq hm h1 _h2 hV  hy k1 k2 k3 k4
  go_enter Tryd.func6, Tryd.ntmps6
  go_wp2_with (first
    | (go_at_call 19; rw [← hW]; refine (zw W tW).mono ?_; (rintro e w1 ⟨rfl, B1⟩; obtain ⟨x1, r1, _, t1⟩ := KX.out w1 B1; have y12 := x1.cell (k := 2) rfl; have x1 := Lib.hid x1))
    | ((with_reducible refine atWorld w1 ?_); refine wpList_loadRow (w := w1) entTy rfl (.tmp 2) rfl w.heap.size 0 (entN eb en A p c) rfl rfl (rangeOf x1.out) ?_)
    | (go_at_call 11; first
      | ((with_reducible refine (zb w1 t1 r1).mono ?_); (rintro e w2 ⟨A2, c2, rfl, hc2, o2, B2⟩; have C2 := step_trans B1 B2; obtain ⟨_, _, l2, t2⟩ := KX.out w2 C2))
      | ((with_reducible refine (zy A7 c7 w9 t9 o9).mono ?_); (rintro e w10 ⟨A10, c10, rfl, _, o10, B10⟩; have C10 := step_trans C9 B10; have q10 := o10.bytes; obtain ⟨_, _, l10, _⟩ := KX.out w10 C10)))
    | (go_at_call 13; first
      | ((with_reducible refine (zl w2 t2 l2).mono ?_); (rintro e w7 ⟨A7, c7, rfl, hc7, o7, B7⟩; have C7 := step_trans C2 B7)))
    | ((with_reducible refine atWorld w7 ?_); refine wpList_allocRow (w := w7) entTy rfl rfl ?_; (intro w8 b8 B8 s8; have b8 := Lib.hid b8; replace s8 := Lib.hid s8))
    | ((with_reducible refine atWorld w8 ?_); refine wpList_storeRow (w := w8) entTy rfl (.tmp 10) (.tmp 53) rfl w7.heap.size (entL V A7 c7) entZ rfl rfl rfl rfl (ent_one _ _ _) b8.out ?_; (intro w9 b9 B9 s9 k9; have D9 : Below w7.heap.size w7 w9 := B8.trans B9; have C9 := step_trans C7 D9; obtain ⟨_, _, _, t9⟩ := KX.out w9 C9; have o9 := (o7.step D9).bytes; have b9 := Lib.hid b9; clear k9))
    | ((with_reducible refine atWorld w9 ?_); refine wpList_loadRow (w := w9) entTy rfl (.tmp 10) rfl w7.heap.size 0 (entL V A7 c7) rfl rfl (rangeOf b9.out) ?_)
    | (go_at_call 15; ((with_reducible refine (zt A10 c10 w10 q10 l10).mono ?_); (rintro e w11 ⟨rfl, rfl⟩))))
  go_ret
  exact ⟨rfl, step_trans hB.out C10⟩
set_option maxRecDepth 100000 in
set_option maxHeartbeats 2000000 in
theorem back_nn (e : Ent) (A : Option Addr) (c : Nat) (A' : Option Addr) (l : List UInt8) (c' : Nat) (hlc : l.length ≤ c') (w : World) (ht : TabAt w) (hr : BytesAt w w.heap.size A e.d) (hr' : BytesAt w w.heap.size A' l) (h1 : e.d.length ≤ 100) (h2 : l.length ≤ 100)
    (hm : Jn.may e = false) (hy : Jn.readE l ≠ 0) :
    Calls Tryd.prog 6 #[.agg (entL e A c).toArray, .slice A' l.length c'] w fun en w' => en = .returned (.bool true) ∧ Below w.heap.size w w' := by
  have zw := fun w t => awake_any disks w t
  have bx := boxE w e A c
  obtain ⟨W, hW⟩ : ∃ W, W = w.alloc (.cells (entL e A c).toArray 24) := ⟨_, rfl⟩
  rw [← hW] at bx
  have tW := ht.below bx.out.2 (Nat.le_refl _)
  have KX : Hid (∀ w', Below W.heap.size W w' → BlkR 24 w' w.heap.size (entL e A c) ∧ BytesAt w' w'.heap.size A e.d ∧ BytesAt w' w'.heap.size A' l ∧ TabAt w') := Lib.hid fun w' hb => ⟨bx.out.1.step hb, hr.step (step_trans bx.out.2 hb), hr'.step (step_trans bx.out.2 hb), ht.below (step_trans bx.out.2 hb) (Nat.le_refl _)⟩
  have hB := Lib.hid bx.out.2
  have zb := fun w t h => journalBytes_any e A c w t h
  unfold JbPost at zb
  rw [Jn.bytesE_no hm, Jn.bytesB_no hm] at zb
  obtain ⟨q, hq⟩ : ∃ p, p = l.length := ⟨_, rfl⟩
  have zl := fun w t h => journalRead_any A' l q c' hq.symm (by omega) w t h
  unfold JrPost at zl
  obtain ⟨re, hre⟩ : ∃ x, x = Jn.readE l := ⟨_, rfl⟩
  rw [← hre] at zl hy
  have hny : (re != 0) = true := by simpa using hy
  obtain ⟨V, hV⟩ : ∃ x, x = Jn.readV l := ⟨_, rfl⟩
  rw [← hV] at zl
  have i1 : ¬ (100 : Int) < (e.d.length : Int) := by omega
  have i2 : ¬ (100 : Int) < (q : Int) := by omega
  rw [← hq] at hlc ⊢
  obtain ⟨eb, en, ed⟩ := e
  have eL : ∀ A c, entL ⟨eb, en, ed⟩ A c = entN eb en A ed.length c := fun A c => rfl
  simp only [eL] at zb  KX bx hW ⊢
  replace i1 : ¬ (100 : Int) < (ed.length : Int) := i1
  obtain ⟨p, hp⟩ : ∃ p, p = ed.length := ⟨_, rfl⟩
  simp only [← hp] at zb  KX bx hW i1 ⊢
  unfold entN at hW  ⊢
  clear ht hr hr' bx eL hp hq hm h1 h2 hV  hy hre
  go_enter Tryd.func6, Tryd.ntmps6
  go_wp2_with (first
    | (go_at_call 19; rw [← hW]; refine (zw W tW).mono ?_; (rintro e w1 ⟨rfl, B1⟩; obtain ⟨x1, r1, _, t1⟩ := KX.out w1 B1; have y12 := x1.cell (k := 2) rfl; have x1 := Lib.hid x1))
    | ((with_reducible refine atWorld w1 ?_); refine wpList_loadRow (w := w1) entTy rfl (.tmp 2) rfl w.heap.size 0 (entN eb en A p c) rfl rfl (rangeOf x1.out) ?_)
    | (go_at_call 11; first
      | ((with_reducible refine (zb w1 t1 r1).mono ?_); (rintro e w2 ⟨A2, c2, rfl, hc2, o2, B2⟩; have C2 := step_trans B1 B2; obtain ⟨_, _, l2, t2⟩ := KX.out w2 C2)))
    | (go_at_call 13; first
      | ((with_reducible refine (zl w2 t2 l2).mono ?_); (rintro e w7 ⟨A7, c7, rfl, hc7, o7, B7⟩; have C7 := step_trans C2 B7)))
    | ((with_reducible refine atWorld w7 ?_); refine wpList_allocRow (w := w7) entTy rfl rfl ?_; (intro w8 b8 B8 s8; have b8 := Lib.hid b8; replace s8 := Lib.hid s8))
    | ((with_reducible refine atWorld w8 ?_); refine wpList_storeRow (w := w8) entTy rfl (.tmp 10) (.tmp 53) rfl w7.heap.size (entL V A7 c7) entZ rfl rfl rfl rfl (ent_one _ _ _) b8.out ?_; (intro w9 b9 B9 s9 k9; have D9 : Below w7.heap.size w7 w9 := B8.trans B9; have C9 := step_trans C7 D9; obtain ⟨_, _, _, t9⟩ := KX.out w9 C9; have o9 := (o7.step D9).bytes; have b9 := Lib.hid b9; clear k9)))
  go_ret
  exact ⟨rfl, step_trans hB.out C9⟩
theorem back_any (e : Ent) (A : Option Addr) (c : Nat) (A' : Option Addr) (l : List UInt8) (c' : Nat) (hlc : l.length ≤ c') (w : World) (ht : TabAt w) (hr : BytesAt w w.heap.size A e.d) (hr' : BytesAt w w.heap.size A' l) :
    Calls Tryd.prog 6 #[.agg (entL e A c).toArray, .slice A' l.length c'] w fun en w' => en = .returned (.bool true) ∧ Below w.heap.size w w' := by
  by_cases h : 100 < e.d.length ∨ 100 < l.length
  · exact back_long e A c A' l c' w ht h
  · cases hm : Jn.may e with
    | true =>
      by_cases hy : Jn.readE l = 0
      · exact back_yy e A c A' l c' hlc w ht hr hr' (by omega) (by omega) hm hy
      · exact back_yn e A c A' l c' hlc w ht hr hr' (by omega) (by omega) hm hy
    | false =>
      by_cases hy : Jn.readE l = 0
      · exact back_ny e A c A' l c' hlc w ht hr hr' (by omega) (by omega) hm hy
      · exact back_nn e A c A' l c' hlc w ht hr hr' (by omega) (by omega) hm hy
end Go.Proofs.YtliiejdhbkmifaaDoor
