/-
  The walk of BlockTorn. Conditions: the table of crc lies as the program's text lays it; the bytes can be read.
-/
import Derived.Test.YtmbloclkinghnaaDoorBkAwake
import Derived.Test.YtmbloclkinghnaaDoorKitZeros
namespace Go.Proofs.YtmbloclkinghnaaDoor
open Go.RowKit Fix

set_option maxRecDepth 100000 in
theorem torn_long (a n m : Int) (A : Option Addr) (r : List UInt8) (c : Nat) (A' : Option Addr) (l : List UInt8) (c' : Nat) (w : World) (ht : TabAt w) (h : 100 < r.length ∨ 100 < l.length) :
    Calls Tryd.prog 5 #[.int .i64 a, .int .i64 n, .int .i64 m, .slice A r.length c, .slice A' l.length c'] w fun e w' => e = .returned (.bool true) ∧ Below w.heap.size w w' := by
  by_cases h1 : 100 < r.length
  · have i1 : (100 : Int) < (r.length : Int) := by omega
    clear h h1
    go_enter Tryd.func5, Tryd.ntmps5
    go_wp2_with (go_at_call 17; refine (awake_any w ht).mono ?_; (rintro e w1 ⟨rfl, B1⟩))
    go_ret
    exact ⟨rfl, B1⟩
  · have i1 : ¬ (100 : Int) < (r.length : Int) := by omega
    have i2 : (100 : Int) < (l.length : Int) := by omega
    clear h h1
    go_enter Tryd.func5, Tryd.ntmps5
    go_wp2_with (go_at_call 17; refine (awake_any w ht).mono ?_; (rintro e w1 ⟨rfl, B1⟩))
    go_ret
    exact ⟨rfl, B1⟩
set_option maxRecDepth 100000 in
theorem torn_skip (a n m : Int) (A : Option Addr) (r : List UInt8) (c : Nat) (A' : Option Addr) (l : List UInt8) (c' : Nat) (w : World) (ht : TabAt w) (hr : BytesAt w w.heap.size A r) (hr' : BytesAt w w.heap.size A' l) (l1 : r.length ≤ 100) (l2 : l.length ≤ 100)
    (h : Blk.bytesE a n r ≠ 0 ∨ Blk.bytesE a n r = 0 ∧ (Blk.bytesE a m l ≠ 0 ∨ Blk.bytesE a m l = 0 ∧ n = m)) :
    Calls Tryd.prog 5 #[.int .i64 a, .int .i64 n, .int .i64 m, .slice A r.length c, .slice A' l.length c'] w fun e w' => e = .returned (.bool true) ∧ Below w.heap.size w w' := by
  have i1 : ¬ (100 : Int) < (r.length : Int) := by omega
  have i2 : ¬ (100 : Int) < (l.length : Int) := by omega
  obtain ⟨p, hp⟩ : ∃ m, m = r.length := ⟨_, rfl⟩
  obtain ⟨q, hq⟩ : ∃ m, m = l.length := ⟨_, rfl⟩
  rw [← hp] at i1 ⊢
  rw [← hq] at i2 ⊢
  have z1 := fun w t h => blockBytes_any a n A r p c hp.symm w t h
  have z2 := fun w t h => blockBytes_any a m A' l q c' hq.symm w t h
  unfold BbPost at z1 z2
  obtain ⟨be, hbe⟩ : ∃ x, x = Blk.bytesE a n r := ⟨_, rfl⟩
  obtain ⟨ce, hce⟩ : ∃ x, x = Blk.bytesE a m l := ⟨_, rfl⟩
  rw [← hbe] at z1 h
  rw [← hce] at z2 h
  clear hbe hce hp hq l1 l2
  rcases h with h | ⟨rfl, h | ⟨rfl, rfl⟩⟩
  · have hne : (be != 0) = true := by simpa using h
    clear h
    go_enter Tryd.func5, Tryd.ntmps5
    go_wp2_with (first
      | (go_at_call 17; refine (awake_any w ht).mono ?_; (rintro e w1 ⟨rfl, B1⟩; have t1 := ht.below B1 (Nat.le_refl _); have r1 := hr.step B1; have l1 := hr'.step B1))
      | (go_at_call 10; first
        | ((with_reducible refine (z1 w1 t1 r1).mono ?_); (rintro e w2 ⟨A2, c2, rfl, hc2, x2, B2⟩; have t2 := t1.below B2 (Nat.le_refl _); have l2 := l1.step B2; have C2 := step_trans B1 B2))
        | ((with_reducible refine (z2 w2 t2 l2).mono ?_); (rintro e w3 ⟨A3, c3, rfl, hc3, x3, B3⟩; have C3 := step_trans C2 B3))))
    go_ret
    exact ⟨rfl, C3⟩
  · have hne : (ce != 0) = true := by simpa using h
    clear h
    go_enter Tryd.func5, Tryd.ntmps5
    go_wp2_with (first
      | (go_at_call 17; refine (awake_any w ht).mono ?_; (rintro e w1 ⟨rfl, B1⟩; have t1 := ht.below B1 (Nat.le_refl _); have r1 := hr.step B1; have l1 := hr'.step B1))
      | (go_at_call 10; first
        | ((with_reducible refine (z1 w1 t1 r1).mono ?_); (rintro e w2 ⟨A2, c2, rfl, hc2, x2, B2⟩; have t2 := t1.below B2 (Nat.le_refl _); have l2 := l1.step B2; have C2 := step_trans B1 B2))
        | ((with_reducible refine (z2 w2 t2 l2).mono ?_); (rintro e w3 ⟨A3, c3, rfl, hc3, x3, B3⟩; have C3 := step_trans C2 B3))))
    go_ret
    exact ⟨rfl, C3⟩
  · have hee : (n == n) = true := beq_self_eq_true _
    go_enter Tryd.func5, Tryd.ntmps5
    go_wp2_with (first
      | (go_at_call 17; refine (awake_any w ht).mono ?_; (rintro e w1 ⟨rfl, B1⟩; have t1 := ht.below B1 (Nat.le_refl _); have r1 := hr.step B1; have l1 := hr'.step B1))
      | (go_at_call 10; first
        | ((with_reducible refine (z1 w1 t1 r1).mono ?_); (rintro e w2 ⟨A2, c2, rfl, hc2, x2, B2⟩; have t2 := t1.below B2 (Nat.le_refl _); have l2 := l1.step B2; have C2 := step_trans B1 B2))
        | ((with_reducible refine (z2 w2 t2 l2).mono ?_); (rintro e w3 ⟨A3, c3, rfl, hc3, x3, B3⟩; have C3 := step_trans C2 B3))))
    go_ret
    exact ⟨rfl, C3⟩
/-- a torn sector is read as none -/
theorem bkRead_torn (p : Int) (a b : List UInt8) (n : Nat) (ha : a.length = 64) (hb : b.length = 64) (hn : Blk.num a = n) (hne : n ≠ Blk.again b) (A : Option Addr) (c : Nat) (hc : 64 ≤ c) (w : World) (ht : TabAt w) (hr : BytesAt w w.heap.size A (a.take 32 ++ b.drop 32)) :
    Calls Tryd.prog 12 #[.slice A 64 c, .int .i64 p] w fun e w' => ∃ A' c', e = .returned (.tuple #[.int .i64 0, .slice A' 0 c', .int .i64 11]) ∧ Below w.heap.size w w' := by
  obtain ⟨e1, e2⟩ := Blk.torn_bad p a b ha hb (by rw [hn]; exact hne)
  exact bkRead_no p A (Blk.torn a b) 64 c (Blk.torn_length a b ha hb) hc 11 e1 e2 w ht hr
set_option maxRecDepth 100000 in
set_option maxHeartbeats 1000000 in
theorem torn_go (d n m : Nat) (A : Option Addr) (r : List UInt8) (c : Nat) (A' : Option Addr) (l : List UInt8) (c' : Nat) (w : World) (ht : TabAt w) (hr : BytesAt w w.heap.size A r) (hr' : BytesAt w w.heap.size A' l)
    (hz : Blk.bytesE (d : Int) (n : Int) r = 0) (hz' : Blk.bytesE (d : Int) (m : Int) l = 0) (hne : n ≠ m) :
    Calls Tryd.prog 5 #[.int .i64 (d : Int), .int .i64 (n : Int), .int .i64 (m : Int), .slice A r.length c, .slice A' l.length c'] w fun e w' => e = .returned (.bool true) ∧ Below w.heap.size w w' := by
  obtain ⟨_, hd, hn1, hn2, h32⟩ := (Blk.bytesE_zero _ _ _).1 hz
  obtain ⟨_, _, hm1, hm2, h32'⟩ := (Blk.bytesE_zero _ _ _).1 hz'
  have hx : ((n : Int) == (m : Int)) = false := by simp; omega
  have ha := Blk.sect_length d n r h32
  have hb := Blk.sect_length d m l h32'
  have z1 := fun w t h => bkBytes_yes d n A r 32 c h32 hz w t h
  have z2 := fun w t h => bkBytes_yes d m A' l 32 c' h32' hz' w t h
  obtain ⟨a, hae⟩ : ∃ x, x = Blk.sect d n r := ⟨_, rfl⟩
  obtain ⟨b, hbe⟩ : ∃ x, x = Blk.sect d m l := ⟨_, rfl⟩
  have na : Blk.num a = n := by rw [hae]; exact Blk.sect_num d n r (by omega)
  have gb : Blk.again b = m := by rw [hbe]; exact Blk.sect_again d m l h32' (by omega)
  rw [← hae] at z1 ha
  rw [← hbe] at z2 hb
  have z3 := fun A c w hc t h => bkRead_torn (d : Int) a b n ha hb na (by rw [gb]; exact hne) A c hc w t h
  have z4 := fun A c w hc t h => bkRead_torn (d : Int) a Slot.nots n ha (by decide) na (by rw [Blk.again_nots]; omega) A c hc w t h
  have l32 : (a.take 32).length = 32 := by rw [List.length_take]; omega
  have d32 : (b.drop 32).length = 32 := by rw [List.length_drop]; omega
  have zc := fun A c w h => copyBytes_any A (a.take 32) 32 c l32 w (by omega) h
  unfold CopyPost at zc
  rw [l32] at zc
  have HL := Lib.hid (And.intro l32 (And.intro d32 (And.intro ha hb)))
  have q1 : ∀ (A : Option Addr) (c : Nat), 64 ≤ c → ∀ W, (Instr.slice 22 (.slice A 64 c) none (some (.int .i64 32)) none).run Tryd.prog W = .ok (.slice A 32 c) W := fun A c h W => cut_to A 64 c 32 (by omega) W
  have q2 : ∀ (A : Option Addr) (c : Nat), 64 ≤ c → ∀ W, (Instr.slice 22 (.slice A 64 c) (some (.int .i64 32)) none none).run Tryd.prog W = .ok (.slice (cutA A 32 c) 32 (c - 32)) W := fun A c h W => cut_from A 64 c 32 (by omega) W
  rw [h32, h32']
  clear hae hbe na gb l32 d32 ha hb hne hn1 hn2 hm1 hm2 h32 h32' hz hz' hd
  go_enter Tryd.func5, Tryd.ntmps5
  go_wp2_with (first
    | (go_at_call 17; refine (awake_any w ht).mono ?_; (rintro e w1 ⟨rfl, B1⟩; have t1 := ht.below B1 (Nat.le_refl _); have r1 := hr.step B1; have l1 := hr'.step B1))
    | (go_at_call 10; first
      | ((with_reducible refine (z1 w1 t1 r1).mono ?_); (rintro e w2 ⟨A2, c2, rfl, hc2, _, x2, B2⟩; have x2 := x2.bytes; have t2 := t1.below B2 (Nat.le_refl _); have l2 := l1.step B2; have C2 := step_trans B1 B2))
      | ((with_reducible refine (z2 w2 t2 l2).mono ?_); (rintro e w3 ⟨A3, c3, rfl, hc3, _, x3, B3⟩; have x3 := x3.bytes; have C3 := step_trans C2 B3; have x23 := x2.step B3; have q1 := q1 A2 c2 hc2; have q2 := q2 A3 c3 hc3))))
  have HX := Lib.hid (And.intro x23 (And.intro x3 (And.intro C3 (And.intro t1 (And.intro hc2 hc3)))))
  have t3 := ht.below C3 (Nat.le_refl _)
  have HT := Lib.hid t3
  have HC3 := Lib.hid C3
  clear x2 B1 B2 t1 r1 l1 t2 l2 C2 x23 x3 B3 C3 t3 hr hr' z1 z2 ht
  go_region_held3 (fun w' => Below w3.heap.size w3 w') (first | assumption | exact (Below.refl _ w3).drew) (first
    | (go_at_call 18; refine (zc A2 c2 w3.drew (HX.out.1.take 32)).mono ?_; (rintro e w4 ⟨A4, c4, rfl, ho4, B4⟩; have B4 : Below w3.heap.size w3 w4 := undrew B4; have x4 := ((HX.out.2.1.step B4).drop 32 c3 (by rw [HL.out.2.2.2]; exact hc3)); have HO4 := Lib.hid (show OwnB w4 w3.heap.size (.slice A4 32 c4) (a.take 32) from ho4); have HX4 := Lib.hid x4; clear ho4 x4))
    | (refine step_appendB rfl (.tmp 69) (.tmp 71) 22 rfl rfl w3.heap.size _ (a.take 32) rfl HO4.out (cutA A3 32 c3) (b.drop 32) 32 (c3 - 32) w4.heap.size rfl HL.out.2.1 HX4.out (by rw [HL.out.1, HL.out.2.1]; decide) B4.size ?_; (intro v5 w5 ho5 hg5 hat5; have B5 := B4.grown hg5 B4.size (fun j hj => (HO4.out.lt j hj).1); obtain ⟨A5, c5, rfl, hc5⟩ := ho5.form; rw [show (a.take 32 ++ b.drop 32).length = 64 by rw [List.length_append, HL.out.1, HL.out.2.1]] at hc5 ho5 ⊢; have x5 := ho5.bytes; have t5 := HT.out.below B5 (Nat.le_refl _); clear ho5))
    | (go_at_call 12; refine (z3 A5 c5 w5 hc5 t5 x5).mono ?_; (rintro e w6 ⟨A6, c6, rfl, B6⟩; have B36 := step_trans B5 B6)))
  have x26 := HX.out.1.step B36
  have HB := Lib.hid (step_trans HC3.out B36)
  have HT6 := Lib.hid (HT.out.below B36 (Nat.le_refl _))
  clear z3 B36 B6 B5 B4 hg5 hat5 x5 t5 HX4 HO4 HX q2
  go_wp2_with (first
    | (go_at_call 18; refine (zc A2 c2 w6 (x26.take 32)).mono ?_; (rintro e w7 ⟨A7, c7, rfl, ho7, B7⟩; obtain ⟨v8, w8, run8, ho8, B8⟩ := run_zerosB (show OwnB w7 w6.heap.size (.slice A7 32 c7) (a.take 32) from ho7) (by rw [HL.out.1]; decide) 32 (by decide) (by rw [HL.out.1]; decide) B7.size 22; obtain ⟨A8, c8, hv8, hc8⟩ := ho8.form; rw [hv8] at ho8 run8; rw [show (a.take 32 ++ List.replicate 32 (0 : UInt8)).length = 64 by rw [List.length_append, HL.out.1, List.length_replicate]] at hc8 ho8 run8; have B68 := B7.trans B8; have x8 := ho8.bytes; have t8 := HT6.out.below B68 (Nat.le_refl _); have RUN := Lib.hid run8; clear ho7 ho8 hv8 run8))
    | (at_builtin; refine Lib.wpList_append_run _ rfl (.tmp 81) (.const (.int .i64 32)) 22 3 rfl _ _ rfl rfl _ _ RUN.out ?_)
    | (go_at_call 12; refine (z4 A8 c8 w8 hc8 t8 x8).mono ?_; (rintro e w9 ⟨A9, c9, rfl, B9⟩; have B69 := step_trans B68 B9)))
  go_ret
  exact ⟨rfl, step_trans HB.out B69⟩
theorem torn_any (a n m : Int) (A : Option Addr) (r : List UInt8) (c : Nat) (A' : Option Addr) (l : List UInt8) (c' : Nat) (w : World) (ht : TabAt w) (hr : BytesAt w w.heap.size A r) (hr' : BytesAt w w.heap.size A' l) :
    Calls Tryd.prog 5 #[.int .i64 a, .int .i64 n, .int .i64 m, .slice A r.length c, .slice A' l.length c'] w fun e w' => e = .returned (.bool true) ∧ Below w.heap.size w w' := by
  by_cases h0 : 100 < r.length ∨ 100 < l.length
  · exact torn_long a n m A r c A' l c' w ht h0
  by_cases h1 : Blk.bytesE a n r = 0
  · by_cases h2 : Blk.bytesE a m l = 0
    · by_cases h3 : n = m
      · exact torn_skip a n m A r c A' l c' w ht hr hr' (by omega) (by omega) (.inr ⟨h1, .inr ⟨h2, h3⟩⟩)
      · obtain ⟨a1, a2, a3, _⟩ := (Blk.bytesE_zero _ _ _).1 h1
        obtain ⟨b1, b2, b3, _⟩ := (Blk.bytesE_zero _ _ _).1 h2
        obtain ⟨a, rfl⟩ : ∃ k : Nat, a = (k : Int) := ⟨a.toNat, by omega⟩
        obtain ⟨n, rfl⟩ : ∃ k : Nat, n = (k : Int) := ⟨n.toNat, by omega⟩
        obtain ⟨m, rfl⟩ : ∃ k : Nat, m = (k : Int) := ⟨m.toNat, by omega⟩
        exact torn_go a n m A r c A' l c' w ht hr hr' h1 h2 (by omega)
    · exact torn_skip a n m A r c A' l c' w ht hr hr' (by omega) (by omega) (.inr ⟨h1, .inl h2⟩)
  · exact torn_skip a n m A r c A' l c' w ht hr hr' (by omega) (by omega) (.inl h1)
end Go.Proofs.YtmbloclkinghnaaDoor
