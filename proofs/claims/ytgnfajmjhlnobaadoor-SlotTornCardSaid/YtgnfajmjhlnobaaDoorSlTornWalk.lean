/-
  The walk of SlotTorn. Conditions: the table of crc lies as the program's text lays it; the bytes can be read.
-/
import Derived.Test.YtgnfajmjhlnobaaDoorSlTorn
namespace Go.Proofs.YtgnfajmjhlnobaaDoor
open Go.RowKit Fix

set_option maxRecDepth 100000 in
theorem torn_skip (n m : Int) (A : Option Addr) (r : List UInt8) (c : Nat) (A' : Option Addr) (l : List UInt8) (c' : Nat) (w : World) (ht : TabAt w) (hr : BytesAt w w.heap.size A r) (hr' : BytesAt w w.heap.size A' l)
    (h : Slot.bytesE n r ≠ 0 ∨ Slot.bytesE n r = 0 ∧ (Slot.bytesE m l ≠ 0 ∨ Slot.bytesE m l = 0 ∧ n = m)) :
    Calls Tryd.prog 9 #[.int .i64 n, .int .i64 m, .slice A r.length c, .slice A' l.length c'] w fun e w' => e = .returned (.bool true) ∧ Below w.heap.size w w' := by
  obtain ⟨p, hp⟩ : ∃ m, m = r.length := ⟨_, rfl⟩
  obtain ⟨q, hq⟩ : ∃ m, m = l.length := ⟨_, rfl⟩
  rw [← hp, ← hq]
  have z1 := fun w t h => slotBytes_any n A r p c hp.symm w t h
  have z2 := fun w t h => slotBytes_any m A' l q c' hq.symm w t h
  unfold BsPost at z1 z2
  obtain ⟨be, hbe⟩ : ∃ x, x = Slot.bytesE n r := ⟨_, rfl⟩
  obtain ⟨ce, hce⟩ : ∃ x, x = Slot.bytesE m l := ⟨_, rfl⟩
  rw [← hbe] at z1 h
  rw [← hce] at z2 h
  clear hbe hce hp hq
  rcases h with h | ⟨rfl, h | ⟨rfl, rfl⟩⟩
  · have hne : (be != 0) = true := by simpa using h
    clear h
    go_enter Tryd.func9, Tryd.ntmps9
    go_wp2_with (first
      | (go_at_call 19; refine (awake_any disks w ht).mono ?_; (rintro e w1 ⟨rfl, B1⟩; have t1 := ht.below B1 (Nat.le_refl _); have r1 := hr.step B1; have l1 := hr'.step B1))
      | (go_at_call 12; first
        | ((with_reducible refine (z1 w1 t1 r1).mono ?_); (rintro e w2 ⟨A2, c2, rfl, hc2, x2, B2⟩; have t2 := t1.below B2 (Nat.le_refl _); have l2 := l1.step B2; have C2 := step_trans B1 B2))
        | ((with_reducible refine (z2 w2 t2 l2).mono ?_); (rintro e w3 ⟨A3, c3, rfl, hc3, x3, B3⟩; have C3 := step_trans C2 B3))))
    go_ret
    exact ⟨rfl, C3⟩
  · have hne : (ce != 0) = true := by simpa using h
    clear h
    go_enter Tryd.func9, Tryd.ntmps9
    go_wp2_with (first
      | (go_at_call 19; refine (awake_any disks w ht).mono ?_; (rintro e w1 ⟨rfl, B1⟩; have t1 := ht.below B1 (Nat.le_refl _); have r1 := hr.step B1; have l1 := hr'.step B1))
      | (go_at_call 12; first
        | ((with_reducible refine (z1 w1 t1 r1).mono ?_); (rintro e w2 ⟨A2, c2, rfl, hc2, x2, B2⟩; have t2 := t1.below B2 (Nat.le_refl _); have l2 := l1.step B2; have C2 := step_trans B1 B2))
        | ((with_reducible refine (z2 w2 t2 l2).mono ?_); (rintro e w3 ⟨A3, c3, rfl, hc3, x3, B3⟩; have C3 := step_trans C2 B3))))
    go_ret
    exact ⟨rfl, C3⟩
  · have hee : (n == n) = true := beq_self_eq_true _
    go_enter Tryd.func9, Tryd.ntmps9
    go_wp2_with (first
      | (go_at_call 19; refine (awake_any disks w ht).mono ?_; (rintro e w1 ⟨rfl, B1⟩; have t1 := ht.below B1 (Nat.le_refl _); have r1 := hr.step B1; have l1 := hr'.step B1))
      | (go_at_call 12; first
        | ((with_reducible refine (z1 w1 t1 r1).mono ?_); (rintro e w2 ⟨A2, c2, rfl, hc2, x2, B2⟩; have t2 := t1.below B2 (Nat.le_refl _); have l2 := l1.step B2; have C2 := step_trans B1 B2))
        | ((with_reducible refine (z2 w2 t2 l2).mono ?_); (rintro e w3 ⟨A3, c3, rfl, hc3, x3, B3⟩; have C3 := step_trans C2 B3))))
    go_ret
    exact ⟨rfl, C3⟩
/-- a torn sector is read as none -/
theorem read_torn (a b : List UInt8) (n : Nat) (ha : a.length = 64) (hb : b.length = 64) (hn : Slot.num a = n) (h0 : 1 ≤ n) (hne : n ≠ Slot.again b) (A : Option Addr) (c : Nat) (hc : 64 ≤ c) (w : World) (ht : TabAt w) (hr : BytesAt w w.heap.size A (a.take 32 ++ b.drop 32)) :
    Calls Tryd.prog 14 #[.slice A 64 c] w fun e w' => (∃ A' c', e = .returned (.tuple #[.int .i64 0, .slice A' 0 c', .int .i64 11])) ∧ Below w.heap.size w w' := by
  obtain ⟨e1, e2⟩ := Slot.torn_bad a b ha hb (by rw [hn]; exact hne) (by omega)
  refine (slotRead_any A (Slot.torn a b) 64 c (Slot.torn_length a b ha hb) hc w ht hr).mono fun e w' ⟨A', c', he, _, hW, hB⟩ => ⟨⟨A', c', ?_⟩, hB⟩
  rw [e1] at he
  simpa [Slot.readN, Slot.readB, e2] using he
set_option maxRecDepth 100000 in
set_option maxHeartbeats 1000000 in
theorem torn_go (n m : Nat) (A : Option Addr) (r : List UInt8) (c : Nat) (A' : Option Addr) (l : List UInt8) (c' : Nat) (w : World) (ht : TabAt w) (hr : BytesAt w w.heap.size A r) (hr' : BytesAt w w.heap.size A' l)
    (hn1 : 1 ≤ n) (hn2 : n ≤ 1099511627776) (hm1 : 1 ≤ m) (hm2 : m ≤ 1099511627776) (h40 : r.length ≤ 40) (h40' : l.length ≤ 40) (hne : n ≠ m) :
    Calls Tryd.prog 9 #[.int .i64 (n : Int), .int .i64 (m : Int), .slice A r.length c, .slice A' l.length c'] w fun e w' => e = .returned (.bool true) ∧ Below w.heap.size w w' := by
  have hx : ((n : Int) == (m : Int)) = false := by simp; omega
  have ha := Slot.sect_length n r h40
  have hb := Slot.sect_length m l h40'
  have z1 := fun w t h => bytes_yes n A r r.length c rfl hn1 hn2 h40 w t h
  have z2 := fun w t h => bytes_yes m A' l l.length c' rfl hm1 hm2 h40' w t h
  obtain ⟨a, hae⟩ : ∃ x, x = Slot.sect n r := ⟨_, rfl⟩
  obtain ⟨b, hbe⟩ : ∃ x, x = Slot.sect m l := ⟨_, rfl⟩
  have na : Slot.num a = n := by rw [hae]; exact Slot.sect_num n r hn2
  have gb : Slot.again b = m := by rw [hbe]; exact Slot.sect_again m l h40' hm2
  rw [← hae] at z1 ha
  rw [← hbe] at z2 hb
  have z3 := fun A c w hc t h => read_torn a b n ha hb na hn1 (by rw [gb]; exact hne) A c hc w t h
  have z4 := fun A c w hc t h => read_torn a Slot.nots n ha (by decide) na hn1 (by rw [Slot.again_nots]; omega) A c hc w t h
  have l32 : (a.take 32).length = 32 := by rw [List.length_take]; omega
  have d32 : (b.drop 32).length = 32 := by rw [List.length_drop]; omega
  have zc := fun A c w h => copyBytes_any A (a.take 32) 32 c l32 w (by omega) h
  unfold CopyPost at zc
  rw [l32] at zc
  have HL := Lib.hid (And.intro l32 (And.intro d32 (And.intro ha hb)))
  have q1 : ∀ (A : Option Addr) (c : Nat), 64 ≤ c → ∀ W, (Instr.slice 22 (.slice A 64 c) none (some (.int .i64 32)) none).run Tryd.prog W = .ok (.slice A 32 c) W := fun A c h W => cut_to A 64 c 32 (by omega) W
  have q2 : ∀ (A : Option Addr) (c : Nat), 64 ≤ c → ∀ W, (Instr.slice 22 (.slice A 64 c) (some (.int .i64 32)) none none).run Tryd.prog W = .ok (.slice (cutA A 32 c) 32 (c - 32)) W := fun A c h W => cut_from A 64 c 32 (by omega) W
  obtain ⟨p, hp⟩ : ∃ m, m = r.length := ⟨_, rfl⟩
  obtain ⟨q, hq⟩ : ∃ m, m = l.length := ⟨_, rfl⟩
  rw [← hp] at z1 ⊢
  rw [← hq] at z2 ⊢
  clear hp hq hae hbe na gb l32 d32 ha hb hne hn1 hn2 hm1 hm2 h40 h40'
  go_enter Tryd.func9, Tryd.ntmps9
  go_wp2_with (first
    | (go_at_call 19; refine (awake_any disks w ht).mono ?_; (rintro e w1 ⟨rfl, B1⟩; have t1 := ht.below B1 (Nat.le_refl _); have r1 := hr.step B1; have l1 := hr'.step B1))
    | (go_at_call 12; first
      | ((with_reducible refine (z1 w1 t1 r1).mono ?_); (rintro e w2 ⟨A2, c2, rfl, hc2, x2, B2⟩; have t2 := t1.below B2 (Nat.le_refl _); have l2 := l1.step B2; have C2 := step_trans B1 B2))
      | ((with_reducible refine (z2 w2 t2 l2).mono ?_); (rintro e w3 ⟨A3, c3, rfl, hc3, x3, B3⟩; have C3 := step_trans C2 B3; have x23 := x2.step B3; have q1 := q1 A2 c2 hc2; have q2 := q2 A3 c3 hc3))))
  have HX := Lib.hid (And.intro x23 (And.intro x3 (And.intro C3 (And.intro t1 (And.intro hc2 hc3)))))
  have t3 := ht.below C3 (Nat.le_refl _)
  have HT := Lib.hid t3
  have HC3 := Lib.hid C3
  clear x2 B1 B2 t1 r1 l1 t2 l2 C2 x23 x3 B3 C3 t3 hr hr' z1 z2 ht
  go_region_held3 (fun w' => Below w3.heap.size w3 w') (first | assumption | exact (Below.refl _ w3).drew) (first
    | (go_at_call 30; refine (zc A2 c2 w3.drew (HX.out.1.take 32)).mono ?_; (rintro e w4 ⟨A4, c4, rfl, ho4, B4⟩; have B4 : Below w3.heap.size w3 w4 := undrew B4; have x4 := ((HX.out.2.1.step B4).drop 32 c3 (by rw [HL.out.2.2.2]; exact hc3)); have HO4 := Lib.hid (show OwnB w4 w3.heap.size (.slice A4 32 c4) (a.take 32) from ho4); have HX4 := Lib.hid x4; clear ho4 x4))
    | (refine step_appendB rfl (.tmp 56) (.tmp 58) 22 rfl rfl w3.heap.size _ (a.take 32) rfl HO4.out (cutA A3 32 c3) (b.drop 32) 32 (c3 - 32) w4.heap.size rfl HL.out.2.1 HX4.out (by rw [HL.out.1, HL.out.2.1]; decide) B4.size ?_; (intro v5 w5 ho5 hg5 hat5; have B5 := B4.grown hg5 B4.size (fun j hj => (HO4.out.lt j hj).1); obtain ⟨A5, c5, rfl, hc5⟩ := ho5.form; rw [show (a.take 32 ++ b.drop 32).length = 64 by rw [List.length_append, HL.out.1, HL.out.2.1]] at hc5 ho5 ⊢; have x5 := ho5.bytes; have t5 := HT.out.below B5 (Nat.le_refl _); clear ho5))
    | (go_at_call 14; refine (z3 A5 c5 w5 hc5 t5 x5).mono ?_; (rintro e w6 ⟨⟨A6, c6, rfl⟩, B6⟩; have B36 := step_trans B5 B6)))
  have x26 := HX.out.1.step B36
  have HB := Lib.hid (step_trans HC3.out B36)
  have HT6 := Lib.hid (HT.out.below B36 (Nat.le_refl _))
  clear z3 B36 B6 B5 B4 hg5 hat5 x5 t5 HX4 HO4 HX q2
  go_wp2_with (first
    | (go_at_call 30; refine (zc A2 c2 w6 (x26.take 32)).mono ?_; (rintro e w7 ⟨A7, c7, rfl, ho7, B7⟩; obtain ⟨v8, w8, run8, ho8, B8⟩ := run_zerosB (show OwnB w7 w6.heap.size (.slice A7 32 c7) (a.take 32) from ho7) (by rw [HL.out.1]; decide) 32 (by decide) (by rw [HL.out.1]; decide) B7.size 22; obtain ⟨A8, c8, hv8, hc8⟩ := ho8.form; rw [hv8] at ho8 run8; rw [show (a.take 32 ++ List.replicate 32 (0 : UInt8)).length = 64 by rw [List.length_append, HL.out.1, List.length_replicate]] at hc8 ho8 run8; have B68 := B7.trans B8; have x8 := ho8.bytes; have t8 := HT6.out.below B68 (Nat.le_refl _); have RUN := Lib.hid run8; clear ho7 ho8 hv8 run8))
    | (at_builtin; refine Lib.wpList_append_run _ rfl (.tmp 67) (.const (.int .i64 32)) 22 3 rfl _ _ rfl rfl _ _ RUN.out ?_)
    | (go_at_call 14; refine (z4 A8 c8 w8 hc8 t8 x8).mono ?_; (rintro e w9 ⟨⟨A9, c9, rfl⟩, B9⟩; have B69 := step_trans B68 B9)))
  go_ret
  exact ⟨rfl, step_trans HB.out B69⟩
theorem torn_any (n m : Int) (A : Option Addr) (r : List UInt8) (c : Nat) (A' : Option Addr) (l : List UInt8) (c' : Nat) (w : World) (ht : TabAt w) (hr : BytesAt w w.heap.size A r) (hr' : BytesAt w w.heap.size A' l) :
    Calls Tryd.prog 9 #[.int .i64 n, .int .i64 m, .slice A r.length c, .slice A' l.length c'] w fun e w' => e = .returned (.bool true) ∧ Below w.heap.size w w' := by
  by_cases h1 : Slot.bytesE n r = 0
  · by_cases h2 : Slot.bytesE m l = 0
    · by_cases h3 : n = m
      · exact torn_skip n m A r c A' l c' w ht hr hr' (.inr ⟨h1, .inr ⟨h2, h3⟩⟩)
      · obtain ⟨a1, a2, a3⟩ := Slot.bytesE_zero n r h1
        obtain ⟨b1, b2, b3⟩ := Slot.bytesE_zero m l h2
        obtain ⟨n, rfl⟩ : ∃ k : Nat, n = (k : Int) := ⟨n.toNat, by omega⟩
        obtain ⟨m, rfl⟩ : ∃ k : Nat, m = (k : Int) := ⟨m.toNat, by omega⟩
        exact torn_go n m A r c A' l c' w ht hr hr' (by omega) (by omega) (by omega) (by omega) a1 b1 (by omega)
    · exact torn_skip n m A r c A' l c' w ht hr hr' (.inr ⟨h1, .inl h2⟩)
  · exact torn_skip n m A r c A' l c' w ht hr hr' (.inl h1)
end Go.Proofs.YtgnfajmjhlnobaaDoor
