/-
  The walk of BlockBack. Conditions: the table of crc lies as the program's text lays it; the bytes can be read.
-/
import Derived.Test.YtmbloclkinghnaaDoorBkAwake
namespace Go.Proofs.YtmbloclkinghnaaDoor
open Go.RowKit Fix

set_option maxRecDepth 100000 in
theorem back_long (a n : Int) (A : Option Addr) (r : List UInt8) (c : Nat) (A' : Option Addr) (l : List UInt8) (c' : Nat) (o : Int) (w : World) (ht : TabAt w) (h : 100 < r.length ∨ 100 < l.length) :
    Calls Tryd.prog 4 #[.int .i64 a, .int .i64 n, .slice A r.length c, .slice A' l.length c', .int .i64 o] w fun e w' => e = .returned (.bool true) ∧ Below w.heap.size w w' := by
  by_cases h1 : 100 < r.length
  · have i1 : (100 : Int) < (r.length : Int) := by omega
    clear h h1
    go_enter Tryd.func4, Tryd.ntmps4
    go_wp2_with (go_at_call 17; refine (awake_any w ht).mono ?_; (rintro e w1 ⟨rfl, B1⟩))
    go_ret
    exact ⟨rfl, B1⟩
  · have i1 : ¬ (100 : Int) < (r.length : Int) := by omega
    have i2 : (100 : Int) < (l.length : Int) := by omega
    clear h h1
    go_enter Tryd.func4, Tryd.ntmps4
    go_wp2_with (go_at_call 17; refine (awake_any w ht).mono ?_; (rintro e w1 ⟨rfl, B1⟩))
    go_ret
    exact ⟨rfl, B1⟩
set_option maxRecDepth 100000 in
set_option maxHeartbeats 1000000 in
/-- the sector is made; the other bytes are a sector or none -/
theorem back_made (a n : Nat) (A : Option Addr) (r : List UInt8) (c : Nat) (A' : Option Addr) (l : List UInt8) (c' : Nat) (o : Int) (hlc : l.length ≤ c') (w : World) (ht : TabAt w) (hr : BytesAt w w.heap.size A r) (hr' : BytesAt w w.heap.size A' l) (h2 : l.length ≤ 100)
    (hx : Blk.bytesE (a : Int) (n : Int) r = 0) :
    Calls Tryd.prog 4 #[.int .i64 (a : Int), .int .i64 (n : Int), .slice A r.length c, .slice A' l.length c', .int .i64 o] w fun e w' => e = .returned (.bool true) ∧ Below w.heap.size w w' := by
  have h32 := ((Blk.bytesE_zero _ _ _).1 hx).2.2.2.2
  have i2 : ¬ (100 : Int) < (l.length : Int) := by omega
  have hsl := Blk.sect_length a n r h32
  have zb := fun w t h => bkBytes_yes a n A r 32 c h32 hx w t h
  have zr := fun A c hc w t h => bkRead_yes A a n r c hc hx w t h
  have zo := fun A c hc w t h => blockRead_any o A (Blk.sect a n r) 64 c hsl hc w t h
  unfold BrPost at zo
  obtain ⟨y, hy1, hy2⟩ : ∃ y, (Blk.readE o (Blk.sect a n r) == 0) = y ∧ (o == (a : Int)) = y := by
    refine ⟨_, rfl, ?_⟩
    have hi := Blk.right_other o a n r hx
    rw [← Blk.readE_zero] at hi
    by_cases e : o = (a : Int)
    · rw [hi.2 e, e]; simp
    · have : Blk.readE o (Blk.sect a n r) ≠ 0 := fun x => e (hi.1 x)
      rw [beq_eq_false_iff_ne.2 e, beq_eq_false_iff_ne.2 this]
  obtain ⟨ge, hge⟩ : ∃ x, x = Blk.readE o (Blk.sect a n r) := ⟨_, rfl⟩
  obtain ⟨gn, hgn⟩ : ∃ x, x = Blk.readN o (Blk.sect a n r) := ⟨_, rfl⟩
  obtain ⟨gb, hgb⟩ : ∃ x, x = Blk.readB o (Blk.sect a n r) := ⟨_, rfl⟩
  rw [← hge, ← hgn, ← hgb] at zo
  rw [← hge] at hy1
  have zt := fun A1 c1 w1 h h' => same_yes A1 r 32 c1 h32 A r 32 c h32 w1 h h' rfl
  obtain ⟨s, hs⟩ : ∃ x, x = Blk.sect a n r := ⟨_, rfl⟩
  rw [← hs] at zb zr zo
  obtain ⟨q, hq⟩ : ∃ m, m = l.length := ⟨_, rfl⟩
  have zl := fun w t h => blockRead_any (a : Int) A' l q c' hq.symm (by omega) w t h
  unfold BrPost at zl
  rw [← hq] at i2 hlc ⊢
  rw [h32]
  have HQ := Lib.hid hq
  clear hge hgn hgb hs hx hsl h32 hq h2
  by_cases hy : Blk.readE (a : Int) l = 0
  · obtain ⟨k1, k2, k3, k4⟩ := Blk.sect_read (a : Int) l hy
    rw [Int.toNat_natCast] at k2
    rw [hy, k3] at zl
    have zy := fun A c w t h => bkBytes_yes a (Blk.readN (a : Int) l) A (Blk.readB (a : Int) l) 32 c k3 k1 w t h
    rw [k2] at zy
    have zs := fun A1 c1 w1 h h' => same_yes A1 l 64 c1 k4 A' l q c' HQ.out.symm w1 h h' rfl
    obtain ⟨rn, hrn⟩ : ∃ x, x = Blk.readN (a : Int) l := ⟨_, rfl⟩
    obtain ⟨rb, hrb⟩ : ∃ x, x = Blk.readB (a : Int) l := ⟨_, rfl⟩
    rw [← hrn, ← hrb] at zl zy
    clear hy hrn hrb k4 k3 k1 k2
    go_enter Tryd.func4, Tryd.ntmps4
    go_wp2_with (first
      | (go_at_call 17; refine (awake_any w ht).mono ?_; (rintro e w1 ⟨rfl, B1⟩; have t1 := ht.below B1 (Nat.le_refl _); have r1 := hr.step B1; have l1 := hr'.step B1))
      | (go_at_call 10; first
        | ((with_reducible refine (zb w1 t1 r1).mono ?_); (rintro e w2 ⟨A2, c2, rfl, hc2, _, x2, B2⟩; have x2 := x2.bytes; have t2 := t1.below B2 (Nat.le_refl _); have r2 := r1.step B2; have l2 := l1.step B2; have C2 := step_trans B1 B2))
        | ((with_reducible refine (zy A5 c5 w5 t5 o5).mono ?_); (rintro e w6 ⟨A6, c6, rfl, _, _, x6, B6⟩; have x6 := x6.bytes; have l6 := l5.step B6; have C6 := step_trans C5 B6)))
      | (go_at_call 12; first
        | ((with_reducible refine (zr A2 c2 hc2 w2 t2 x2).mono ?_); (rintro e w3 ⟨A3, c3, rfl, x3, B3⟩; have t3 := t2.below B3 (Nat.le_refl _); have r3 := r2.step B3; have l3 := l2.step B3; have x23 := x2.step B3; have C3 := step_trans C2 B3))
        | ((with_reducible refine (zo A2 c2 hc2 w3 t3 x23).mono ?_); (rintro e w4 ⟨A4, c4, rfl, _, _, B4⟩; have t4 := t3.below B4 (Nat.le_refl _); have r4 := r3.step B4; have x4 := x3.step B4; have l4 := l3.step B4; have C4 := step_trans C3 B4))
        | ((with_reducible refine (zl w4 t4 l4).mono ?_); (rintro e w5 ⟨A5, c5, rfl, hc5, o5, B5⟩; have o5 := o5.bytes; have t5 := t4.below B5 (Nat.le_refl _); have l5 := l4.step B5; have C5 := step_trans C4 B5)))
      | (go_at_call 14; first
        | ((with_reducible refine (zt A3 c3 w4 x4 r4).mono ?_); (rintro e w7 ⟨rfl, rfl⟩))
        | ((with_reducible refine (zs A6 c6 w6 x6 l6).mono ?_); (rintro e w7 ⟨rfl, rfl⟩))))
    go_ret
    exact ⟨rfl, C6⟩
  · obtain ⟨re, hre⟩ : ∃ x, x = Blk.readE (a : Int) l := ⟨_, rfl⟩
    rw [← hre] at zl hy
    have hny : (re != 0) = true := by simpa using hy
    clear hy hre
    go_enter Tryd.func4, Tryd.ntmps4
    go_wp2_with (first
      | (go_at_call 17; refine (awake_any w ht).mono ?_; (rintro e w1 ⟨rfl, B1⟩; have t1 := ht.below B1 (Nat.le_refl _); have r1 := hr.step B1; have l1 := hr'.step B1))
      | (go_at_call 10; ((with_reducible refine (zb w1 t1 r1).mono ?_); (rintro e w2 ⟨A2, c2, rfl, hc2, _, x2, B2⟩; have x2 := x2.bytes; have t2 := t1.below B2 (Nat.le_refl _); have r2 := r1.step B2; have l2 := l1.step B2; have C2 := step_trans B1 B2)))
      | (go_at_call 12; first
        | ((with_reducible refine (zr A2 c2 hc2 w2 t2 x2).mono ?_); (rintro e w3 ⟨A3, c3, rfl, x3, B3⟩; have t3 := t2.below B3 (Nat.le_refl _); have r3 := r2.step B3; have l3 := l2.step B3; have x23 := x2.step B3; have C3 := step_trans C2 B3))
        | ((with_reducible refine (zo A2 c2 hc2 w3 t3 x23).mono ?_); (rintro e w4 ⟨A4, c4, rfl, _, _, B4⟩; have t4 := t3.below B4 (Nat.le_refl _); have r4 := r3.step B4; have x4 := x3.step B4; have l4 := l3.step B4; have C4 := step_trans C3 B4))
        | ((with_reducible refine (zl w4 t4 l4).mono ?_); (rintro e w5 ⟨A5, c5, rfl, hc5, o5, B5⟩; have C5 := step_trans C4 B5)))
      | (go_at_call 14; ((with_reducible refine (zt A3 c3 w4 x4 r4).mono ?_); (rintro e w7 ⟨rfl, rfl⟩))))
    go_ret
    exact ⟨rfl, C5⟩
set_option maxRecDepth 100000 in
/-- no sector is made -/
theorem back_none (a n : Int) (A : Option Addr) (r : List UInt8) (c : Nat) (A' : Option Addr) (l : List UInt8) (c' : Nat) (o : Int) (hlc : l.length ≤ c') (w : World) (ht : TabAt w) (hr : BytesAt w w.heap.size A r) (hr' : BytesAt w w.heap.size A' l) (h1 : r.length ≤ 100) (h2 : l.length ≤ 100)
    (hx : Blk.bytesE a n r ≠ 0) :
    Calls Tryd.prog 4 #[.int .i64 a, .int .i64 n, .slice A r.length c, .slice A' l.length c', .int .i64 o] w fun e w' => e = .returned (.bool true) ∧ Below w.heap.size w w' := by
  have i1 : ¬ (100 : Int) < (r.length : Int) := by omega
  have i2 : ¬ (100 : Int) < (l.length : Int) := by omega
  obtain ⟨p, hp⟩ : ∃ m, m = r.length := ⟨_, rfl⟩
  obtain ⟨q, hq⟩ : ∃ m, m = l.length := ⟨_, rfl⟩
  have zb := fun w t h => blockBytes_any a n A r p c hp.symm w t h
  unfold BbPost at zb
  obtain ⟨be, hbe⟩ : ∃ x, x = Blk.bytesE a n r := ⟨_, rfl⟩
  rw [← hbe] at zb hx
  have hne : (be == 0) = false := by simpa using hx
  have zl := fun w t h => blockRead_any a A' l q c' hq.symm (by omega) w t h
  unfold BrPost at zl
  rw [← hp] at i1 ⊢
  rw [← hq] at i2 hlc ⊢
  have HQ := Lib.hid hq
  clear hx hbe h1 h2 hp hq
  by_cases hy : Blk.readE a l = 0
  · obtain ⟨k1, k2, k3, k4⟩ := Blk.sect_read a l hy
    obtain ⟨ha0, _⟩ := (Blk.bytesE_zero _ _ _).1 k1
    obtain ⟨a, rfl⟩ : ∃ k : Nat, a = (k : Int) := ⟨a.toNat, by omega⟩
    rw [Int.toNat_natCast] at k2
    rw [hy, k3] at zl
    have zy := fun A c w t h => bkBytes_yes a (Blk.readN (a : Int) l) A (Blk.readB (a : Int) l) 32 c k3 k1 w t h
    rw [k2] at zy
    have zs := fun A1 c1 w1 h h' => same_yes A1 l 64 c1 k4 A' l q c' HQ.out.symm w1 h h' rfl
    obtain ⟨rn, hrn⟩ : ∃ x, x = Blk.readN (a : Int) l := ⟨_, rfl⟩
    obtain ⟨rb, hrb⟩ : ∃ x, x = Blk.readB (a : Int) l := ⟨_, rfl⟩
    rw [← hrn, ← hrb] at zl zy
    clear hy hrn hrb k4 k3 k1 k2 ha0
    go_enter Tryd.func4, Tryd.ntmps4
    go_wp2_with (first
      | (go_at_call 17; refine (awake_any w ht).mono ?_; (rintro e w1 ⟨rfl, B1⟩; have t1 := ht.below B1 (Nat.le_refl _); have r1 := hr.step B1; have l1 := hr'.step B1))
      | (go_at_call 10; first
        | ((with_reducible refine (zb w1 t1 r1).mono ?_); (rintro e w4 ⟨A2, c2, rfl, _, x2, B2⟩; have t4 := t1.below B2 (Nat.le_refl _); have l4 := l1.step B2; have C4 := step_trans B1 B2))
        | ((with_reducible refine (zy A5 c5 w5 t5 o5).mono ?_); (rintro e w6 ⟨A6, c6, rfl, _, _, x6, B6⟩; have x6 := x6.bytes; have l6 := l5.step B6; have C6 := step_trans C5 B6)))
      | (go_at_call 12; ((with_reducible refine (zl w4 t4 l4).mono ?_); (rintro e w5 ⟨A5, c5, rfl, hc5, o5, B5⟩; have o5 := o5.bytes; have t5 := t4.below B5 (Nat.le_refl _); have l5 := l4.step B5; have C5 := step_trans C4 B5)))
      | (go_at_call 14; ((with_reducible refine (zs A6 c6 w6 x6 l6).mono ?_); (rintro e w7 ⟨rfl, rfl⟩))))
    go_ret
    exact ⟨rfl, C6⟩
  · obtain ⟨re, hre⟩ : ∃ x, x = Blk.readE a l := ⟨_, rfl⟩
    rw [← hre] at zl hy
    have hny : (re != 0) = true := by simpa using hy
    clear hy hre
    go_enter Tryd.func4, Tryd.ntmps4
    go_wp2_with (first
      | (go_at_call 17; refine (awake_any w ht).mono ?_; (rintro e w1 ⟨rfl, B1⟩; have t1 := ht.below B1 (Nat.le_refl _); have r1 := hr.step B1; have l1 := hr'.step B1))
      | (go_at_call 10; ((with_reducible refine (zb w1 t1 r1).mono ?_); (rintro e w4 ⟨A2, c2, rfl, _, x2, B2⟩; have t4 := t1.below B2 (Nat.le_refl _); have l4 := l1.step B2; have C4 := step_trans B1 B2)))
      | (go_at_call 12; ((with_reducible refine (zl w4 t4 l4).mono ?_); (rintro e w5 ⟨A5, c5, rfl, hc5, o5, B5⟩; have C5 := step_trans C4 B5))))
    go_ret
    exact ⟨rfl, C5⟩
theorem back_any (a n : Int) (A : Option Addr) (r : List UInt8) (c : Nat) (A' : Option Addr) (l : List UInt8) (c' : Nat) (o : Int) (hlc : l.length ≤ c') (w : World) (ht : TabAt w) (hr : BytesAt w w.heap.size A r) (hr' : BytesAt w w.heap.size A' l) :
    Calls Tryd.prog 4 #[.int .i64 a, .int .i64 n, .slice A r.length c, .slice A' l.length c', .int .i64 o] w fun e w' => e = .returned (.bool true) ∧ Below w.heap.size w w' := by
  by_cases h : 100 < r.length ∨ 100 < l.length
  · exact back_long a n A r c A' l c' o w ht h
  · by_cases h1 : Blk.bytesE a n r = 0
    · obtain ⟨a1, a2, a3, _⟩ := (Blk.bytesE_zero _ _ _).1 h1
      obtain ⟨a, rfl⟩ : ∃ k : Nat, a = (k : Int) := ⟨a.toNat, by omega⟩
      obtain ⟨n, rfl⟩ : ∃ k : Nat, n = (k : Int) := ⟨n.toNat, by omega⟩
      exact back_made a n A r c A' l c' o hlc w ht hr hr' (by omega) h1
    · exact back_none a n A r c A' l c' o hlc w ht hr hr' (by omega) (by omega) h1
end Go.Proofs.YtmbloclkinghnaaDoor
