/-
  The walk of BlockApart. Conditions: the table of crc lies as the program's text lays it; the bytes can be read.
-/
import Derived.Test.YtmbloclkinghnaaDoorBkAwake
namespace Go.Proofs.YtmbloclkinghnaaDoor
open Go.RowKit Fix

set_option maxRecDepth 100000 in
theorem apart_skip (a n : Int) (A : Option Addr) (r : List UInt8) (c : Nat) (b m : Int) (A' : Option Addr) (l : List UInt8) (c' : Nat) (w : World) (ht : TabAt w) (hr : BytesAt w w.heap.size A r) (hr' : BytesAt w w.heap.size A' l)
    (h : Blk.bytesE a n r ≠ 0 ∨ Blk.bytesE a n r = 0 ∧ Blk.bytesE b m l ≠ 0) :
    Calls Tryd.prog 7 #[.int .i64 a, .int .i64 n, .slice A r.length c, .int .i64 b, .int .i64 m, .slice A' l.length c'] w fun e w' => e = .returned (.bool true) ∧ Below w.heap.size w w' := by
  obtain ⟨p, hp⟩ : ∃ m, m = r.length := ⟨_, rfl⟩
  obtain ⟨q, hq⟩ : ∃ m, m = l.length := ⟨_, rfl⟩
  rw [← hp, ← hq]
  have z1 := fun w t h => blockBytes_any a n A r p c hp.symm w t h
  have z2 := fun w t h => blockBytes_any b m A' l q c' hq.symm w t h
  unfold BbPost at z1 z2
  obtain ⟨be, hbe⟩ : ∃ x, x = Blk.bytesE a n r := ⟨_, rfl⟩
  obtain ⟨ce, hce⟩ : ∃ x, x = Blk.bytesE b m l := ⟨_, rfl⟩
  rw [← hbe] at z1 h
  rw [← hce] at z2 h
  clear hbe hce hp hq
  rcases h with h | ⟨rfl, h⟩
  · have hne : (be != 0) = true := by simpa using h
    clear h
    go_enter Tryd.func7, Tryd.ntmps7
    go_wp2_with (first
      | (go_at_call 17; refine (awake_any w ht).mono ?_; (rintro e w1 ⟨rfl, B1⟩; have t1 := ht.below B1 (Nat.le_refl _); have r1 := hr.step B1; have l1 := hr'.step B1))
      | (go_at_call 10; first
        | ((with_reducible refine (z1 w1 t1 r1).mono ?_); (rintro e w2 ⟨A2, c2, rfl, hc2, x2, B2⟩; have t2 := t1.below B2 (Nat.le_refl _); have l2 := l1.step B2; have C2 := step_trans B1 B2))
        | ((with_reducible refine (z2 w2 t2 l2).mono ?_); (rintro e w3 ⟨A3, c3, rfl, hc3, x3, B3⟩; have C3 := step_trans C2 B3))))
    go_ret
    exact ⟨rfl, C3⟩
  · have hne : (ce != 0) = true := by simpa using h
    clear h
    go_enter Tryd.func7, Tryd.ntmps7
    go_wp2_with (first
      | (go_at_call 17; refine (awake_any w ht).mono ?_; (rintro e w1 ⟨rfl, B1⟩; have t1 := ht.below B1 (Nat.le_refl _); have r1 := hr.step B1; have l1 := hr'.step B1))
      | (go_at_call 10; first
        | ((with_reducible refine (z1 w1 t1 r1).mono ?_); (rintro e w2 ⟨A2, c2, rfl, hc2, x2, B2⟩; have t2 := t1.below B2 (Nat.le_refl _); have l2 := l1.step B2; have C2 := step_trans B1 B2))
        | ((with_reducible refine (z2 w2 t2 l2).mono ?_); (rintro e w3 ⟨A3, c3, rfl, hc3, x3, B3⟩; have C3 := step_trans C2 B3))))
    go_ret
    exact ⟨rfl, C3⟩
set_option maxRecDepth 100000 in
theorem apart_go (a n : Nat) (A : Option Addr) (r : List UInt8) (c : Nat) (b m : Nat) (A' : Option Addr) (l : List UInt8) (c' : Nat) (w : World) (ht : TabAt w) (hr : BytesAt w w.heap.size A r) (hr' : BytesAt w w.heap.size A' l)
    (hz : Blk.bytesE (a : Int) (n : Int) r = 0) (hz' : Blk.bytesE (b : Int) (m : Int) l = 0) :
    Calls Tryd.prog 7 #[.int .i64 (a : Int), .int .i64 (n : Int), .slice A r.length c, .int .i64 (b : Int), .int .i64 (m : Int), .slice A' l.length c'] w fun e w' => e = .returned (.bool true) ∧ Below w.heap.size w w' := by
  have h32 := ((Blk.bytesE_zero _ _ _).1 hz).2.2.2.2
  have h32' := ((Blk.bytesE_zero _ _ _).1 hz').2.2.2.2
  have ha := Blk.sect_length a n r h32
  have hb := Blk.sect_length b m l h32'
  have hi := Blk.sect_inj a n r b m l hz hz'
  have z1 := fun w t h => bkBytes_yes a n A r 32 c h32 hz w t h
  have z2 := fun w t h => bkBytes_yes b m A' l 32 c' h32' hz' w t h
  obtain ⟨x, hx⟩ : ∃ x, x = (Blk.sect a n r == Blk.sect b m l) := ⟨_, rfl⟩
  have zs := fun A1 c1 A2 c2 w1 h h' => sameBytes_any A1 (Blk.sect a n r) 64 c1 ha A2 (Blk.sect b m l) 64 c2 hb w1.heap.size w1 h h'
  rw [← hx] at zs
  have zt := fun w1 h h' => sameBytes_any A r 32 c h32 A' l 32 c' h32' w1.heap.size w1 h h'
  have hxx : x = true ↔ a = b ∧ n = m ∧ r = l := by rw [hx, beq_iff_eq]; exact hi
  obtain ⟨s, hs⟩ : ∃ s, s = Blk.sect a n r := ⟨_, rfl⟩
  obtain ⟨u, hu⟩ : ∃ s, s = Blk.sect b m l := ⟨_, rfl⟩
  rw [← hs] at z1 zs
  rw [← hu] at z2 zs
  rw [h32, h32']
  clear hz hz' h32 h32' ha hb hi hx hs hu
  by_cases e1 : a = b
  · have f1 : ((a : Int) == (b : Int)) = true := by simp [e1]
    by_cases e2 : n = m
    · have f2 : ((n : Int) == (m : Int)) = true := by simp [e2]
      have hy : (r == l) = x := by
        cases x with
        | true => rw [beq_iff_eq]; exact (hxx.1 rfl).2.2
        | false =>
          rw [beq_eq_false_iff_ne]
          intro e
          have := hxx.2 ⟨e1, e2, e⟩
          cases this
      rw [hy] at zt
      clear hxx hy e1 e2
      go_enter Tryd.func7, Tryd.ntmps7
      go_wp2_with (first
        | (go_at_call 17; refine (awake_any w ht).mono ?_; (rintro e w1 ⟨rfl, B1⟩; have t1 := ht.below B1 (Nat.le_refl _); have r1 := hr.step B1; have l1 := hr'.step B1))
        | (go_at_call 10; first
          | ((with_reducible refine (z1 w1 t1 r1).mono ?_); (rintro e w2 ⟨A2, c2, rfl, _, _, x2, B2⟩; have t2 := t1.below B2 (Nat.le_refl _); have l2 := l1.step B2; have r2 := r1.step B2; have C2 := step_trans B1 B2))
          | ((with_reducible refine (z2 w2 t2 l2).mono ?_); (rintro e w3 ⟨A3, c3, rfl, _, _, x3, B3⟩; have C3 := step_trans C2 B3; have y2 := (x2.step B3).bytes; have y3 := x3.bytes; have l3 := l2.step B3; have r3 := r2.step B3)))
        | (go_at_call 14; first
          | ((with_reducible refine (zs A2 c2 A3 c3 w3 y2 y3).mono ?_); (rintro e w4 ⟨rfl, rfl⟩))
          | ((with_reducible refine (zt w3 r3 l3).mono ?_); (rintro e w4 ⟨rfl, rfl⟩))))
      go_ret
      exact ⟨by simp, C3⟩
    · have f2 : ((n : Int) == (m : Int)) = false := by simp; omega
      obtain rfl : x = false := by rw [← Bool.not_eq_true, hxx]; exact fun h => e2 h.2.1
      clear hxx e1 e2
      go_enter Tryd.func7, Tryd.ntmps7
      go_wp2_with (first
        | (go_at_call 17; refine (awake_any w ht).mono ?_; (rintro e w1 ⟨rfl, B1⟩; have t1 := ht.below B1 (Nat.le_refl _); have r1 := hr.step B1; have l1 := hr'.step B1))
        | (go_at_call 10; first
          | ((with_reducible refine (z1 w1 t1 r1).mono ?_); (rintro e w2 ⟨A2, c2, rfl, _, _, x2, B2⟩; have t2 := t1.below B2 (Nat.le_refl _); have l2 := l1.step B2; have C2 := step_trans B1 B2))
          | ((with_reducible refine (z2 w2 t2 l2).mono ?_); (rintro e w3 ⟨A3, c3, rfl, _, _, x3, B3⟩; have C3 := step_trans C2 B3; have y2 := (x2.step B3).bytes; have y3 := x3.bytes)))
        | (go_at_call 14; ((with_reducible refine (zs A2 c2 A3 c3 w3 y2 y3).mono ?_); (rintro e w4 ⟨rfl, rfl⟩))))
      go_ret
      exact ⟨rfl, C3⟩
  · have f1 : ((a : Int) == (b : Int)) = false := by simp; omega
    obtain rfl : x = false := by rw [← Bool.not_eq_true, hxx]; exact fun h => e1 h.1
    clear hxx e1
    go_enter Tryd.func7, Tryd.ntmps7
    go_wp2_with (first
      | (go_at_call 17; refine (awake_any w ht).mono ?_; (rintro e w1 ⟨rfl, B1⟩; have t1 := ht.below B1 (Nat.le_refl _); have r1 := hr.step B1; have l1 := hr'.step B1))
      | (go_at_call 10; first
        | ((with_reducible refine (z1 w1 t1 r1).mono ?_); (rintro e w2 ⟨A2, c2, rfl, _, _, x2, B2⟩; have t2 := t1.below B2 (Nat.le_refl _); have l2 := l1.step B2; have C2 := step_trans B1 B2))
        | ((with_reducible refine (z2 w2 t2 l2).mono ?_); (rintro e w3 ⟨A3, c3, rfl, _, _, x3, B3⟩; have C3 := step_trans C2 B3; have y2 := (x2.step B3).bytes; have y3 := x3.bytes)))
      | (go_at_call 14; ((with_reducible refine (zs A2 c2 A3 c3 w3 y2 y3).mono ?_); (rintro e w4 ⟨rfl, rfl⟩))))
    go_ret
    exact ⟨rfl, C3⟩
theorem apart_any (a n : Int) (A : Option Addr) (r : List UInt8) (c : Nat) (b m : Int) (A' : Option Addr) (l : List UInt8) (c' : Nat) (w : World) (ht : TabAt w) (hr : BytesAt w w.heap.size A r) (hr' : BytesAt w w.heap.size A' l) :
    Calls Tryd.prog 7 #[.int .i64 a, .int .i64 n, .slice A r.length c, .int .i64 b, .int .i64 m, .slice A' l.length c'] w fun e w' => e = .returned (.bool true) ∧ Below w.heap.size w w' := by
  by_cases h1 : Blk.bytesE a n r = 0
  · by_cases h2 : Blk.bytesE b m l = 0
    · obtain ⟨a1, a2, a3, _⟩ := (Blk.bytesE_zero _ _ _).1 h1
      obtain ⟨b1, b2, b3, _⟩ := (Blk.bytesE_zero _ _ _).1 h2
      obtain ⟨a, rfl⟩ : ∃ k : Nat, a = (k : Int) := ⟨a.toNat, by omega⟩
      obtain ⟨b, rfl⟩ : ∃ k : Nat, b = (k : Int) := ⟨b.toNat, by omega⟩
      obtain ⟨n, rfl⟩ : ∃ k : Nat, n = (k : Int) := ⟨n.toNat, by omega⟩
      obtain ⟨m, rfl⟩ : ∃ k : Nat, m = (k : Int) := ⟨m.toNat, by omega⟩
      exact apart_go a n A r c b m A' l c' w ht hr hr' h1 h2
    · exact apart_skip a n A r c b m A' l c' w ht hr hr' (.inr ⟨h1, h2⟩)
  · exact apart_skip a n A r c b m A' l c' w ht hr hr' (.inl h1)
end Go.Proofs.YtmbloclkinghnaaDoor
