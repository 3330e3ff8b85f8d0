/-
  The walk of MsgBack. Conditions: the bytes can be read.
-/
import Derived.Test.YtnnchcoeagigbaaMgBackKit
namespace Go.Proofs.Ytnnchcoeagigbaa
open Go.RowKit Mg

set_option maxRecDepth 100000 in
set_option maxHeartbeats 4000000 in
theorem back_long (m : M) (A : Option Addr) (c : Nat) (l : List UInt8) (D : Option Addr) (d : Nat) (x : Int) (u : UInt8) (w : World) (hr : BytesAt w w.heap.size A m.data) (hs : BytesAt w w.heap.size D l) (h1 : (100 : Int) < (m.data.length : Int)) :
    Calls Try.prog 5 #[mVal m A c, .slice D l.length d, .int .i64 x, .int .u8 (u.toNat : Int)] w fun e w' => e = .returned (.bool true) ∧ Below w.heap.size w w' := by
  have S0 := Lib.hid (back_at m A c l D w hr hs)
  clear hr hs
  go_enter Try.func5, Try.ntmps5
  go_wp2_with (first
    | (go_at_call 17; refine (awake_any _).mono ?_; (rintro e w1 ⟨rfl, X⟩; have B1 := Lib.hid (X); have r1 := Lib.hid (S0.out w1 (X)).2.1; have s1 := Lib.hid (S0.out w1 (X)).2.2.1; have D1 := Lib.hid (S0.out w1 (X)).2.2.2; obtain ⟨⟨a0, a1, a2, a3, a4, a5, a6, a7, a8, a9, a10, a11⟩, _, _, _⟩ := S0.out w1 (X))))
  go_ret
  exact ⟨rfl, D1.out⟩

set_option maxRecDepth 100000 in
set_option maxHeartbeats 4000000 in
theorem back_long2 (m : M) (A : Option Addr) (c : Nat) (l : List UInt8) (D : Option Addr) (d : Nat) (x : Int) (u : UInt8) (w : World) (hr : BytesAt w w.heap.size A m.data) (hs : BytesAt w w.heap.size D l) (h1 : ¬ (100 : Int) < (m.data.length : Int)) (h2 : (200 : Int) < (l.length : Int)) :
    Calls Try.prog 5 #[mVal m A c, .slice D l.length d, .int .i64 x, .int .u8 (u.toNat : Int)] w fun e w' => e = .returned (.bool true) ∧ Below w.heap.size w w' := by
  have S0 := Lib.hid (back_at m A c l D w hr hs)
  clear hr hs
  go_enter Try.func5, Try.ntmps5
  go_wp2_with (first
    | (go_at_call 17; refine (awake_any _).mono ?_; (rintro e w1 ⟨rfl, X⟩; have B1 := Lib.hid (X); have r1 := Lib.hid (S0.out w1 (X)).2.1; have s1 := Lib.hid (S0.out w1 (X)).2.2.1; have D1 := Lib.hid (S0.out w1 (X)).2.2.2; obtain ⟨⟨a0, a1, a2, a3, a4, a5, a6, a7, a8, a9, a10, a11⟩, _, _, _⟩ := S0.out w1 (X))))
  go_ret
  exact ⟨rfl, D1.out⟩

set_option maxRecDepth 100000 in
set_option maxHeartbeats 4000000 in
theorem back_no_no (m : M) (A : Option Addr) (c : Nat) (l : List UInt8) (D : Option Addr) (d : Nat) (x : Int) (u : UInt8) (w : World) (hwf : Wf m) (hr : BytesAt w w.heap.size A m.data) (hs : BytesAt w w.heap.size D l) (hld : l.length ≤ d) (hd : d ≤ 9223372036854775807) (h1 : ¬ (100 : Int) < (m.data.length : Int)) (h2 : ¬ (200 : Int) < (l.length : Int))
    (xs : List UInt8) (n : Nat) (hxs : Mg.putB m = xs) (hn : xs.length = n) (hE : Mg.putE m = 2) (e0 a : Int) (f1 : got l = .no e0 a) (he : (e0 != 0) = true) (ha0 : 0 ≤ a) (ha1 : a ≤ (l.length : Int)) :
    Calls Try.prog 5 #[mVal m A c, .slice D l.length d, .int .i64 x, .int .u8 (u.toNat : Int)] w fun e w' => e = .returned (.bool true) ∧ Below w.heap.size w w' := by
  have hl : l.length ≤ 140737488351232 := by omega
  have zm := fun w hr => putV m A c hwf xs 2 hxs hE n hn w hr
  have zc := fun w hr => checkV m A c hwf 2 hE w hr
  have zl := fun w hr => getNo l D d e0 a f1 l.length rfl hld hl hd w hr
  have S0 := Lib.hid (back_at m A c l D w hr hs)
  clear hr hs hwf hxs hE hld hd hl f1 hn
  go_enter Try.func5, Try.ntmps5
  go_wp2_with (first
    | (go_at_call 17; refine (awake_any _).mono ?_; (rintro e w1 ⟨rfl, X⟩; have B1 := Lib.hid (X); have r1 := Lib.hid (S0.out w1 (X)).2.1; have s1 := Lib.hid (S0.out w1 (X)).2.2.1; have D1 := Lib.hid (S0.out w1 (X)).2.2.2; obtain ⟨⟨a0, a1, a2, a3, a4, a5, a6, a7, a8, a9, a10, a11⟩, _, _, _⟩ := S0.out w1 (X)))
    | (go_at_call 12; (with_reducible refine (zc w2 r2.out).mono ?_); (rintro e w3 ⟨rfl, X⟩; have V3 := Lib.hid X; have B3 := Lib.hid (step_trans B2.out V3.out); have r3 := Lib.hid (S0.out w3 (step_trans B2.out V3.out)).2.1; have s3 := Lib.hid (S0.out w3 (step_trans B2.out V3.out)).2.2.1; have D3 := Lib.hid (S0.out w3 (step_trans B2.out V3.out)).2.2.2; obtain ⟨⟨a0, a1, a2, a3, a4, a5, a6, a7, a8, a9, a10, a11⟩, _, _, _⟩ := S0.out w3 (step_trans B2.out V3.out)))
    | (go_at_call 10; ((with_reducible refine (zm w1 r1.out).mono ?_); (rintro e w2 ⟨P2, q2, rfl, hc2, hd2, hW, X⟩; have Q2 := Lib.hid hW.bytes; have H2 := Lib.hid (And.intro hc2 hd2); clear hW hc2 hd2; have B2 := Lib.hid (step_trans B1.out X); have r2 := Lib.hid (S0.out w2 (step_trans B1.out X)).2.1; have s2 := Lib.hid (S0.out w2 (step_trans B1.out X)).2.2.1; have D2 := Lib.hid (S0.out w2 (step_trans B1.out X)).2.2.2; obtain ⟨⟨a0, a1, a2, a3, a4, a5, a6, a7, a8, a9, a10, a11⟩, _, _, _⟩ := S0.out w2 (step_trans B1.out X))))
    | (go_at_call 18; first | ((with_reducible refine (zl _ s3.out).mono ?_); (rintro e w10 ⟨A10, c10, rfl, X⟩; obtain ⟨y2, y3⟩ := fault_at w10 (zO A10 c10) e0 a _ (Below.refl _ _); have B10 := Lib.hid (step_trans B3.out (step_alloc (step_alloc X (zO A10 c10)) (fO e0 a)))))))
  go_ret
  exact ⟨by first | rfl | simp [ha0, ha1], (S0.out _ B10.out).2.2.2⟩

set_option maxRecDepth 100000 in
set_option maxHeartbeats 4000000 in
theorem back_no_yes (m : M) (A : Option Addr) (c : Nat) (l : List UInt8) (D : Option Addr) (d : Nat) (x : Int) (u : UInt8) (w : World) (hwf : Wf m) (hr : BytesAt w w.heap.size A m.data) (hs : BytesAt w w.heap.size D l) (hld : l.length ≤ d) (hd : d ≤ 9223372036854775807) (h1 : ¬ (100 : Int) < (m.data.length : Int)) (h2 : ¬ (200 : Int) < (l.length : Int))
    (xs : List UInt8) (n : Nat) (hxs : Mg.putB m = xs) (hn : xs.length = n) (hE : Mg.putE m = 2) (Y : M) (f1 : got l = .ok Y) (f2 : Mg.putB Y = l) (f3 : Mg.putE Y = 0) (f4 : Wf Y) :
    Calls Try.prog 5 #[mVal m A c, .slice D l.length d, .int .i64 x, .int .u8 (u.toNat : Int)] w fun e w' => e = .returned (.bool true) ∧ Below w.heap.size w w' := by
  have hl : l.length ≤ 140737488351232 := by omega
  have zm := fun w hr => putV m A c hwf xs 2 hxs hE n hn w hr
  have zc := fun w hr => checkV m A c hwf 2 hE w hr
  have zl := fun w hr => getYes l D d Y f1 l.length rfl hld hl hd w hr
  have zz := fun A' c' w hr => putV Y A' c' f4 l 0 f2 f3 l.length rfl w hr
  have zq := fun P q w hr hr' => same_yes P l l.length q rfl D l l.length d rfl w hr hr' rfl
  have S0 := Lib.hid (back_at m A c l D w hr hs)
  clear hr hs hwf hxs hE hld hd hl f1 f2 f3 f4 hn
  go_enter Try.func5, Try.ntmps5
  go_wp2_with (first
    | (go_at_call 17; refine (awake_any _).mono ?_; (rintro e w1 ⟨rfl, X⟩; have B1 := Lib.hid (X); have r1 := Lib.hid (S0.out w1 (X)).2.1; have s1 := Lib.hid (S0.out w1 (X)).2.2.1; have D1 := Lib.hid (S0.out w1 (X)).2.2.2; obtain ⟨⟨a0, a1, a2, a3, a4, a5, a6, a7, a8, a9, a10, a11⟩, _, _, _⟩ := S0.out w1 (X)))
    | (go_at_call 12; (with_reducible refine (zc w2 r2.out).mono ?_); (rintro e w3 ⟨rfl, X⟩; have V3 := Lib.hid X; have B3 := Lib.hid (step_trans B2.out V3.out); have r3 := Lib.hid (S0.out w3 (step_trans B2.out V3.out)).2.1; have s3 := Lib.hid (S0.out w3 (step_trans B2.out V3.out)).2.2.1; have D3 := Lib.hid (S0.out w3 (step_trans B2.out V3.out)).2.2.2; obtain ⟨⟨a0, a1, a2, a3, a4, a5, a6, a7, a8, a9, a10, a11⟩, _, _, _⟩ := S0.out w3 (step_trans B2.out V3.out)))
    | (go_at_call 14; (refine (zq P11 q11 w11 Q11.out s11.out).mono ?_); (rintro e w12 ⟨rfl, rfl⟩))
    | (go_at_call 10; first | ((with_reducible refine (zm w1 r1.out).mono ?_); (rintro e w2 ⟨P2, q2, rfl, hc2, hd2, hW, X⟩; have Q2 := Lib.hid hW.bytes; have H2 := Lib.hid (And.intro hc2 hd2); clear hW hc2 hd2; have B2 := Lib.hid (step_trans B1.out X); have r2 := Lib.hid (S0.out w2 (step_trans B1.out X)).2.1; have s2 := Lib.hid (S0.out w2 (step_trans B1.out X)).2.2.1; have D2 := Lib.hid (S0.out w2 (step_trans B1.out X)).2.2.2; obtain ⟨⟨a0, a1, a2, a3, a4, a5, a6, a7, a8, a9, a10, a11⟩, _, _, _⟩ := S0.out w2 (step_trans B1.out X))) | ((with_reducible refine (zz A10 c10 _ R10.out).mono ?_); (rintro e w11 ⟨P11, q11, rfl, hc11, hd11, hW, X⟩; have Q11 := Lib.hid hW.bytes; clear hW hc11 hd11; have B11 := Lib.hid (step_trans B10.out X); have s11 := Lib.hid (S0.out _ B11.out).2.2.1; have D11 := Lib.hid (S0.out _ B11.out).2.2.2)))
    | (go_at_call 18; first | ((with_reducible refine (zl _ s3.out).mono ?_); (rintro e w10 ⟨A10, c10, rfl, hb10, X⟩; have B10 := Lib.hid (step_trans B3.out (step_alloc (step_alloc X (mObj Y A10 c10)) (fO 0 0))); have R10 := Lib.hid ((hb10.stepA (mObj Y A10 c10)).stepA (fO 0 0)); clear hb10; obtain ⟨⟨d0, d1, d2, d3, d4, d5, d6, d7, d8, d9, d10, d11⟩, y2, y3⟩ := pair_at w10 Y A10 c10 0 0 _ (Below.refl _ _)))))
  go_ret
  exact ⟨rfl, D11.out⟩

set_option maxRecDepth 100000 in
set_option maxHeartbeats 4000000 in
theorem back_yes_no (m : M) (A : Option Addr) (c : Nat) (l : List UInt8) (D : Option Addr) (d : Nat) (x : Int) (u : UInt8) (w : World) (hwf : Wf m) (hr : BytesAt w w.heap.size A m.data) (hs : BytesAt w w.heap.size D l) (hld : l.length ≤ d) (hd : d ≤ 9223372036854775807) (h1 : ¬ (100 : Int) < (m.data.length : Int)) (h2 : ¬ (200 : Int) < (l.length : Int))
    (xs : List UInt8) (n : Nat) (hxs : Mg.putB m = xs) (hn : xs.length = n) (hE : Mg.putE m = 0) (p : Nat) (e1 : Int) (hp : x % (n : Int) = (p : Int)) (hx : is64 x) (hpn : p < n) (hn1 : 1 ≤ n) (hn2 : n ≤ 100) (hnz : ((n : Int) == 0) = false) (g1 : got xs = .ok m) (g2 : got (xs.take p) = .no 4 e1) (g3 : got (xs ++ [u]) = .no 4 (n : Int)) (hsame : sameM m m = true) (e0 a : Int) (f1 : got l = .no e0 a) (he : (e0 != 0) = true) (ha0 : 0 ≤ a) (ha1 : a ≤ (l.length : Int)) :
    Calls Try.prog 5 #[mVal m A c, .slice D l.length d, .int .i64 x, .int .u8 (u.toNat : Int)] w fun e w' => e = .returned (.bool true) ∧ Below w.heap.size w w' := by
  have hl : l.length ≤ 140737488351232 := by omega
  have zm := fun w hr => putV m A c hwf xs 0 hxs hE n hn w hr
  have zc := fun w hr => checkV m A c hwf 0 hE w hr
  have zx := fun P q hq hq2 w hr => getYes xs P q m g1 n hn hq (by omega) hq2 w hr
  have zs := fun A' c' w hr hr' => sameV m m A' c' A c true hsame w hr hr'
  have zk := fun w => pick_any x (n : Int) w hx.1 hx.2 (by omega) (by omega)
  rw [hp] at zk
  have zt := fun P q (hq : p ≤ q) hq2 w hr => getNo (xs.take p) P q 4 e1 g2 p (by simp; omega) hq (by omega) hq2 w hr
  have zy := fun P q w hr => copyBytes_any P xs n q hn w (by omega) hr
  unfold CopyPost at zy
  rw [hn] at zy
  have zo := fun P q hq hq2 w hr => getNo (xs ++ [u]) P q 4 (n : Int) g3 (n + 1) (by simp; omega) hq (by omega) hq2 w hr
  have QT := fun P q (hq : n ≤ q) (W : World) => cut_to P n q p (Nat.le_trans (Nat.le_of_lt hpn) hq) W
  have HN := Lib.hid (And.intro hn (And.intro hpn hn2))
  have zl := fun w hr => getNo l D d e0 a f1 l.length rfl hld hl hd w hr
  have S0 := Lib.hid (back_at m A c l D w hr hs)
  clear hr hs hwf hxs hE hld hd hl hp hx hpn hn1 hn2 g1 g2 g3 hsame f1 hn
  go_enter Try.func5, Try.ntmps5
  go_wp2_with (first
    | (go_at_call 17; refine (awake_any _).mono ?_; (rintro e w1 ⟨rfl, X⟩; have B1 := Lib.hid (X); have r1 := Lib.hid (S0.out w1 (X)).2.1; have s1 := Lib.hid (S0.out w1 (X)).2.2.1; have D1 := Lib.hid (S0.out w1 (X)).2.2.2; obtain ⟨⟨a0, a1, a2, a3, a4, a5, a6, a7, a8, a9, a10, a11⟩, _, _, _⟩ := S0.out w1 (X)))
    | (go_at_call 12; (with_reducible refine (zc w2 r2.out).mono ?_); (rintro e w3 ⟨rfl, X⟩; have V3 := Lib.hid X; have B3 := Lib.hid (step_trans B2.out V3.out); have r3 := Lib.hid (S0.out w3 (step_trans B2.out V3.out)).2.1; have s3 := Lib.hid (S0.out w3 (step_trans B2.out V3.out)).2.2.1; have D3 := Lib.hid (S0.out w3 (step_trans B2.out V3.out)).2.2.2; obtain ⟨⟨a0, a1, a2, a3, a4, a5, a6, a7, a8, a9, a10, a11⟩, _, _, _⟩ := S0.out w3 (step_trans B2.out V3.out)))
    | (go_at_call 20; (with_reducible refine (zs A4 c4 _ R4.out r4.out).mono ?_); (rintro e w5 ⟨rfl, X⟩; have V5 := Lib.hid X; have B5 := Lib.hid (step_trans B4.out V5.out); have r5 := Lib.hid (S0.out w5 (step_trans B4.out V5.out)).2.1; have s5 := Lib.hid (S0.out w5 (step_trans B4.out V5.out)).2.2.1; have D5 := Lib.hid (S0.out w5 (step_trans B4.out V5.out)).2.2.2; obtain ⟨⟨a0, a1, a2, a3, a4, a5, a6, a7, a8, a9, a10, a11⟩, _, _, _⟩ := S0.out w5 (step_trans B4.out V5.out); have Q5 := Lib.hid (((Q2.out.step V3.out).step V4.out).step V5.out); have QT := QT P2 q2 H2.out.1))
    | (go_at_call 21; (with_reducible refine (zk _).mono ?_); (rintro e wp ⟨rfl, rfl⟩))
    | (go_at_call 22; (with_reducible refine (zy P2 q2 _ Q6.out).mono ?_); (rintro e w7 ⟨A7, c7, rfl, ho7, B7⟩; obtain ⟨v8, w8, run8, A8, c8, rfl, hc8, hd8, hb8, B8⟩ := more_at ((w6.alloc (zO A6 c6)).alloc (fO 4 e1)) w7 A7 n c7 xs HN.out.1 (Nat.le_trans HN.out.2.2 (by decide)) u ho7 B7 25; have RUN := Lib.hid run8; have H8 := Lib.hid (And.intro hc8 (And.intro hd8 (And.intro hb8 B8))); clear run8 hc8 hd8 hb8 B8 ho7 B7))
    | (at_builtin; refine wpList_append_run rfl (.tmp 78) (.tmp 80) 25 rfl rfl rfl RUN.out ?_)
    | (go_at_call 10; ((with_reducible refine (zm w1 r1.out).mono ?_); (rintro e w2 ⟨P2, q2, rfl, hc2, hd2, hW, X⟩; have Q2 := Lib.hid hW.bytes; have H2 := Lib.hid (And.intro hc2 hd2); clear hW hc2 hd2; have B2 := Lib.hid (step_trans B1.out X); have r2 := Lib.hid (S0.out w2 (step_trans B1.out X)).2.1; have s2 := Lib.hid (S0.out w2 (step_trans B1.out X)).2.2.1; have D2 := Lib.hid (S0.out w2 (step_trans B1.out X)).2.2.2; obtain ⟨⟨a0, a1, a2, a3, a4, a5, a6, a7, a8, a9, a10, a11⟩, _, _, _⟩ := S0.out w2 (step_trans B1.out X))))
    | (go_at_call 18; first | ((with_reducible refine (zx P2 q2 H2.out.1 H2.out.2 w3 (Q2.out.step V3.out)).mono ?_); (rintro e w4 ⟨A4, c4, rfl, hb4, X⟩; have V4 : Hid (Below w3.heap.size w3 ((w4.alloc (mObj m A4 c4)).alloc (fO 0 0))) := Lib.hid (step_alloc (step_alloc X _) _); have R4 := Lib.hid ((hb4.stepA (mObj m A4 c4)).stepA (fO 0 0)); clear hb4; obtain ⟨⟨b0, b1, b2, b3, b4, b5, b6, b7, b8, b9, b10, b11⟩, y0, y1⟩ := pair_at w4 m A4 c4 0 0 _ (Below.refl _ _); have B4 := Lib.hid (step_trans B3.out V4.out); have r4 := Lib.hid (S0.out _ B4.out).2.1; obtain ⟨⟨a0, a1, a2, a3, a4, a5, a6, a7, a8, a9, a10, a11⟩, _, _, _⟩ := S0.out _ B4.out)) | ((with_reducible refine (zt P2 q2 (Nat.le_trans (Nat.le_of_lt HN.out.2.1) H2.out.1) H2.out.2 w5 (Q5.out.take p)).mono ?_); (rintro e w6 ⟨A6, c6, rfl, X⟩; have V6 : Hid (Below w5.heap.size w5 ((w6.alloc (zO A6 c6)).alloc (fO 4 e1))) := Lib.hid (step_alloc (step_alloc X _) _); have Q6 := Lib.hid (Q5.out.step V6.out); have B6 := Lib.hid (step_trans B5.out V6.out))) | ((with_reducible refine (zo A8 c8 H8.out.1 H8.out.2.1 w8 H8.out.2.2.1).mono ?_); (rintro e w9 ⟨A9, c9, rfl, X⟩; have V9 : Hid (Below ((w6.alloc (zO A6 c6)).alloc (fO 4 e1)).heap.size ((w6.alloc (zO A6 c6)).alloc (fO 4 e1)) ((w9.alloc (zO A9 c9)).alloc (fO 4 (n : Int)))) := Lib.hid (step_alloc (step_alloc (step_trans H8.out.2.2.2 X) _) _); obtain ⟨u0, u1⟩ := fault_at w6 (zO A6 c6) 4 e1 _ V9.out; obtain ⟨v0, v1⟩ := fault_at w9 (zO A9 c9) 4 (n : Int) _ (Below.refl _ _); have B9 := Lib.hid (step_trans B6.out V9.out); have s9 := Lib.hid (S0.out _ B9.out).2.2.1)) | ((with_reducible refine (zl _ s9.out).mono ?_); (rintro e w10 ⟨A10, c10, rfl, X⟩; obtain ⟨y2, y3⟩ := fault_at w10 (zO A10 c10) e0 a _ (Below.refl _ _); have B10 := Lib.hid (step_trans B9.out (step_alloc (step_alloc X (zO A10 c10)) (fO e0 a)))))))
  go_ret
  exact ⟨by first | rfl | simp [ha0, ha1], (S0.out _ B10.out).2.2.2⟩

set_option maxRecDepth 100000 in
set_option maxHeartbeats 4000000 in
theorem back_yes_yes (m : M) (A : Option Addr) (c : Nat) (l : List UInt8) (D : Option Addr) (d : Nat) (x : Int) (u : UInt8) (w : World) (hwf : Wf m) (hr : BytesAt w w.heap.size A m.data) (hs : BytesAt w w.heap.size D l) (hld : l.length ≤ d) (hd : d ≤ 9223372036854775807) (h1 : ¬ (100 : Int) < (m.data.length : Int)) (h2 : ¬ (200 : Int) < (l.length : Int))
    (xs : List UInt8) (n : Nat) (hxs : Mg.putB m = xs) (hn : xs.length = n) (hE : Mg.putE m = 0) (p : Nat) (e1 : Int) (hp : x % (n : Int) = (p : Int)) (hx : is64 x) (hpn : p < n) (hn1 : 1 ≤ n) (hn2 : n ≤ 100) (hnz : ((n : Int) == 0) = false) (g1 : got xs = .ok m) (g2 : got (xs.take p) = .no 4 e1) (g3 : got (xs ++ [u]) = .no 4 (n : Int)) (hsame : sameM m m = true) (Y : M) (f1 : got l = .ok Y) (f2 : Mg.putB Y = l) (f3 : Mg.putE Y = 0) (f4 : Wf Y) :
    Calls Try.prog 5 #[mVal m A c, .slice D l.length d, .int .i64 x, .int .u8 (u.toNat : Int)] w fun e w' => e = .returned (.bool true) ∧ Below w.heap.size w w' := by
  have hl : l.length ≤ 140737488351232 := by omega
  have zm := fun w hr => putV m A c hwf xs 0 hxs hE n hn w hr
  have zc := fun w hr => checkV m A c hwf 0 hE w hr
  have zx := fun P q hq hq2 w hr => getYes xs P q m g1 n hn hq (by omega) hq2 w hr
  have zs := fun A' c' w hr hr' => sameV m m A' c' A c true hsame w hr hr'
  have zk := fun w => pick_any x (n : Int) w hx.1 hx.2 (by omega) (by omega)
  rw [hp] at zk
  have zt := fun P q (hq : p ≤ q) hq2 w hr => getNo (xs.take p) P q 4 e1 g2 p (by simp; omega) hq (by omega) hq2 w hr
  have zy := fun P q w hr => copyBytes_any P xs n q hn w (by omega) hr
  unfold CopyPost at zy
  rw [hn] at zy
  have zo := fun P q hq hq2 w hr => getNo (xs ++ [u]) P q 4 (n : Int) g3 (n + 1) (by simp; omega) hq (by omega) hq2 w hr
  have QT := fun P q (hq : n ≤ q) (W : World) => cut_to P n q p (Nat.le_trans (Nat.le_of_lt hpn) hq) W
  have HN := Lib.hid (And.intro hn (And.intro hpn hn2))
  have zl := fun w hr => getYes l D d Y f1 l.length rfl hld hl hd w hr
  have zz := fun A' c' w hr => putV Y A' c' f4 l 0 f2 f3 l.length rfl w hr
  have zq := fun P q w hr hr' => same_yes P l l.length q rfl D l l.length d rfl w hr hr' rfl
  have S0 := Lib.hid (back_at m A c l D w hr hs)
  clear hr hs hwf hxs hE hld hd hl hp hx hpn hn1 hn2 g1 g2 g3 hsame f1 f2 f3 f4 hn
  go_enter Try.func5, Try.ntmps5
  go_wp2_with (first
    | (go_at_call 17; refine (awake_any _).mono ?_; (rintro e w1 ⟨rfl, X⟩; have B1 := Lib.hid (X); have r1 := Lib.hid (S0.out w1 (X)).2.1; have s1 := Lib.hid (S0.out w1 (X)).2.2.1; have D1 := Lib.hid (S0.out w1 (X)).2.2.2; obtain ⟨⟨a0, a1, a2, a3, a4, a5, a6, a7, a8, a9, a10, a11⟩, _, _, _⟩ := S0.out w1 (X)))
    | (go_at_call 12; (with_reducible refine (zc w2 r2.out).mono ?_); (rintro e w3 ⟨rfl, X⟩; have V3 := Lib.hid X; have B3 := Lib.hid (step_trans B2.out V3.out); have r3 := Lib.hid (S0.out w3 (step_trans B2.out V3.out)).2.1; have s3 := Lib.hid (S0.out w3 (step_trans B2.out V3.out)).2.2.1; have D3 := Lib.hid (S0.out w3 (step_trans B2.out V3.out)).2.2.2; obtain ⟨⟨a0, a1, a2, a3, a4, a5, a6, a7, a8, a9, a10, a11⟩, _, _, _⟩ := S0.out w3 (step_trans B2.out V3.out)))
    | (go_at_call 20; (with_reducible refine (zs A4 c4 _ R4.out r4.out).mono ?_); (rintro e w5 ⟨rfl, X⟩; have V5 := Lib.hid X; have B5 := Lib.hid (step_trans B4.out V5.out); have r5 := Lib.hid (S0.out w5 (step_trans B4.out V5.out)).2.1; have s5 := Lib.hid (S0.out w5 (step_trans B4.out V5.out)).2.2.1; have D5 := Lib.hid (S0.out w5 (step_trans B4.out V5.out)).2.2.2; obtain ⟨⟨a0, a1, a2, a3, a4, a5, a6, a7, a8, a9, a10, a11⟩, _, _, _⟩ := S0.out w5 (step_trans B4.out V5.out); have Q5 := Lib.hid (((Q2.out.step V3.out).step V4.out).step V5.out); have QT := QT P2 q2 H2.out.1))
    | (go_at_call 21; (with_reducible refine (zk _).mono ?_); (rintro e wp ⟨rfl, rfl⟩))
    | (go_at_call 22; (with_reducible refine (zy P2 q2 _ Q6.out).mono ?_); (rintro e w7 ⟨A7, c7, rfl, ho7, B7⟩; obtain ⟨v8, w8, run8, A8, c8, rfl, hc8, hd8, hb8, B8⟩ := more_at ((w6.alloc (zO A6 c6)).alloc (fO 4 e1)) w7 A7 n c7 xs HN.out.1 (Nat.le_trans HN.out.2.2 (by decide)) u ho7 B7 25; have RUN := Lib.hid run8; have H8 := Lib.hid (And.intro hc8 (And.intro hd8 (And.intro hb8 B8))); clear run8 hc8 hd8 hb8 B8 ho7 B7))
    | (at_builtin; refine wpList_append_run rfl (.tmp 78) (.tmp 80) 25 rfl rfl rfl RUN.out ?_)
    | (go_at_call 14; (refine (zq P11 q11 w11 Q11.out s11.out).mono ?_); (rintro e w12 ⟨rfl, rfl⟩))
    | (go_at_call 10; first | ((with_reducible refine (zm w1 r1.out).mono ?_); (rintro e w2 ⟨P2, q2, rfl, hc2, hd2, hW, X⟩; have Q2 := Lib.hid hW.bytes; have H2 := Lib.hid (And.intro hc2 hd2); clear hW hc2 hd2; have B2 := Lib.hid (step_trans B1.out X); have r2 := Lib.hid (S0.out w2 (step_trans B1.out X)).2.1; have s2 := Lib.hid (S0.out w2 (step_trans B1.out X)).2.2.1; have D2 := Lib.hid (S0.out w2 (step_trans B1.out X)).2.2.2; obtain ⟨⟨a0, a1, a2, a3, a4, a5, a6, a7, a8, a9, a10, a11⟩, _, _, _⟩ := S0.out w2 (step_trans B1.out X))) | ((with_reducible refine (zz A10 c10 _ R10.out).mono ?_); (rintro e w11 ⟨P11, q11, rfl, hc11, hd11, hW, X⟩; have Q11 := Lib.hid hW.bytes; clear hW hc11 hd11; have B11 := Lib.hid (step_trans B10.out X); have s11 := Lib.hid (S0.out _ B11.out).2.2.1; have D11 := Lib.hid (S0.out _ B11.out).2.2.2)))
    | (go_at_call 18; first | ((with_reducible refine (zx P2 q2 H2.out.1 H2.out.2 w3 (Q2.out.step V3.out)).mono ?_); (rintro e w4 ⟨A4, c4, rfl, hb4, X⟩; have V4 : Hid (Below w3.heap.size w3 ((w4.alloc (mObj m A4 c4)).alloc (fO 0 0))) := Lib.hid (step_alloc (step_alloc X _) _); have R4 := Lib.hid ((hb4.stepA (mObj m A4 c4)).stepA (fO 0 0)); clear hb4; obtain ⟨⟨b0, b1, b2, b3, b4, b5, b6, b7, b8, b9, b10, b11⟩, y0, y1⟩ := pair_at w4 m A4 c4 0 0 _ (Below.refl _ _); have B4 := Lib.hid (step_trans B3.out V4.out); have r4 := Lib.hid (S0.out _ B4.out).2.1; obtain ⟨⟨a0, a1, a2, a3, a4, a5, a6, a7, a8, a9, a10, a11⟩, _, _, _⟩ := S0.out _ B4.out)) | ((with_reducible refine (zt P2 q2 (Nat.le_trans (Nat.le_of_lt HN.out.2.1) H2.out.1) H2.out.2 w5 (Q5.out.take p)).mono ?_); (rintro e w6 ⟨A6, c6, rfl, X⟩; have V6 : Hid (Below w5.heap.size w5 ((w6.alloc (zO A6 c6)).alloc (fO 4 e1))) := Lib.hid (step_alloc (step_alloc X _) _); have Q6 := Lib.hid (Q5.out.step V6.out); have B6 := Lib.hid (step_trans B5.out V6.out))) | ((with_reducible refine (zo A8 c8 H8.out.1 H8.out.2.1 w8 H8.out.2.2.1).mono ?_); (rintro e w9 ⟨A9, c9, rfl, X⟩; have V9 : Hid (Below ((w6.alloc (zO A6 c6)).alloc (fO 4 e1)).heap.size ((w6.alloc (zO A6 c6)).alloc (fO 4 e1)) ((w9.alloc (zO A9 c9)).alloc (fO 4 (n : Int)))) := Lib.hid (step_alloc (step_alloc (step_trans H8.out.2.2.2 X) _) _); obtain ⟨u0, u1⟩ := fault_at w6 (zO A6 c6) 4 e1 _ V9.out; obtain ⟨v0, v1⟩ := fault_at w9 (zO A9 c9) 4 (n : Int) _ (Below.refl _ _); have B9 := Lib.hid (step_trans B6.out V9.out); have s9 := Lib.hid (S0.out _ B9.out).2.2.1)) | ((with_reducible refine (zl _ s9.out).mono ?_); (rintro e w10 ⟨A10, c10, rfl, hb10, X⟩; have B10 := Lib.hid (step_trans B9.out (step_alloc (step_alloc X (mObj Y A10 c10)) (fO 0 0))); have R10 := Lib.hid ((hb10.stepA (mObj Y A10 c10)).stepA (fO 0 0)); clear hb10; obtain ⟨⟨d0, d1, d2, d3, d4, d5, d6, d7, d8, d9, d10, d11⟩, y2, y3⟩ := pair_at w10 Y A10 c10 0 0 _ (Below.refl _ _)))))
  go_ret
  exact ⟨rfl, D11.out⟩

end Go.Proofs.Ytnnchcoeagigbaa
