/-
  The walk of MsgGets. Conditions: the bytes can be read.
-/
import Derived.Test.YtfiijnpabmocdaaMgRefGetA
import Derived.Test.YtfiijnpabmocdaaBa
namespace Go.Proofs.Ytfiijnpabmocdaa
open Go.RowKit Mg

set_option maxRecDepth 100000 in
theorem gets_long (A : Option Addr) (l : List UInt8) (c : Nat) (w : World) (h1 : (200 : Int) < (l.length : Int)) :
    Calls Try.prog 4 #[.slice A l.length c] w fun e w' => e = .returned (.bool true) ∧ Below w.heap.size w w' := by
  go_enter Try.func4, Try.ntmps4
  go_wp2
  go_ret
  exact ⟨rfl, Below.refl _ _⟩
set_option maxRecDepth 100000 in
set_option maxHeartbeats 4000000 in
theorem gets_short (A : Option Addr) (l : List UInt8) (c : Nat) (w : World) (hlc : l.length ≤ c) (hr : BytesAt w w.heap.size A l) (h1 : ¬ (200 : Int) < (l.length : Int)) :
    Calls Try.prog 4 #[.slice A l.length c] w fun e w' => e = .returned (.bool true) ∧ Below w.heap.size w w' := by
  have za := lentBytes_any A l c w (by omega) hr
  unfold LentPost at za
  have zk := fun g w h1' h2' => keptBytes_yes g l A c w (by omega) h1' h2'
  obtain ⟨m, hm⟩ : ∃ m, gotM l = m := ⟨_, rfl⟩
  obtain ⟨x, hx⟩ : ∃ x, gotE l = x := ⟨_, rfl⟩
  obtain ⟨a, ha⟩ : ∃ a, gotA l = a := ⟨_, rfl⟩
  obtain ⟨n, hn⟩ : ∃ n, l.length = n := ⟨_, rfl⟩
  have zg := fun g w h => getV l (some ⟨g, 0, none⟩) (n + 3) w (by omega) (by omega) (by omega) h n hn m x a hm hx ha
  have zr := fun w h => refMGet_any A l n c hn (by omega) (by omega) w h
  unfold MgGetPost at zr
  rw [hm, hx, ha] at zr
  have zs := fun P p Q q w h h' => sameV m m P p Q q true ((sameM_iff m m).2 rfl) w h h'
  obtain ⟨k, hk⟩ : ∃ k, m.data.length = k := ⟨_, rfl⟩
  have zo := fun P q base w hc h hb => over_whole P m.data k q base hk hc w h hb
  rw [← hk] at zo
  rw [hn] at h1 za zk ⊢
  have e1 : (x == x) = true := beq_self_eq_true _
  have e2 : (a == a) = true := beq_self_eq_true _
  have HR := Lib.hid hr
  clear hr hm hx ha hn hk hlc
  go_enter Try.func4, Try.ntmps4
  go_wp2_with (first
    | (go_at_call 5; refine za.mono ?_; (rintro e w1 ⟨g, rfl, hg, hb, X⟩; have B1 := Lib.hid X; have K1 := Lib.hid hb; have r1 := Lib.hid (hb.bytes l ⟨_, rfl⟩ hb.lt); have s1 := Lib.hid (HR.out.step X); clear X hb hg))
    | (go_at_call 14; refine (zg g w1 r1.out).mono ?_; (rintro e w2 ⟨P2, q2, rfl, hq2, hW, X⟩; have W2 := Lib.hid hW; have Q2 := Lib.hid hq2; have B2 := Lib.hid (step_alloc (step_alloc X (mObj m P2 q2)) (fO x a)); have F2 := Lib.hid (pair_at w2 m P2 q2 x a); have s2 := Lib.hid (s1.out.step B2.out); clear X hW hq2))
    | (go_at_call 15; refine (zr _ s2.out).mono ?_; (rintro e w3 ⟨P3, q3, rfl, hD, X⟩; have B3 := Lib.hid (step_alloc (step_alloc X (mObj m P3 q3)) (fO x a)); have F3 := Lib.hid (pair_at w3 m P3 q3 x a); have D3 := Lib.hid ((hD.stepA (mObj m P3 q3)).stepA (fO x a)); have V3 := Lib.hid ((W2.out.step (step_alloc (step_alloc (Below.refl _ w2) (mObj m P2 q2)) (fO x a))).step B3.out); obtain ⟨⟨a0, a1, a2, a3, a4, a5, a6, a7, a8, a9, a10, a11⟩, _, _⟩ := F2.out _ B3.out; obtain ⟨⟨b0, b1, b2, b3, b4, b5, b6, b7, b8, b9, b10, b11⟩, _, _⟩ := F3.out _ (Below.refl _ _); clear X hD))
    | (go_at_call 16; (with_reducible refine (zs P2 q2 P3 q3 _ V3.out.bytes D3.out).mono ?_); (rintro e w4 ⟨rfl, X⟩; have B4 := Lib.hid X; obtain ⟨⟨_, _, _, _, _, _, _, _, _, _, _, c11⟩, y0, y1⟩ := F2.out _ (step_trans B3.out X); obtain ⟨_, z0, z1⟩ := F3.out _ X; have V4 := Lib.hid (V3.out.step X); clear X))
    | (go_at_call 11; (with_reducible refine (zo P2 q2 _ w4 Q2.out V4.out (Nat.le_trans B2.out.size (Nat.le_trans B3.out.size B4.out.size))).mono ?_); (rintro e w5 ⟨rfl, X, _⟩; have B5 := Lib.hid ((step_trans B2.out (step_trans B3.out B4.out)).trans X); have K5 := Lib.hid (K1.out.step B5.out); have s5 := Lib.hid (s1.out.step B5.out); clear X))
    | (go_at_call 12; (with_reducible refine (zk g w5 K5.out s5.out).mono ?_); (rintro e w6 ⟨rfl, X⟩; have B6 := Lib.hid (step_trans (step_trans B1.out B5.out) X); clear X))
    | (go_at_call 13; refine (awake_any w6).mono ?_; (rintro e w7 ⟨rfl, X⟩; have B7 := Lib.hid (step_trans B6.out X); clear X)))
  go_ret
  exact ⟨rfl, B7.out⟩
theorem gets_any (A : Option Addr) (l : List UInt8) (c : Nat) (w : World) (hlc : l.length ≤ c) (hr : BytesAt w w.heap.size A l) :
    Calls Try.prog 4 #[.slice A l.length c] w fun e w' => e = .returned (.bool true) ∧ Below w.heap.size w w' := by
  by_cases h1 : (200 : Int) < (l.length : Int)
  · exact gets_long A l c w h1
  · exact gets_short A l c w hlc hr h1
end Go.Proofs.Ytfiijnpabmocdaa
