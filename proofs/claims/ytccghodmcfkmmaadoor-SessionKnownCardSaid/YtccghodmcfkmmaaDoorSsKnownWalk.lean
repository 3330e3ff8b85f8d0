/-
  The walk of SessionKnown. Conditions: the table of crc lies as the program's text lays it.
-/
import Derived.Test.YtccghodmcfkmmaaDoorSsAwake
namespace Go.Proofs.YtccghodmcfkmmaaDoor
open Go.RowKit Fix

def ka0 : Ss.S := Ss.new 1
def ka1 : Ss.S := ka0.send [1]
def ka2 : Ss.S := ka1.send [2]
def ka3 : Ss.S := ka2.send [3]
def kX : Ss.D := ka1.dat (1, [1])
def kZ : Ss.D := ka3.dat (3, [3])
def kb0 : Ss.S := Ss.new 2
def kb1 : Ss.S := kb0.recv kZ
def kb2 : Ss.S := kb1.recv kX
def kb3 : Ss.S := kb2.recv kZ
def kA : Ss.D := kb3.dat (0, [])
def ka4 : Ss.S := ka3.recv kA
theorem kX_ok : kX.Ok := ⟨by decide, by decide, by decide, by decide, by decide, by decide, by decide⟩
theorem kZ_ok : kZ.Ok := ⟨by decide, by decide, by decide, by decide, by decide, by decide, by decide⟩
theorem kA_ok : kA.Ok := ⟨by decide +kernel, by decide +kernel, by decide +kernel, by decide +kernel, by decide +kernel, by decide +kernel, by decide +kernel⟩
/-- bytes that are none of a session's -/
theorem recv_none {w0 w : World} {a b : Nat} {Fa Fb : Nat → Prop} {sa sb : Ss.S} (h : TwoAt w0 w a b Fa Fb sa sb) (A : Option Addr) (l : List UInt8) (n c : Nat) (x : Int) (hn : l.length = n) (hc : n ≤ c) (h1 : n ≤ 1000) (hA : Txt a b w A l) (hE : Ss.readE l = x) (hx : x ≠ 0) :
    Calls Tryd.prog 19 #[.pointer (some ⟨a, 0, none⟩), .slice A n c] w fun e w' => ∃ A' c', e = .returned (.tuple #[.slice A' 0 c', .bool false, .int .i64 x]) ∧ TwoAt w0 w' a b Fa Fb sa sb ∧ Frame (AB a b) w w' := by
  have hE0 : Ss.readE l ≠ 0 := by rw [hE]; exact hx
  refine (recv_any a Fa sa w h.a_ h.tab A l n c hn hc h1 hA.at_).mono fun e w' ⟨A', c', h1, h2, h3, h4, h5⟩ => ?_
  rw [if_neg (by simp [hE0]), decide_eq_false hE0, hE] at h1
  rw [if_neg hE0] at h4
  exact ⟨A', c', h1, h.chg h4 (fun j hj => .inl hj) h5, chg_fr h5⟩
/-- a Send of a literal -/
theorem send_lit {w0 w : World} {a b : Nat} {Fa Fb : Nat → Prop} {sa sb : Ss.S} (h : TwoAt w0 w a b Fa Fb sa sb) (l : List UInt8) (cs : Array Value) (n g : Nat) (hn : l.length = n) (hcs : cs = (cellsOfBytes l).toArray) (hg : g = w.heap.size) (he : sa.sendE l = 0) :
    Calls Tryd.prog 17 #[.pointer (some ⟨a, 0, none⟩), .slice (some ⟨g, 0, none⟩) n n] (w.alloc (.cells cs 5)) fun e w' => ∃ Fa' A c', e = .returned (.tuple #[.slice A (n + 41) c', .int .i64 0]) ∧ n + 41 ≤ c' ∧ TwoAt w0 w' a b Fa' Fb (sa.send l) sb ∧ Txt a b w' A ((sa.send l).dat (sa.sent + 1, l)).enc ∧ Frame (AB a b) w w' := by
  subst hcs
  have B : Below w.heap.size w (w.alloc (.cells (cellsOfBytes l).toArray 5)) := (Below.refl _ w).alloc (Nat.le_refl _) _
  refine (send_two (h.step B) (some ⟨g, 0, none⟩) l n n hn (h.txt l g hg 5 (0, 0)) (fun ad e => by cases e; have := h.a_.blt; show g ≠ a; omega) he).mono fun e w' ⟨F', A, c', h1, h2, h3, h4, h5⟩ => ?_
  exact ⟨F', A, c', h1, h2, h3, h4, (Frame.of_below B).trans h5 fun _ e => .inl e⟩
/-- what is got is a literal -/
theorem gets_lit {w0 w : World} {a b : Nat} {Fa Fb : Nat → Prop} {sa sb : Ss.S} (h : TwoAt w0 w a b Fa Fb sa sb) (A : Option Addr) (d : Ss.D) (n c : Nat) (ho : d.Ok) (hn : d.pay.length + 41 = n) (hc : n ≤ c) (hA : Txt a b w A d.enc) (hN : sa.news d = true) (l : List UInt8) (cs : Array Value) (m g : Nat) (hm : l.length = m) (hcs : cs = (cellsOfBytes l).toArray) (hp : d.pay = l) (hg : g = w.heap.size) :
    Calls Tryd.prog 24 #[.pointer (some ⟨a, 0, none⟩), .slice A n c, .slice (some ⟨g, 0, none⟩) m m] (w.alloc (.cells cs 5)) fun e w' => e = .returned (.bool true) ∧ TwoAt w0 w' a b Fa Fb (sa.recv d) sb ∧ Frame (AB a b) w w' := by
  subst hcs
  have B : Below w.heap.size w (w.alloc (.cells (cellsOfBytes l).toArray 5)) := (Below.refl _ w).alloc (Nat.le_refl _) _
  obtain ⟨hE, hD⟩ := Ss.read_enc d ho
  have := ho.pay160
  refine (gets_two (h.step B) A d.enc n c (by rw [Ss.enc_length, hn]) hc (by omega) (hA.step B) d hE hD hN (some ⟨g, 0, none⟩) l m m hm (h.txt l g hg 5 (0, 0)) hp).mono fun e w' ⟨h1, h2, h3⟩ => ?_
  exact ⟨h1, h2, (Frame.of_below B).trans h3 fun _ e => .inl e⟩
theorem not_dat {w0 w : World} {a b : Nat} {Fa Fb : Nat → Prop} {sa sb : Ss.S} (h : TwoAt w0 w a b Fa Fb sa sb) (A : Option Addr) (d : Ss.D) (n c : Nat) (ho : d.Ok) (hn : d.pay.length + 41 = n) (hc : n ≤ c) (hA : Txt a b w A d.enc) (hN : sa.news d = false) :
    Calls Tryd.prog 25 #[.pointer (some ⟨a, 0, none⟩), .slice A n c] w fun e w' => e = .returned (.bool true) ∧ TwoAt w0 w' a b Fa Fb (sa.recv d) sb ∧ Frame (AB a b) w w' := by
  obtain ⟨hE, hD⟩ := Ss.read_enc d ho
  have := ho.pay160
  exact not_two h A d.enc n c (by rw [Ss.enc_length, hn]) hc (by omega) hA d hE hD hN
set_option maxRecDepth 100000 in
set_option maxHeartbeats 2000000 in
theorem known_any (w : World) (ht : TabAt w) : Calls Tryd.prog 8 #[] w fun e w' => e = .returned (.bool true) ∧ Below w.heap.size w w' := by
  have z1 := new_at 1 1 rfl w (by decide) (by decide)
  have z2 := fun w1 => new_at 2 2 rfl w1 (by decide) (by decide)
  have z0 := fun w1 => new_no 0 w1 (.inl (by decide))
  have NW := Lib.hid (fun w1 w2 (B1 : Below w.heap.size w w1) h1 h2 (B2 : Below w1.heap.size w1 w2) => two_new (w0 := w) (na := 1) (nb := 2) ht B1 h1 h2 B2)
  have zs1 : ∀ (a b : Nat) (w3 : World) (T : TwoAt w w3 a b (fun _ => False) (fun _ => False) ka0 kb0), _ := fun a b w3 T => send_lit T [1] #[.int .u8 1] 1 _ rfl rfl rfl (by decide)
  have zs2 : ∀ (a b : Nat) (w3 : World) (Fa : Nat → Prop) (T : TwoAt w w3 a b Fa (fun _ => False) ka1 kb0), _ := fun a b w3 Fa T => send_lit T [2] #[.int .u8 2] 1 _ rfl rfl rfl (by decide)
  have zs3 : ∀ (a b : Nat) (w3 : World) (Fa : Nat → Prop) (T : TwoAt w w3 a b Fa (fun _ => False) ka2 kb0), _ := fun a b w3 Fa T => send_lit T [3] #[.int .u8 3] 1 _ rfl rfl rfl (by decide)
  have zg1 : ∀ (a b : Nat) (w3 : World) (Fa : Nat → Prop) (T : TwoAt w w3 b a (fun _ => False) Fa kb0 ka3) (A : Option Addr) (c : Nat) (hc : 42 ≤ c) (x : Txt b a w3 A kZ.enc), _ := fun a b w3 Fa T A c hc x => gets_lit T A kZ 42 c kZ_ok rfl hc x (by decide +kernel) [3] #[.int .u8 3] 1 _ rfl rfl rfl rfl
  have zg2 : ∀ (a b : Nat) (w3 : World) (Fa : Nat → Prop) (T : TwoAt w w3 b a (fun _ => False) Fa kb1 ka3) (A : Option Addr) (c : Nat) (hc : 42 ≤ c) (x : Txt b a w3 A kX.enc), _ := fun a b w3 Fa T A c hc x => gets_lit T A kX 42 c kX_ok rfl hc x (by decide +kernel) [1] #[.int .u8 1] 1 _ rfl rfl rfl rfl
  have zn1 : ∀ (a b : Nat) (w3 : World) (Fa : Nat → Prop) (T : TwoAt w w3 b a (fun _ => False) Fa kb2 ka3) (A : Option Addr) (c : Nat) (hc : 42 ≤ c) (x : Txt b a w3 A kZ.enc), _ := fun a b w3 Fa T A c hc x => not_dat T A kZ 42 c kZ_ok rfl hc x (by decide +kernel)
  have zn2 : ∀ (a b : Nat) (w3 : World) (Fa : Nat → Prop) (T : TwoAt w w3 a b Fa (fun _ => False) ka3 kb3) (A : Option Addr) (c : Nat) (hc : 41 ≤ c) (x : Txt a b w3 A kA.enc), _ := fun a b w3 Fa T A c hc x => not_dat T A kA 41 c kA_ok rfl hc x (by decide +kernel)
  have zw1 : ∀ (a b : Nat) (w3 : World) (Fa : Nat → Prop) (T : TwoAt w w3 b a (fun _ => False) Fa kb3 ka3), _ := fun a b w3 Fa T => waiting_any a Fa ka3 w3 T.b_
  have zw2 : ∀ (a b : Nat) (w3 : World) (Fa : Nat → Prop) (T : TwoAt w w3 a b Fa (fun _ => False) ka4 kb3), _ := fun a b w3 Fa T => waiting_any a Fa ka4 w3 T.a_
  have hw1 : ((ka3.wait.length : Nat) : Int) = 3 := rfl
  have hw2 : ((ka4.wait.length : Nat) : Int) = 1 := by
    have : ka4.wait.length = 1 := by decide +kernel
    rw [this]; rfl
  rw [hw1] at zw1
  rw [hw2] at zw2
  have za : ∀ (a b : Nat) (w3 : World) (Fa : Nat → Prop) (T : TwoAt w w3 b a (fun _ => False) Fa kb3 ka3), _ := fun a b w3 Fa T => ack_two T
  have zl : ∀ (a b n c : Nat) (P : Option Addr) (w3 w4 : World) (Fa : Nat → Prop) (T : TwoAt w w3 a b Fa (fun _ => False) ka4 kb3), 160 < n → Below w3.heap.size w3 w4 → _ := fun a b n c P w3 w4 Fa T hn B => send_long a Fa ka4 w4 (T.step B).a_ P n c hn
  have zr : ∀ (a b : Nat) (w3 : World) (Fa : Nat → Prop) (T : TwoAt w w3 a b Fa (fun _ => False) ka4 kb3), _ := fun a b w3 Fa T => recv_none T none [] 0 0 4 rfl (Nat.le_refl _) (by decide) ⟨bytes_nil, fun _ e => (by cases e)⟩ (by decide) (by decide)
  have zk : ∀ (a b : Nat) (w3 : World) (Fa : Nat → Prop) (T : TwoAt w w3 a b Fa (fun _ => False) ka4 kb3), _ := fun a b w3 Fa T => awake_any w3 T.tab
  have q1 : ka0.send [1] = ka1 := rfl
  have q2 : ka1.send [2] = ka2 := rfl
  have q3 : ka2.send [3] = ka3 := rfl
  have q4 : kb0.recv kZ = kb1 := rfl
  have q5 : kb1.recv kX = kb2 := rfl
  have q6 : kb2.recv kZ = kb3 := rfl
  have q7 : ka3.recv kA = ka4 := rfl
  have q8 : ka1.dat (ka0.sent + 1, [1]) = kX := rfl
  have q9 : ka3.dat (ka2.sent + 1, [3]) = kZ := rfl
  have q10 : kb3.dat (0, []) = kA := rfl
  rw [q1, q8] at zs1
  rw [q2] at zs2
  rw [q3, q9] at zs3
  rw [q4] at zg1
  rw [q5] at zg2
  rw [q6] at zn1
  rw [q7] at zn2
  rw [q10] at za
  have hmk := make_bytes 161 (by decide)
  have B161 := fun v : World => show Below v.heap.size v (v.alloc (.cells (List.replicate 161 (Value.int .u8 0)).toArray 5)) from (Below.refl _ v).alloc (Nat.le_refl _) _
  obtain ⟨o161, h161⟩ : ∃ o, o = Obj.cells (List.replicate 161 (Value.int .u8 0)).toArray 5 := ⟨_, rfl⟩
  rw [← h161] at hmk B161
  rw [show ((161 : Nat) : Int) = 161 from rfl] at hmk
  have HB := Lib.hid B161
  have o1 := Lib.hid (fun (v : World) (x : Obj) => show Frame (fun _ => False) v (v.alloc x) from Frame.of_below ((Below.refl _ v).alloc (Nat.le_refl _) x))
  clear q1 q2 q3 q4 q5 q6 q7 q8 q9 q10 hw1 hw2 ht h161 B161
  go_enter Tryd.func8, Tryd.ntmps8
  go_wp2_with (first
    | (go_at_call 10; first
      | ((with_reducible refine (z1).mono ?_); (rintro e w1 ⟨rfl, S1, B1⟩; have H1 := Lib.hid (And.intro S1 B1); clear S1 B1))
      | ((with_reducible refine (z2 w1).mono ?_); (rintro e w2 ⟨rfl, S2, B2⟩; have T2 := NW.out w1 w2 H1.out.2 H1.out.1 S2 B2; have H2 := Lib.hid T2; clear S2 B2 T2))
      | ((with_reducible refine (z0 w10).mono ?_); (rintro e v ⟨rfl, rfl⟩)))
    | (go_at_call 17; first
      | ((with_reducible refine (zs1 _ _ w2 H2.out).mono ?_); (rintro e w3 ⟨F3, A3, c3, rfl, hc3, T3, x3, F13⟩; have H3 := Lib.hid (And.intro T3 x3); clear T3 x3 F13))
      | ((with_reducible refine (zs2 _ _ w3 F3 H3.out.1).mono ?_); (rintro e w4 ⟨F4, A4, c4, rfl, hc4, T4, x4, F14⟩; have H4 := Lib.hid (And.intro T4 (H3.out.2.frame F14)); clear T4 x4 F14))
      | ((with_reducible refine (zs3 _ _ w4 F4 H4.out.1).mono ?_); (rintro e w5 ⟨F5, A5, c5, rfl, hc5, T5, x5, F15⟩; have H5 := Lib.hid (And.intro T5 (And.intro (H4.out.2.frame F15) x5)); clear T5 x5 F15))
      | ((with_reducible refine (zl _ _ 161 161 _ w10 _ F5 H10.out (by decide) (HB.out w10)).mono ?_); (rintro e v ⟨rfl, rfl⟩; have H11 := Lib.hid (H10.out.step (HB.out w10)))))
    | (go_at_call 24; first
      | ((with_reducible refine (zg1 _ _ w5 F5 H5.out.1.swap A5 c5 hc5 H5.out.2.2.swap).mono ?_); (rintro e w6 ⟨rfl, T6, F56⟩; have H6 := Lib.hid (And.intro T6 (And.intro (H5.out.2.1.swap.frame F56) (H5.out.2.2.swap.frame F56))); clear T6 F56))
      | ((with_reducible refine (zg2 _ _ w6 F5 H6.out.1 A3 c3 hc3 H6.out.2.1).mono ?_); (rintro e w7 ⟨rfl, T7, F67⟩; have H7 := Lib.hid (And.intro T7 (H6.out.2.2.frame F67)); clear T7 F67)))
    | (go_at_call 25; first
      | ((with_reducible refine (zn1 _ _ w7 F5 H7.out.1 A5 c5 hc5 H7.out.2).mono ?_); (rintro e w8 ⟨rfl, T8, F78⟩; have H8 := Lib.hid T8; clear T8 F78))
      | ((with_reducible refine (zn2 _ _ w9 F5 H9.out.1.swap A9 c9 hc9 H9.out.2.swap).mono ?_); (rintro e w10 ⟨rfl, T10, F910⟩; have H10 := Lib.hid T10; clear T10 F910)))
    | (go_at_call 16; first
      | ((with_reducible refine (zw1 _ _ w8 F5 H8.out).mono ?_); (rintro e v ⟨rfl, rfl⟩))
      | ((with_reducible refine (zw2 _ _ w10 F5 H10.out).mono ?_); (rintro e v ⟨rfl, rfl⟩)))
    | (go_at_call 18; (with_reducible refine (za _ _ w8 F5 H8.out).mono ?_); (rintro e w9 ⟨A9, c9, rfl, hc9, T9, x9, F89⟩; have H9 := Lib.hid (And.intro T9 x9); clear T9 x9 F89))
    | (go_at_call 19; (with_reducible refine (zr _ _ _ F5 H11.out).mono ?_); (rintro e w12 ⟨A12, c12, rfl, T12, F12⟩; have H12 := Lib.hid T12; clear T12 F12))
    | (go_at_call 12; (with_reducible refine (zk _ _ w12 F5 H12.out).mono ?_); (rintro e w13 ⟨rfl, B13⟩; have H13 := Lib.hid B13; clear B13)))
  go_ret
  exact ⟨rfl, step_trans H12.out.fr H13.out⟩
end Go.Proofs.YtccghodmcfkmmaaDoor
