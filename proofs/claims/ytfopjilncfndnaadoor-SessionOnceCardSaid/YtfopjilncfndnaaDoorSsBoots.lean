/-
  Two sessions, and what is known of each; a list of datagrams beside them. Conditions: none.
-/
import Derived.Test.YtfopjilncfndnaaDoorSsAwake
import Derived.Test.YtfopjilncfndnaaDoorRowsM
namespace Go.Proofs.YtfopjilncfndnaaDoor
open Go.RowKit Fix

set_option maxRecDepth 100000 in
theorem elDs : Elem Tryd.prog 35 39 (.slice none 0 0) 24 := ⟨Tryd.underlying35, ⟨_, rfl, by kernel_rfl, by kernel_rfl, by kernel_rfl⟩, rfl, rfl⟩
theorem Frame.of_grown {w w' : World} {k : Option Nat} (h : w.grownBy w' k) : Frame (fun j => k = some j) w w' := ⟨h.os, h.tape, h.output, h.size, fun j hj hn => h.block j hj fun e => hn e.symm⟩
/-- two sessions of which something is known; blocks that are none of theirs -/
def Bt (w0 w : World) (a b : Nat) (Pa Pb : Ss.S → Prop) (Wy : Nat → Prop) : Prop :=
  ∃ Fa Fb sa sb, TwoAt w0 w a b Fa Fb sa sb ∧ Pa sa ∧ Pb sb ∧ ∀ j, Wy j → j < w.heap.size ∧ w0.heap.size ≤ j ∧ j ≠ a ∧ j ≠ b ∧ ¬ Fa j ∧ ¬ Fb j
section
variable {w0 w w' : World} {a b : Nat} {Pa Pb : Ss.S → Prop} {Wy : Nat → Prop}
theorem Bt.swap (h : Bt w0 w a b Pa Pb Wy) : Bt w0 w b a Pb Pa Wy := by
  obtain ⟨Fa, Fb, sa, sb, T, h1, h2, h3⟩ := h
  exact ⟨Fb, Fa, sb, sa, T.swap, h2, h1, fun j hj => by obtain ⟨x1, x2, x3, x4, x5, x6⟩ := h3 j hj; exact ⟨x1, x2, x4, x3, x6, x5⟩⟩
theorem Bt.step (h : Bt w0 w a b Pa Pb Wy) (B : Below w.heap.size w w') : Bt w0 w' a b Pa Pb Wy := by
  obtain ⟨Fa, Fb, sa, sb, T, h1, h2, h3⟩ := h
  exact ⟨Fa, Fb, sa, sb, T.step B, h1, h2, fun j hj => by obtain ⟨x1, x2⟩ := h3 j hj; exact ⟨Nat.lt_of_lt_of_le x1 B.size, x2⟩⟩
theorem Bt.weak (h : Bt w0 w a b Pa Pb Wy) {Qa Qb : Ss.S → Prop} (ha : ∀ s, Pa s → Qa s) (hb : ∀ s, Pb s → Qb s) : Bt w0 w a b Qa Qb Wy := by
  obtain ⟨Fa, Fb, sa, sb, T, h1, h2, h3⟩ := h
  exact ⟨Fa, Fb, sa, sb, T, ha _ h1, hb _ h2, h3⟩
theorem Bt.fr (h : Bt w0 w a b Pa Pb Wy) : Below w0.heap.size w0 w := by obtain ⟨_, _, _, _, T, _⟩ := h; exact T.fr
theorem Bt.tab (h : Bt w0 w a b Pa Pb Wy) : TabAt w := by obtain ⟨_, _, _, _, T, _⟩ := h; exact T.tab
/-- blocks beside both are written, and others take their place: some of the old, and new ones -/
theorem Bt.wrote (h : Bt w0 w a b Pa Pb Wy) (fr : Frame Wy w w') {Wz : Nat → Prop} (hz : ∀ j, Wz j → Wy j ∨ (w.heap.size ≤ j ∧ j < w'.heap.size)) : Bt w0 w' a b Pa Pb Wz := by
  obtain ⟨Fa, Fb, sa, sb, T, h1, h2, h3⟩ := h
  have la := T.a_.blt
  have lb := T.b_.blt
  refine ⟨Fa, Fb, sa, sb, ⟨T.a_.frame fr (fun e => (h3 _ e).2.2.1 rfl) (fun j hj e => (h3 _ e).2.2.2.2.1 hj), T.b_.frame fr (fun e => (h3 _ e).2.2.2.1 rfl) (fun j hj e => (h3 _ e).2.2.2.2.2 hj), T.ne, T.fa, T.fb, T.tab.frame fr (fun e => ?_), T.low, ?_⟩, h1, h2, fun j hj => ?_⟩
  · have := (h3 _ e).2.1; have := T.low.2.2; omega
  · exact T.fr.trans (fr.below (B := w0.heap.size) (fun j e => (h3 _ e).2.1) T.fr.size)
  · rcases hz j hj with y | y
    · obtain ⟨x1, x2⟩ := h3 j y; exact ⟨Nat.lt_of_lt_of_le x1 fr.size, x2⟩
    · have := T.fr.size
      exact ⟨y.2, by omega, by omega, by omega, fun e => by have := T.a_.lt j e; omega, fun e => by have := T.b_.lt j e; omega⟩
/-- bytes of the one handed in -/
theorem Bt.txt (h : Bt w0 w a b Pa Pb Wy) {A : Option Addr} {l : List UInt8} (hr : BytesAt w0 w0.heap.size A l) : Txt a b w A l := by
  obtain ⟨_, _, _, _, T, _⟩ := h
  refine ⟨hr.step T.fr, fun ad e hl => ?_⟩
  obtain ⟨ad', e', hb, _⟩ := hr hl
  rw [e] at e'
  cases e'
  have := T.low
  exact ⟨by omega, by omega⟩
/-- what a datagram says -/
structure Dg (d : Ss.D) (boot num ob : Nat) (p : List UInt8) : Prop where
  ok : d.Ok
  boot : d.boot = boot
  num : d.num = num
  ob : d.o.boot ≤ ob
  pay : d.pay = p
theorem bt_send (h : Bt w0 w a b Pa Pb Wy) {Qa : Ss.S → Prop} (x i ob : Nat) (P : Option Addr) (p : List UInt8) (n c : Nat) (hn : p.length = n) (h100 : n ≤ 160) (hi : i < 1000) (hP : Txt a b w P p) (hs : ∀ s, Pa s → s.boot = x ∧ s.sent = i ∧ s.o.boot ≤ ob ∧ Qa (s.send p)) :
    Calls Tryd.prog 16 #[.pointer (some ⟨a, 0, none⟩), .slice P n c] w fun e w' => ∃ A c' d, e = .returned (.tuple #[.slice A (n + 41) c', .int .i64 0]) ∧ n + 41 ≤ c' ∧ Bt w0 w' a b Qa Pb Wy ∧ Txt a b w' A d.enc ∧ Dg d x (i + 1) ob p ∧ (∀ ad, A = some ad → w.heap.size ≤ ad.block ∧ ad.block < w'.heap.size) ∧ Frame (AB a b) w w' := by
  obtain ⟨Fa, Fb, sa, sb, T, h1, h2, h3⟩ := h
  obtain ⟨q1, q2, q3, q4⟩ := hs sa h1
  have he : sa.sendE p = 0 := by unfold Ss.S.sendE; rw [if_neg (by omega), if_neg (by omega)]
  have hok := T.a_.ok
  refine (send_ok a Fa sa w T.a_ T.tab (fun e => by have := T.low; omega) P p n c hn hP.at_ (fun hp ad e => (hP.far ad e hp).1) he).mono fun e w' ⟨F', A, c', k1, k2, k3, k4, k5, k6, k7, k8⟩ => ?_
  refine ⟨A, c', (sa.send p).dat (sa.sent + 1, p), k1, k2, ⟨F', Fb, _, sb, T.chg k4 k5 k8, q4, h2, fun j hj => ?_⟩, T.own k6, ⟨Ss.dat_ok (Ss.send_ok hok p he) _ (.inr ⟨by simp, by show sa.sent + 1 ≤ sa.sent + 1; omega, by show p.length ≤ 160; omega⟩), q1, by show sa.sent + 1 = _; omega, q3, rfl⟩, fun ad e => k6.lt ad.block (by rw [e]; rfl), chg_fr k8⟩
  obtain ⟨x1, x2, x3, x4, x5, x6⟩ := h3 j hj
  exact ⟨Nat.lt_of_lt_of_le x1 k8.size, x2, x3, x4, fun e => (k5 j e).elim x5 fun y => by omega, x6⟩
theorem bt_ack (h : Bt w0 w a b Pa Pb Wy) :
    Calls Tryd.prog 25 #[.pointer (some ⟨a, 0, none⟩)] w fun e w' => ∃ A c' s, e = .returned (.tuple #[.slice A 41 c', .int .i64 0]) ∧ 41 ≤ c' ∧ Pa s ∧ s.Ok ∧ Bt w0 w' a b Pa Pb Wy ∧ Txt a b w' A (s.dat (0, [])).enc ∧ (∀ ad, A = some ad → w.heap.size ≤ ad.block ∧ ad.block < w'.heap.size) ∧ Frame (AB a b) w w' := by
  obtain ⟨Fa, Fb, sa, sb, T, h1, h2, h3⟩ := h
  refine (ack_any a Fa sa w T.a_ T.tab).mono fun e w' ⟨A, c', k1, k2, k3, k4, k5⟩ => ?_
  exact ⟨A, c', sa, k1, k2, h1, T.a_.ok, Bt.step ⟨Fa, Fb, sa, sb, T, h1, h2, h3⟩ k5, T.own k4, fun ad e => k4.lt ad.block (by rw [e]; rfl), Frame.of_below k5⟩
theorem bt_gets (h : Bt w0 w a b Pa Pb Wy) {Qa : Ss.S → Prop} (A : Option Addr) (d : Ss.D) (m k : Nat) (hm : d.pay.length + 41 = m) (hk : m ≤ k) (hd : d.Ok) (hA : Txt a b w A d.enc) (P : Option Addr) (p : List UInt8) (n c : Nat) (hn : p.length = n) (hP : Txt a b w P p) (hp : d.pay = p)
    (hs : ∀ s, Pa s → s.news d = true ∧ Qa (s.recv d)) :
    Calls Tryd.prog 17 #[.pointer (some ⟨a, 0, none⟩), .slice A m k, .slice P n c] w fun e w' => e = .returned (.bool true) ∧ Bt w0 w' a b Qa Pb Wy ∧ Frame (AB a b) w w' := by
  obtain ⟨Fa, Fb, sa, sb, T, h1, h2, h3⟩ := h
  obtain ⟨hE, hD⟩ := Ss.read_enc d hd
  have := hd.pay160
  refine (gets_two T A d.enc m k (by rw [Ss.enc_length, hm]) hk (by omega) hA d hE hD (hs sa h1).1 P p n c hn hP hp).mono fun e w' ⟨k1, k2, k3⟩ => ?_
  exact ⟨k1, ⟨Fa, Fb, _, sb, k2, (hs sa h1).2, h2, fun j hj => by obtain ⟨x1, x2⟩ := h3 j hj; exact ⟨Nat.lt_of_lt_of_le x1 k3.size, x2⟩⟩, k3⟩
theorem bt_not (h : Bt w0 w a b Pa Pb Wy) {Qa : Ss.S → Prop} (A : Option Addr) (d : Ss.D) (m k : Nat) (hm : d.pay.length + 41 = m) (hk : m ≤ k) (hd : d.Ok) (hA : Txt a b w A d.enc)
    (hs : ∀ s, Pa s → s.news d = false ∧ Qa (s.recv d)) :
    Calls Tryd.prog 18 #[.pointer (some ⟨a, 0, none⟩), .slice A m k] w fun e w' => e = .returned (.bool true) ∧ Bt w0 w' a b Qa Pb Wy ∧ Frame (AB a b) w w' := by
  obtain ⟨Fa, Fb, sa, sb, T, h1, h2, h3⟩ := h
  obtain ⟨hE, hD⟩ := Ss.read_enc d hd
  have := hd.pay160
  refine (not_two T A d.enc m k (by rw [Ss.enc_length, hm]) hk (by omega) hA d hE hD (hs sa h1).1).mono fun e w' ⟨k1, k2, k3⟩ => ?_
  exact ⟨k1, ⟨Fa, Fb, _, sb, k2, (hs sa h1).2, h2, fun j hj => by obtain ⟨x1, x2⟩ := h3 j hj; exact ⟨Nat.lt_of_lt_of_le x1 k3.size, x2⟩⟩, k3⟩
theorem bt_waiting (h : Bt w0 w a b Pa Pb Wy) (n : Nat) (hs : ∀ s, Pa s → s.wait.length = n) : Calls Tryd.prog 12 #[.pointer (some ⟨a, 0, none⟩)] w fun e w' => e = .returned (.int .i64 (n : Int)) ∧ w = w' := by
  obtain ⟨Fa, Fb, sa, sb, T, h1, h2, h3⟩ := h
  have := waiting_any a Fa sa w T.a_
  rwa [hs sa h1] at this
theorem bt_other (h : Bt w0 w a b Pa Pb Wy) (n : Nat) (hs : ∀ s, Pa s → s.o.boot = n) : Calls Tryd.prog 11 #[.pointer (some ⟨a, 0, none⟩)] w fun e w' => e = .returned (.int .i64 (n : Int)) ∧ w = w' := by
  obtain ⟨Fa, Fb, sa, sb, T, h1, h2, h3⟩ := h
  have := other_any a Fa sa w T.a_
  rwa [hs sa h1] at this
/-- two new sessions -/
theorem bt_new {w1 w2 : World} {na nb : Nat} (ht : TabAt w0) (B1 : Below w0.heap.size w0 w1) (g : Nat) (h1 : SesAt w1 g (fun _ => False) (Ss.new na)) (hg : w0.heap.size ≤ g) (h2 : SesAt w2 w1.heap.size (fun _ => False) (Ss.new nb)) (B2 : Below w1.heap.size w1 w2) :
    Bt w0 w2 g w1.heap.size (fun s => s = Ss.new na) (fun s => s = Ss.new nb) (fun _ => False) := by
  have := h1.blt
  exact ⟨_, _, _, _, ⟨h1.step B2, h2, by omega, fun e => e, fun e => e, ht.below (step_trans B1 B2) (Nat.le_refl _), ⟨hg, B1.size, block_lt_of_cell (ht 0 (by decide))⟩, step_trans B1 B2⟩, rfl, rfl, fun j e => e.elim⟩
/-- a new session in the first one's place -/
theorem bt_anew {na : Nat} (h : Bt w0 w a b Pa Pb Wy) (h2 : SesAt w' w.heap.size (fun _ => False) (Ss.new na)) (B2 : Below w.heap.size w w') : Bt w0 w' w.heap.size b (fun s => s = Ss.new na) Pb (fun _ => False) := by
  obtain ⟨Fa, Fb, sa, sb, T, g1, g2, g3⟩ := h
  have lb := T.b_.blt
  exact ⟨_, Fb, _, sb, ⟨h2, T.b_.step B2, by omega, fun e => e, fun e => by have := T.b_.lt _ e; omega, T.tab.below B2 (Nat.le_refl _), ⟨T.fr.size, T.low.2.1, T.low.2.2⟩, step_trans T.fr B2⟩, rfl, g2, fun j e => e.elim⟩
theorem Txt.anew {A : Option Addr} {l : List UInt8} (h : Txt a b w A l) (B2 : Below w.heap.size w w') : Txt w.heap.size b w' A l := by
  refine ⟨h.at_.step B2, fun ad e hl => ?_⟩
  obtain ⟨ad', e', hb, _⟩ := h.at_ hl
  rw [e] at e'
  cases e'
  exact ⟨by omega, (h.far ad e hl).2⟩
end
end Go.Proofs.YtfopjilncfndnaaDoor
