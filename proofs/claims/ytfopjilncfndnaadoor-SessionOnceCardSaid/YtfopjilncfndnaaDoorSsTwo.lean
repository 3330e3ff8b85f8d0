/-
  Two sessions side by side: each call of one of them; gets, not, awake. Conditions: the table of crc lies as the program's text lays it.
-/
import Derived.Test.YtfopjilncfndnaaDoorSsRecv
import Derived.Test.YtfopjilncfndnaaDoorBa
namespace Go.Proofs.YtfopjilncfndnaaDoor
open Go.RowKit Fix

/-- two sessions, made behind w0 -/
structure TwoAt (w0 w : World) (a b : Nat) (Fa Fb : Nat → Prop) (sa sb : Ss.S) : Prop where
  a_ : SesAt w a Fa sa
  b_ : SesAt w b Fb sb
  ne : a ≠ b
  fa : ¬ Fa b
  fb : ¬ Fb a
  tab : TabAt w
  low : w0.heap.size ≤ a ∧ w0.heap.size ≤ b ∧ 0 < w0.heap.size
  fr : Below w0.heap.size w0 w
/-- bytes that lie beside both sessions -/
structure Txt (a b : Nat) (w : World) (A : Option Addr) (l : List UInt8) : Prop where
  at_ : BytesAt w w.heap.size A l
  far : ∀ ad, A = some ad → l ≠ [] → ad.block ≠ a ∧ ad.block ≠ b
abbrev AB (a b : Nat) : Nat → Prop := fun j => j = a ∨ j = b
section
variable {w0 w w' : World} {a b : Nat} {Fa Fb : Nat → Prop} {sa sb : Ss.S}
theorem TwoAt.swap (h : TwoAt w0 w a b Fa Fb sa sb) : TwoAt w0 w b a Fb Fa sb sa := ⟨h.b_, h.a_, fun e => h.ne e.symm, h.fb, h.fa, h.tab, ⟨h.low.2.1, h.low.1, h.low.2.2⟩, h.fr⟩
theorem Txt.swap {A : Option Addr} {l : List UInt8} (h : Txt a b w A l) : Txt b a w A l := ⟨h.at_, fun ad e hl => (h.far ad e hl).symm⟩
theorem AB.swap {w w' : World} (h : Frame (AB a b) w w') : Frame (AB b a) w w' := h.mono fun _ e => e.symm
theorem TwoAt.step (h : TwoAt w0 w a b Fa Fb sa sb) (B : Below w.heap.size w w') : TwoAt w0 w' a b Fa Fb sa sb :=
  ⟨h.a_.step B, h.b_.step B, h.ne, h.fa, h.fb, h.tab.below B (Nat.le_refl _), h.low, step_trans h.fr B⟩
theorem Txt.frame {A : Option Addr} {l : List UInt8} (h : Txt a b w A l) (fr : Frame (AB a b) w w') : Txt a b w' A l := by
  refine ⟨?_, h.far⟩
  by_cases hl : l = []
  · subst hl; exact bytes_nil
  · exact fr.bytes h.at_ fun ad e x => x.elim (fun y => (h.far ad e hl).1 y) fun y => (h.far ad e hl).2 y
theorem Txt.step {A : Option Addr} {l : List UInt8} (h : Txt a b w A l) (B : Below w.heap.size w w') : Txt a b w' A l := h.frame (Frame.of_below B)
/-- a new block of bytes -/
theorem TwoAt.txt (h : TwoAt w0 w a b Fa Fb sa sb) (l : List UInt8) (g : Nat) (hg : g = w.heap.size) (t : TypeId) (fr : Nat × Nat) : Txt a b (w.alloc (.cells (cellsOfBytes l).toArray t fr)) (some ⟨g, 0, none⟩) l := by
  subst hg
  refine ⟨(bytes_new w l t fr).more (by simp), fun ad e _ => ?_⟩
  cases e
  have h1 := h.a_.blt
  have h2 := h.b_.blt
  exact ⟨by show w.heap.size ≠ a; omega, by show w.heap.size ≠ b; omega⟩
theorem TwoAt.own (h : TwoAt w0 w a b Fa Fb sa sb) {A : Option Addr} {n c : Nat} {l : List UInt8} {w' : World} (o : OwnZ w' w.heap.size (.slice A n c) l) : Txt a b w' A l := by
  refine ⟨o.own.bytes, fun ad e _ => ?_⟩
  subst e
  have := (o.lt ad.block rfl).1
  have h1 := h.a_.blt
  have h2 := h.b_.blt
  exact ⟨by omega, by omega⟩
/-- what a call of the first one leaves -/
theorem TwoAt.chg (h : TwoAt w0 w a b Fa Fb sa sb) {Fa' : Nat → Prop} {sa' : Ss.S} (h2 : SesAt w' a Fa' sa') (hF : ∀ j, Fa' j → Fa j ∨ w.heap.size ≤ j) (fr : Frame (fun j => j = a) w w') : TwoAt w0 w' a b Fa' Fb sa' sb := by
  have hb := h.b_.blt
  refine ⟨h2, h.b_.frame fr (fun e => h.ne e.symm) (fun j hj e => h.fb (e ▸ hj)), h.ne, fun e => (hF _ e).elim h.fa fun y => by omega, h.fb, h.tab.frame fr (fun e => by have := h.low; omega), h.low, ?_⟩
  exact h.fr.trans (fr.below (B := w0.heap.size) (fun j e => by have := h.low.1; omega) h.fr.size)
theorem chg_fr (h : Frame (fun j => j = a) w w') : Frame (AB a b) w w' := h.mono fun _ e => .inl e
theorem send_two (h : TwoAt w0 w a b Fa Fb sa sb) (P : Option Addr) (p : List UInt8) (n c : Nat) (hn : p.length = n) (hP : Txt a b w P p) (hP0 : ∀ ad, P = some ad → ad.block ≠ a) (he : sa.sendE p = 0) :
    Calls Tryd.prog 16 #[.pointer (some ⟨a, 0, none⟩), .slice P n c] w fun e w' => ∃ Fa' A c', e = .returned (.tuple #[.slice A (n + 41) c', .int .i64 0]) ∧ n + 41 ≤ c' ∧ TwoAt w0 w' a b Fa' Fb (sa.send p) sb ∧ Txt a b w' A ((sa.send p).dat (sa.sent + 1, p)).enc ∧ Frame (AB a b) w w' := by
  refine (send_ok a Fa sa w h.a_ h.tab (fun e => by have := h.low; omega) P p n c hn hP.at_ (fun _ => hP0) he).mono fun e w' ⟨F', A, c', h1, h2, h3, h4, h5, h6, h7, h8⟩ => ?_
  exact ⟨F', A, c', h1, h2, h.chg h4 h5 h8, h.own h6, chg_fr h8⟩
theorem ack_two (h : TwoAt w0 w a b Fa Fb sa sb) :
    Calls Tryd.prog 25 #[.pointer (some ⟨a, 0, none⟩)] w fun e w' => ∃ A c', e = .returned (.tuple #[.slice A 41 c', .int .i64 0]) ∧ 41 ≤ c' ∧ TwoAt w0 w' a b Fa Fb sa sb ∧ Txt a b w' A (sa.dat (0, [])).enc ∧ Frame (AB a b) w w' := by
  refine (ack_any a Fa sa w h.a_ h.tab).mono fun e w' ⟨A, c', h1, h2, h3, h4, h5⟩ => ?_
  exact ⟨A, c', h1, h2, h.step h5, h.own h4, Frame.of_below h5⟩
theorem recv_two (h : TwoAt w0 w a b Fa Fb sa sb) (A : Option Addr) (l : List UInt8) (n c : Nat) (hn : l.length = n) (hc : n ≤ c) (h1 : n ≤ 1000) (hA : Txt a b w A l) (d : Ss.D) (hE : Ss.readE l = 0) (hD : Ss.readD l = d) :
    Calls Tryd.prog 38 #[.pointer (some ⟨a, 0, none⟩), .slice A n c] w fun e w' => ∃ A' c', e = .returned (.tuple #[.slice A' (if sa.news d = true then d.pay else []).length c', .bool (sa.news d), .int .i64 0]) ∧ TwoAt w0 w' a b Fa Fb (sa.recv d) sb ∧ Txt a b w' A' (if sa.news d = true then d.pay else []) ∧ Frame (AB a b) w w' := by
  refine (recv_any a Fa sa w h.a_ h.tab A l n c hn hc h1 hA.at_).mono fun e w' ⟨A', c', h1, h2, h3, h4, h5⟩ => ?_
  rw [hE, hD] at h1
  rw [hE, hD] at h3
  rw [if_pos hE, hD] at h4
  have e1 : (if (0 : Int) = 0 ∧ sa.news d = true then d.pay else []) = if sa.news d = true then d.pay else [] := by simp
  rw [e1] at h1 h3
  refine ⟨A', c', by rw [h1]; simp, h.chg h4 (fun j hj => .inl hj) h5, ⟨h3.bytes, fun ad e hl => ?_⟩, chg_fr h5⟩
  have := h3.new ad e hl
  have ha := h.a_.blt
  have hb := h.b_.blt
  exact ⟨by omega, by omega⟩
set_option maxRecDepth 100000 in
theorem gets_two (h : TwoAt w0 w a b Fa Fb sa sb) (A : Option Addr) (l : List UInt8) (n c : Nat) (hn : l.length = n) (hc : n ≤ c) (h1 : n ≤ 1000) (hA : Txt a b w A l) (d : Ss.D) (hE : Ss.readE l = 0) (hD : Ss.readD l = d) (hN : sa.news d = true)
    (P : Option Addr) (p : List UInt8) (m c2 : Nat) (hm : p.length = m) (hP : Txt a b w P p) (hp : d.pay = p) :
    Calls Tryd.prog 17 #[.pointer (some ⟨a, 0, none⟩), .slice A n c, .slice P m c2] w fun e w' => e = .returned (.bool true) ∧ TwoAt w0 w' a b Fa Fb (sa.recv d) sb ∧ Frame (AB a b) w w' := by
  have z := recv_two h A l n c hn hc h1 hA d hE hD
  rw [hN, if_pos rfl, hp, hm] at z
  have zs := fun A' c' (w1 : World) (t1 : Txt a b w1 A' p) (t2 : Txt a b w1 P p) => same_yes A' p m c' hm P p m c2 hm w1 t1.at_ t2.at_ rfl
  have HP := Lib.hid hP
  clear hn hc h1 hA hE hD hN hm hP hp h
  go_enter Tryd.func17, Tryd.ntmps17
  go_wp2_with (first
    | (go_at_call 38; refine z.mono ?_; (rintro e w1 ⟨A1, c1, rfl, T1, x1, F1⟩; have x2 := HP.out.frame F1; have zs1 := zs A1 c1 w1 x1 x2; have H1 := Lib.hid (And.intro T1 F1); clear T1 F1 x1 x2))
    | (go_at_call 39; refine zs1.mono ?_; (rintro e w2 ⟨rfl, rfl⟩)))
  go_ret
  exact ⟨rfl, H1.out.1, H1.out.2⟩
set_option maxRecDepth 100000 in
theorem not_two (h : TwoAt w0 w a b Fa Fb sa sb) (A : Option Addr) (l : List UInt8) (n c : Nat) (hn : l.length = n) (hc : n ≤ c) (h1 : n ≤ 1000) (hA : Txt a b w A l) (d : Ss.D) (hE : Ss.readE l = 0) (hD : Ss.readD l = d) (hN : sa.news d = false) :
    Calls Tryd.prog 18 #[.pointer (some ⟨a, 0, none⟩), .slice A n c] w fun e w' => e = .returned (.bool true) ∧ TwoAt w0 w' a b Fa Fb (sa.recv d) sb ∧ Frame (AB a b) w w' := by
  have z := recv_two h A l n c hn hc h1 hA d hE hD
  rw [hN] at z
  simp only [Bool.false_eq_true, if_false, List.length_nil] at z
  clear hn hc h1 hA hE hD hN h
  go_enter Tryd.func18, Tryd.ntmps18
  go_wp2_with (go_at_call 38; refine z.mono ?_; (rintro e w1 ⟨A1, c1, rfl, T1, x1, F1⟩; have H1 := Lib.hid (And.intro T1 F1); clear T1 F1 x1))
  go_ret
  exact ⟨rfl, H1.out.1, H1.out.2⟩
end
theorem new_at (i : Int) (n : Nat) (hi : i = (n : Int)) (w : World) (h1 : 1 ≤ n) (h2 : n ≤ 1099511627776) : Calls Tryd.prog 6 #[.int .i64 i] w fun e w' => e = .returned (.tuple #[.pointer (some ⟨w.heap.size, 0, none⟩), .int .i64 0]) ∧ SesAt w' w.heap.size (fun _ => False) (Ss.new n) ∧ Below w.heap.size w w' := by
  subst hi
  exact new_yes n w h1 h2
/-- two new sessions -/
theorem two_new {w0 w1 w2 : World} {na nb : Nat} (ht : TabAt w0) (B1 : Below w0.heap.size w0 w1) (h1 : SesAt w1 w0.heap.size (fun _ => False) (Ss.new na)) (h2 : SesAt w2 w1.heap.size (fun _ => False) (Ss.new nb)) (B2 : Below w1.heap.size w1 w2) :
    TwoAt w0 w2 w0.heap.size w1.heap.size (fun _ => False) (fun _ => False) (Ss.new na) (Ss.new nb) := by
  have := h1.blt
  exact ⟨h1.step B2, h2, by omega, fun e => e, fun e => e, ht.below (step_trans B1 B2) (Nat.le_refl _), ⟨Nat.le_refl _, B1.size, block_lt_of_cell (ht 0 (by decide))⟩, step_trans B1 B2⟩
end Go.Proofs.YtfopjilncfndnaaDoor
