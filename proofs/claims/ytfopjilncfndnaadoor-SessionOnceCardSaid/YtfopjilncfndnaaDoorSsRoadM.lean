/-
  A session that sends up to 16 payloads and hears nothing, and one that they come to: mathematics, and each call. Conditions: none.
-/
import Derived.Test.YtfopjilncfndnaaDoorSsBootsM
namespace Go.Proofs.YtfopjilncfndnaaDoor
open Go.RowKit Fix

/-- the payload k of the rows: its place ahead of it -/
def rdP (ms : List RowM) (k : Nat) : List UInt8 := UInt8.ofNat k :: (match ms[k]? with | some m => m.b | none => [])
def rdW (ms : List RowM) (i : Nat) : List (Nat × List UInt8) := (List.range i).map fun k => (k + 1, rdP ms k)
theorem rdW_length (ms : List RowM) (i : Nat) : (rdW ms i).length = i := by simp [rdW]
theorem rdW_succ (ms : List RowM) (i : Nat) : rdW ms (i + 1) = rdW ms i ++ [(i + 1, rdP ms i)] := by simp [rdW, List.range_succ]
/-- the sender: i were sent, all wait -/
def Ra (ms : List RowM) (i : Nat) (s : Ss.S) : Prop := s.boot = 7 ∧ s.sent = i ∧ s.o.boot = 0 ∧ s.wait = rdW ms i
theorem ra_send {ms : List RowM} {i : Nat} (hi : i < 16) {s : Ss.S} (h : Ra ms i s) : s.boot = 7 ∧ s.sent = i ∧ s.o.boot ≤ 0 ∧ Ra ms (i + 1) (s.send (rdP ms i)) := by
  obtain ⟨h1, h2, h3, h4⟩ := h
  refine ⟨h1, h2, by omega, h1, by show s.sent + 1 = _; omega, h3, ?_⟩
  show Ss.push s.wait (s.sent + 1, rdP ms i) = _
  unfold Ss.push
  rw [h4, rdW_length, if_pos hi, h2, rdW_succ]
theorem ra_wait {ms : List RowM} {i : Nat} {s : Ss.S} (h : Ra ms i s) : s.wait.length = i := by rw [h.2.2.2, rdW_length]
/-- what is known of a session of boot 7 -/
def kap (s : Ss.S) : Ss.K := if s.o.boot < 7 then ⟨7, 0, 0⟩ else s.o
/-- the one that they come to: which of the numbers came -/
def Rb (C : Nat → Bool) (s : Ss.S) : Prop := s.boot = 3 ∧ s.o.boot ≤ 7 ∧ (kap s).top ≤ 16 ∧ ∀ m, m < 16 → (kap s).has (m + 1) = C m
theorem rb_new : Rb (fun _ => false) (Ss.new 3) := ⟨rfl, by decide, by decide, fun m _ => by
  show (Ss.K.has ⟨7, 0, 0⟩ (m + 1)) = false
  unfold Ss.K.has
  rw [if_pos (Nat.succ_pos m)]⟩
def upd (C : Nat → Bool) (k m : Nat) : Bool := if m = k then true else C m
theorem rb_recv {C : Nat → Bool} {k : Nat} {s : Ss.S} (h : Rb C s) {d : Ss.D} (hb : d.boot = 7) (hn : d.num = k + 1) (hk : k < 16) : s.news d = !C k ∧ Rb (upd C k) (s.recv d) := by
  obtain ⟨h1, h2, h3, h4⟩ := h
  have hm : s.meet d = kap s := by unfold Ss.S.meet kap; rw [hb]
  have hmb : (kap s).boot = 7 := by
    unfold kap
    split
    · rfl
    · omega
  obtain ⟨t1, t2, t3⟩ := told_same s d
  have hh := h4 k hk
  refine ⟨by unfold Ss.S.news; rw [hm, hn, hh, decide_eq_true (by omega), decide_eq_true (by omega)]; rfl, ?_⟩
  cases hC : C k with
  | true =>
    have e : s.recv d = { s.told d with o := kap s } := by
      unfold Ss.S.recv
      rw [if_neg (by omega), hm, if_pos (.inr (by rw [hn, hh, hC]))]
    have ek : kap (s.recv d) = kap s := by
      rw [e]; unfold kap
      show (if (kap s).boot < 7 then _ else kap s) = kap s
      rw [if_neg (by omega)]
    refine ⟨by rw [e]; exact t1.trans h1, by rw [e]; show (kap s).boot ≤ 7; omega, by rw [ek]; exact h3, fun m hm16 => ?_⟩
    rw [ek, h4 m hm16]
    unfold upd
    split
    · rename_i x; rw [x, hC]
    · rfl
  | false =>
    have hno : (kap s).has (k + 1) = false := by rw [hh, hC]
    have e : s.recv d = { s.told d with o := (kap s).add (k + 1) } := by
      unfold Ss.S.recv
      rw [if_neg (by omega), hm, if_neg (by rw [hn, hno]; simp), hn]
    have ek : kap (s.recv d) = (kap s).add (k + 1) := by
      rw [e]; unfold kap
      show (if ((kap s).add (k + 1)).boot < 7 then _ else (kap s).add (k + 1)) = (kap s).add (k + 1)
      rw [Ss.add_boot, if_neg (by omega)]
    have htop : ((kap s).add (k + 1)).top ≤ 16 := by rw [Ss.add_top]; omega
    refine ⟨by rw [e]; exact t1.trans h1, by rw [e]; show ((kap s).add (k + 1)).boot ≤ 7; rw [Ss.add_boot]; omega, by rw [ek]; exact htop, fun m hm16 => ?_⟩
    rw [ek, Ss.has_add (k + 1) (by omega) hno (m + 1) (by omega), h4 m hm16, decide_eq_false (by omega : ¬ m + 1 + 64 < ((kap s).add (k + 1)).top), Bool.or_false]
    unfold upd
    by_cases x : m = k
    · rw [if_pos x, decide_eq_true (by omega)]; rfl
    · rw [if_neg x, decide_eq_false (by omega)]; rfl
/-- an Ack of the one that all came to -/
theorem ra_ack {ms : List RowM} {n : Nat} {C : Nat → Bool} (hn : n ≤ 16) {s t : Ss.S} (h : Ra ms n s) (ht : Rb C t) (hC : ∀ k, k < n → C k = true) : s.news (t.dat (0, [])) = false ∧ (s.recv (t.dat (0, []))).wait = [] := by
  obtain ⟨h1, h2, h3, h4⟩ := h
  obtain ⟨g1, g2, g3, g4⟩ := ht
  refine ⟨by unfold Ss.S.news; show (_ && decide ((0 : Nat) ≠ 0) && _) = false; simp, ?_⟩
  have e : (s.recv (t.dat (0, []))).wait = (s.told (t.dat (0, []))).wait := by
    unfold Ss.S.recv
    split
    · rfl
    · rw [if_pos (.inl rfl)]
  rw [e]
  rcases Nat.eq_zero_or_pos n with h0 | h0
  · have hw : s.wait = [] := by rw [h4, h0]; rfl
    unfold Ss.S.told
    split
    · show s.wait.filter _ = []
      rw [hw]; rfl
    · exact hw
  · have h7 : ¬ t.o.boot < 7 := fun x => by
      have := g4 0 (by omega)
      rw [hC 0 h0] at this
      unfold kap at this
      rw [if_pos x] at this
      revert this
      decide
    have hk : kap t = t.o := by unfold kap; rw [if_neg h7]
    have hb : (t.dat (0, [])).o.boot = s.boot := by show t.o.boot = s.boot; omega
    unfold Ss.S.told
    rw [if_pos hb]
    show s.wait.filter (fun m => !t.o.has m.1) = []
    rw [h4, List.filter_eq_nil_iff]
    intro m hm
    simp only [rdW, List.mem_map, List.mem_range] at hm
    obtain ⟨k, hk1, rfl⟩ := hm
    have := g4 k (by omega)
    rw [hk, hC k hk1] at this
    show ¬ (!t.o.has (k + 1)) = true
    rw [this]
    decide
section
variable {w0 w w' : World} {a b : Nat} {Pa Pb : Ss.S → Prop} {Wy : Nat → Prop}
theorem bt_recv (h : Bt w0 w a b Pa Pb Wy) {Qa : Ss.S → Prop} (A : Option Addr) (d : Ss.D) (m k : Nat) (x : Bool) (hm : d.pay.length + 41 = m) (hk : m ≤ k) (hd : d.Ok) (hA : Txt a b w A d.enc) (hs : ∀ s, Pa s → s.news d = x ∧ Qa (s.recv d)) :
    Calls Tryd.prog 38 #[.pointer (some ⟨a, 0, none⟩), .slice A m k] w fun e w' => ∃ A' c', e = .returned (.tuple #[.slice A' (if x = true then d.pay else []).length c', .bool x, .int .i64 0]) ∧ Bt w0 w' a b Qa Pb Wy ∧ Txt a b w' A' (if x = true then d.pay else []) ∧ (if x = true then d.pay else []).length ≤ c' ∧ Frame (AB a b) w w' := by
  obtain ⟨Fa, Fb, sa, sb, T, h1, h2, h3⟩ := h
  obtain ⟨hE, hD⟩ := Ss.read_enc d hd
  have := hd.pay160
  obtain ⟨hx, hq⟩ := hs sa h1
  refine (recv_any a Fa sa w T.a_ T.tab A d.enc m k (by rw [Ss.enc_length, hm]) hk (by omega) hA.at_).mono fun e w' ⟨A', c', k1, k2, k3, k4, k5⟩ => ?_
  rw [hE, hD, hx] at k1
  rw [hE, hD, hx] at k3
  rw [if_pos hE, hD] at k4
  have e1 : (if (0 : Int) = 0 ∧ x = true then d.pay else []) = if x = true then d.pay else [] := by simp
  rw [e1] at k1 k3
  refine ⟨A', c', by rw [k1]; simp, ⟨Fa, Fb, _, sb, T.chg k4 (fun j hj => .inl hj) k5, hq, h2, fun j hj => by obtain ⟨x1, x2⟩ := h3 j hj; exact ⟨Nat.lt_of_lt_of_le x1 k5.size, x2⟩⟩, ⟨k3.bytes, fun ad e hl => ?_⟩, k3.cap, chg_fr k5⟩
  have := k3.new ad e hl
  have ha := T.a_.blt
  have hb := T.b_.blt
  exact ⟨by omega, by omega⟩
/-- what Resend tells: the datagrams in new blocks, which stay whatever older ones become -/
def RsTold (W : List (Nat × List UInt8)) (a b base : Nat) (w' : World) (A : Option Addr) : Prop :=
  ∀ k m, W[k]? = some m → ∃ (g : Nat) (A1 : Option Addr) (n c : Nat) (d : Ss.D), A = some ⟨g, 0, none⟩ ∧ d.Ok ∧ d.boot = 7 ∧ d.num = m.1 ∧ d.pay = m.2 ∧ m.2.length + 41 = n ∧ n ≤ c ∧ ∀ v, Frame (fun j => j < base) w' v → v.cell? ⟨g, k, none⟩ = some (.slice A1 n c) ∧ Txt a b v A1 d.enc
theorem bt_resend (h : Bt w0 w a b Pa Pb Wy) (W : List (Nat × List UInt8)) (hs : ∀ s, Pa s → s.boot = 7 ∧ s.wait = W) :
    Calls Tryd.prog 27 #[.pointer (some ⟨a, 0, none⟩)] w fun e w' => ∃ A c, e = .returned (.slice A W.length c) ∧ RsTold W a b w.heap.size w' A ∧ Bt w0 w' a b Pa Pb Wy ∧ Below w.heap.size w w' := by
  obtain ⟨Fa, Fb, sa, sb, T, h1, h2, h3⟩ := h
  obtain ⟨q1, q2⟩ := hs sa h1
  have la := T.a_.blt
  have lb := T.b_.blt
  have hok := T.a_.ok
  refine (resend_any a Fa sa w T.a_ T.tab).mono fun e w' ⟨A, c, vs, k1, k2, k3, k4⟩ => ?_
  refine ⟨A, c, by rw [k1, q2], fun k m hm => ?_, Bt.step ⟨Fa, Fb, sa, sb, T, h1, h2, h3⟩ k4, k4⟩
  rw [← q2] at hm
  have hmem := List.mem_of_getElem? hm
  have hp := hok.pay m hmem
  have hkl := (List.getElem?_eq_some_iff.1 hm).1
  obtain ⟨B, b1, b2, b3, b4⟩ := k3.at_
  have hlen := k3.len
  have hdl : (dats sa sa.wait).length = sa.wait.length := by simp [dats]
  have hv := List.getElem?_eq_getElem (show k < vs.length by omega)
  have he : (dats sa sa.wait)[k]? = some (sa.dat m).enc := by simp [dats, hm]
  obtain ⟨o1, o2⟩ := b4 k _ _ hv he
  obtain ⟨g, hg, hg1, hg2, _⟩ := k2.at_g (by omega)
  subst hg
  have hBk : w.heap.size ≤ B k := by have := upto_le b2 0 k; rw [Nat.zero_add] at this; omega
  obtain ⟨A1, c1, hu, hc1⟩ := o1.form
  rw [hu] at o1 hv
  have hcell := k2.cell hv
  have el := Ss.enc_length (sa.dat m)
  refine ⟨g, A1, _, c1, sa.dat m, rfl, Ss.dat_ok hok m (.inr hp), q1, rfl, rfl, el.symm, hc1, fun v fr => ?_⟩
  refine ⟨(World.cell?_of_block (w := w') (fr.block g hg2 (by omega))).trans hcell, ?_⟩
  have t1 : Txt a b w' A1 (sa.dat m).enc := by
    refine ⟨o1.own.bytes, fun ad e _ => ?_⟩
    subst e
    have := (o1.lt ad.block rfl).1
    exact ⟨by omega, by omega⟩
  refine ⟨fr.bytes t1.at_ fun ad e x => ?_, t1.far⟩
  subst e
  have := (o1.lt ad.block rfl).1
  omega
end
end Go.Proofs.YtfopjilncfndnaaDoor
