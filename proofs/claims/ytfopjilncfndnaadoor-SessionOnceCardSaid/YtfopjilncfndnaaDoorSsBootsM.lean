/-
  A list of datagrams beside two sessions; what a session becomes when it sends and when something comes. Conditions: none.
-/
import Derived.Test.YtfopjilncfndnaaDoorSsBoots
import Derived.Test.YtfopjilncfndnaaDoorSsResend
namespace Go.Proofs.YtfopjilncfndnaaDoor
open Go.RowKit Fix

/-- a session of boot x that sent i; of the other one, of boot ob, no number beyond t came -/
def Si (x ob i t : Nat) (s : Ss.S) : Prop := s.boot = x ∧ s.sent = i ∧ s.o.boot ≤ ob ∧ (s.o.boot = ob → s.o.top ≤ t)
theorem si_send {x ob i t : Nat} {s : Ss.S} (h : Si x ob i t s) (p : List UInt8) : s.boot = x ∧ s.sent = i ∧ s.o.boot ≤ ob ∧ Si x ob (i + 1) t (s.send p) := by
  obtain ⟨h1, h2, h3, h4⟩ := h
  exact ⟨h1, h2, h3, h1, by show s.sent + 1 = _; omega, h3, h4⟩
theorem told_same (s : Ss.S) (d : Ss.D) : (s.told d).boot = s.boot ∧ (s.told d).sent = s.sent ∧ (s.told d).o = s.o := by
  unfold Ss.S.told
  split <;> exact ⟨rfl, rfl, rfl⟩
/-- a number beyond all that came -/
theorem news_beyond {s : Ss.S} {d : Ss.D} (h1 : s.o.boot ≤ d.boot) (h2 : s.o.boot = d.boot → s.o.top < d.num) (h3 : 0 < d.num) :
    s.news d = true ∧ (s.recv d).boot = s.boot ∧ (s.recv d).sent = s.sent ∧ (s.recv d).o.boot = d.boot ∧ (s.recv d).o.top = d.num := by
  have hm : (s.meet d).boot = d.boot ∧ (s.meet d).top < d.num := by
    unfold Ss.S.meet
    split
    · exact ⟨rfl, h3⟩
    · have : s.o.boot = d.boot := by omega
      exact ⟨this, h2 this⟩
  have hh : (s.meet d).has d.num = false := by
    unfold Ss.K.has
    rw [if_pos hm.2]
  obtain ⟨t1, t2, _⟩ := told_same s d
  refine ⟨by unfold Ss.S.news; rw [hh, decide_eq_true h1, decide_eq_true (by omega)]; rfl, ?_⟩
  have e : s.recv d = { s.told d with o := (s.meet d).add d.num } := by
    unfold Ss.S.recv
    rw [if_neg (by omega), if_neg (by rw [hh]; simp; omega)]
  rw [e]
  refine ⟨t1, t2, ?_, ?_⟩
  · show ((s.meet d).add d.num).boot = _
    rw [Ss.add_boot]; exact hm.1
  · show ((s.meet d).add d.num).top = _
    rw [Ss.add_top]; have := hm.2; omega
theorem si_gets {x ob i t n : Nat} {s : Ss.S} {d : Ss.D} (h : Si x ob i t s) (hb : d.boot = ob) (hn : d.num = n) (ht : t < n) : s.news d = true ∧ Si x ob i n (s.recv d) := by
  obtain ⟨h1, h2, h3, h4⟩ := h
  obtain ⟨a1, a2, a3, a4, a5⟩ := news_beyond (s := s) (d := d) (by omega) (fun e => by have := h4 (by omega); omega) (by omega)
  exact ⟨a1, by omega, by omega, by omega, fun _ => by omega⟩
/-- a datagram of an older session of the other one -/
theorem news_older {s : Ss.S} {d : Ss.D} (h1 : d.boot < s.o.boot) : s.news d = false ∧ (s.recv d).boot = s.boot ∧ (s.recv d).o = s.o := by
  obtain ⟨t1, _, t3⟩ := told_same s d
  refine ⟨by unfold Ss.S.news; rw [decide_eq_false (by omega)]; rfl, ?_⟩
  unfold Ss.S.recv
  rw [if_pos h1]
  exact ⟨t1, t3⟩
/-- a datagram without a payload, that speaks of another session -/
theorem news_ack {s : Ss.S} {d : Ss.D} (h1 : d.num = 0) (h2 : s.o.boot ≤ d.boot) (h3 : d.o.boot ≠ s.boot) : s.news d = false ∧ (s.recv d).wait = s.wait := by
  refine ⟨by unfold Ss.S.news; rw [h1]; simp, ?_⟩
  unfold Ss.S.recv Ss.S.told
  rw [if_neg (by omega), if_pos (.inl h1), if_neg h3]
/-- a list of datagrams of boot 3 in a block of its own -/
structure DgWay (w : World) (base a b : Nat) (vx : Value) (vs : List Value) : Prop where
  own : OwnR 39 w base vx vs
  el : ∀ v ∈ vs, ∃ (A : Option Addr) (n c : Nat) (d : Ss.D), v = .slice A n c ∧ d.pay.length + 41 = n ∧ n ≤ c ∧ d.Ok ∧ d.boot = 3 ∧ Txt a b w A d.enc ∧ ∀ ad, A = some ad → vx.ownBlock ≠ some ad.block
section
variable {w w' : World} {base a b : Nat} {vx v' : Value} {vs : List Value}
theorem DgWay.frame (h : DgWay w base a b vx vs) (ha : a < base) (hb : b < base) (fr : Frame (AB a b) w w') : DgWay w' base a b vx vs := by
  refine ⟨own_keep h.own fun j h1 h2 => fr.block j h2 fun e => by rcases e with e | e <;> omega, fun v hv => ?_⟩
  obtain ⟨A, n, c, d, e1, e2, e3, e4, e5, e6, e7⟩ := h.el v hv
  exact ⟨A, n, c, d, e1, e2, e3, e4, e5, e6.frame fr, e7⟩
theorem enc_ne (d : Ss.D) : d.enc ≠ [] := fun e => by have := Ss.enc_length d; rw [e] at this; simp at this
theorem DgWay.push (h : DgWay w base a b vx vs) (hg : w.grownBy w' vx.ownBlock) (A : Option Addr) (n c : Nat) (d : Ss.D) (own : OwnR 39 w' base v' (vs ++ [.slice A n c])) (hat : v'.ownBlock = vx.ownBlock ∨ v'.ownBlock = some w.heap.size)
    (e2 : d.pay.length + 41 = n) (e3 : n ≤ c) (e4 : d.Ok) (e5 : d.boot = 3) (e6 : Txt a b w A d.enc) (e7 : ∀ ad, A = some ad → vx.ownBlock ≠ some ad.block) : DgWay w' base a b v' (vs ++ [.slice A n c]) := by
  have key : ∀ (A : Option Addr) (d : Ss.D), Txt a b w A d.enc → (∀ ad, A = some ad → vx.ownBlock ≠ some ad.block) → Txt a b w' A d.enc ∧ ∀ ad, A = some ad → v'.ownBlock ≠ some ad.block := fun A d hx h7 => by
    refine ⟨⟨(Frame.of_grown hg).bytes hx.at_ fun ad e => h7 ad e, hx.far⟩, fun ad e y => ?_⟩
    rcases hat with k | k
    · exact h7 ad e (by rw [← k]; exact y)
    · rw [k] at y
      injection y with y
      obtain ⟨ad', e', hlt, _⟩ := hx.at_ (enc_ne d)
      rw [e] at e'
      cases e'
      omega
  refine ⟨own, fun v hv => ?_⟩
  rcases List.mem_append.1 hv with hv | hv
  · obtain ⟨A, n, c, d, g1, g2, g3, g4, g5, g6, g7⟩ := h.el v hv
    obtain ⟨k1, k2⟩ := key A d g6 g7
    exact ⟨A, n, c, d, g1, g2, g3, g4, g5, k1, k2⟩
  · obtain ⟨k1, k2⟩ := key A d e6 e7
    exact ⟨A, n, c, d, by simpa using hv, e2, e3, e4, e5, k1, k2⟩
/-- the block of the list is none of the sessions' -/
abbrev Wb (vx : Value) : Nat → Prop := fun j => vx.ownBlock = some j
theorem Bt.push {w0 : World} {Pa Pb : Ss.S → Prop} (h : Bt w0 w a b Pa Pb (Wb vx)) (hg : w.grownBy w' vx.ownBlock) (own : OwnR 39 w' base v' vs) (hat : v'.ownBlock = vx.ownBlock ∨ v'.ownBlock = some w.heap.size) : Bt w0 w' a b Pa Pb (Wb v') := by
  refine h.wrote (Frame.of_grown hg) fun j hj => ?_
  rcases hat with k | k
  · exact .inl (show vx.ownBlock = some j by rw [← k]; exact hj)
  · have := (own.lt j hj).2
    have e : some w.heap.size = some j := k.symm.trans hj
    injection e with e
    exact .inr ⟨by omega, this⟩
end
theorem Si.more {x ob i t t2 : Nat} (h : t ≤ t2) (s : Ss.S) (a : Si x ob i t s) : Si x ob i t2 s := ⟨a.1, a.2.1, a.2.2.1, fun e => Nat.le_trans (a.2.2.2 e) h⟩
/-- what stands at the head of the first loop -/
structure Bo1 (w0 w : World) (base a b i : Nat) (vx : Value) (vs : List Value) : Prop where
  bt : Bt w0 w a b (Si 3 9 i i) (Si 9 3 i i) (Wb vx)
  len : vs.length = i
  way : DgWay w base a b vx vs
  ab : a < base ∧ b < base ∧ base ≤ w.heap.size
/-- both have sent -/
structure Bo2 (w0 w : World) (base a b i ta tb : Nat) (vx : Value) (vs : List Value) (p : List UInt8) (A4 : Option Addr) (d4 : Ss.D) (A5 : Option Addr) (d5 : Ss.D) : Prop where
  bt : Bt w0 w a b (Si 3 9 (i + 1) ta) (Si 9 3 (i + 1) tb) (Wb vx)
  len : vs.length = i
  way : DgWay w base a b vx vs
  ab : a < base ∧ b < base ∧ base ≤ w.heap.size
  x4 : Txt a b w A4 d4.enc
  x5 : Txt a b w A5 d5.enc
  g4 : Dg d4 3 (i + 1) 9 p
  g5 : Dg d5 9 (i + 1) 3 p
  f4 : ∀ ad, A4 = some ad → vx.ownBlock ≠ some ad.block
section
variable {w0 w w' : World} {base a b i ta tb : Nat} {vx : Value} {vs : List Value} {p : List UInt8} {A4 A5 : Option Addr} {d4 d5 : Ss.D}
theorem bo_send_a (h : Bo1 w0 w base a b i vx vs) (P : Option Addr) (n c : Nat) (hn : p.length = n) (h100 : n ≤ 100) (hi : i < 1000) (hP : BytesAt w0 w0.heap.size P p) :
    Calls Tryd.prog 16 #[.pointer (some ⟨a, 0, none⟩), .slice P n c] w fun e w' => ∃ A c' d, e = .returned (.tuple #[.slice A (n + 41) c', .int .i64 0]) ∧ n + 41 ≤ c' ∧ Bt w0 w' a b (Si 3 9 (i + 1) i) (Si 9 3 i i) (Wb vx) ∧ Txt a b w' A d.enc ∧ Dg d 3 (i + 1) 9 p ∧ (∀ ad, A = some ad → vx.ownBlock ≠ some ad.block) ∧ DgWay w' base a b vx vs ∧ base ≤ w'.heap.size := by
  refine (bt_send h.bt 3 i 9 P p n c hn (by omega) hi (h.bt.txt hP) fun s k => si_send k p).mono fun e w' ⟨A, c', d, k1, k2, k3, k4, k5, k6, k7⟩ => ?_
  exact ⟨A, c', d, k1, k2, k3, k4, k5, fun ad e y => by have := (k6 ad e).1; have := (h.way.own.lt _ y).2; omega, h.way.frame h.ab.1 h.ab.2.1 k7, Nat.le_trans h.ab.2.2 k7.size⟩
theorem bo_send_b (h1 : vs.length = i) (h2 : a < base ∧ b < base) (A : Option Addr) (d : Ss.D) (k3 : Bt w0 w a b (Si 3 9 (i + 1) i) (Si 9 3 i i) (Wb vx)) (k4 : Txt a b w A d.enc) (k5 : Dg d 3 (i + 1) 9 p) (k6 : ∀ ad, A = some ad → vx.ownBlock ≠ some ad.block) (k7 : DgWay w base a b vx vs) (k8 : base ≤ w.heap.size)
    (P : Option Addr) (n c : Nat) (hn : p.length = n) (h100 : n ≤ 100) (hi : i < 1000) (hP : BytesAt w0 w0.heap.size P p) :
    Calls Tryd.prog 16 #[.pointer (some ⟨b, 0, none⟩), .slice P n c] w fun e w' => ∃ A5 c' d5, e = .returned (.tuple #[.slice A5 (n + 41) c', .int .i64 0]) ∧ n + 41 ≤ c' ∧ Bo2 w0 w' base a b i i i vx vs p A d A5 d5 := by
  refine (bt_send k3.swap 9 i 3 P p n c hn (by omega) hi (k3.swap.txt hP) fun s k => si_send k p).mono fun e w' ⟨A5, c', d5, j1, j2, j3, j4, j5, j6, j7⟩ => ?_
  exact ⟨A5, c', d5, j1, j2, j3.swap, h1, k7.frame h2.1 h2.2 (AB.swap j7), ⟨h2.1, h2.2, Nat.le_trans k8 j7.size⟩, k4.frame (AB.swap j7), j4.swap, k5, j5, k6⟩
theorem bo_gets_b (h : Bo2 w0 w base a b i ta i vx vs p A4 d4 A5 d5) (P : Option Addr) (n c k : Nat) (hn : p.length = n) (hk : n + 41 ≤ k) (hP : BytesAt w0 w0.heap.size P p) :
    Calls Tryd.prog 17 #[.pointer (some ⟨b, 0, none⟩), .slice A4 (n + 41) k, .slice P n c] w fun e w' => e = .returned (.bool true) ∧ Bo2 w0 w' base a b i ta (i + 1) vx vs p A4 d4 A5 d5 := by
  refine (bt_gets h.bt.swap A4 d4 (n + 41) k (by rw [h.g4.pay, hn]) hk h.g4.ok h.x4.swap P p n c hn (h.bt.swap.txt hP) h.g4.pay fun s y => si_gets y h.g4.boot h.g4.num (Nat.lt_succ_self _)).mono fun e w' ⟨k1, k2, k3⟩ => ?_
  exact ⟨k1, k2.swap, h.len, h.way.frame h.ab.1 h.ab.2.1 (AB.swap k3), ⟨h.ab.1, h.ab.2.1, Nat.le_trans h.ab.2.2 k3.size⟩, h.x4.frame (AB.swap k3), h.x5.frame (AB.swap k3), h.g4, h.g5, h.f4⟩
theorem bo_gets_a (h : Bo2 w0 w base a b i i tb vx vs p A4 d4 A5 d5) (P : Option Addr) (n c k : Nat) (hn : p.length = n) (hk : n + 41 ≤ k) (hP : BytesAt w0 w0.heap.size P p) :
    Calls Tryd.prog 17 #[.pointer (some ⟨a, 0, none⟩), .slice A5 (n + 41) k, .slice P n c] w fun e w' => e = .returned (.bool true) ∧ Bo2 w0 w' base a b i (i + 1) tb vx vs p A4 d4 A5 d5 := by
  refine (bt_gets h.bt A5 d5 (n + 41) k (by rw [h.g5.pay, hn]) hk h.g5.ok h.x5 P p n c hn (h.bt.txt hP) h.g5.pay fun s y => si_gets y h.g5.boot h.g5.num (Nat.lt_succ_self _)).mono fun e w' ⟨k1, k2, k3⟩ => ?_
  exact ⟨k1, k2, h.len, h.way.frame h.ab.1 h.ab.2.1 k3, ⟨h.ab.1, h.ab.2.1, Nat.le_trans h.ab.2.2 k3.size⟩, h.x4.frame k3, h.x5.frame k3, h.g4, h.g5, h.f4⟩
/-- the datagram is put behind the others -/
theorem bo_push {n c : Nat} {v' : Value} (h : Bo2 w0 w base a b i ta tb vx vs p A4 d4 A5 d5) (ha : ta ≤ i + 1) (hb : tb ≤ i + 1) (hn : p.length + 41 = n) (hc : n ≤ c) (o : Obj) (hg : (w.alloc o).grownBy w' vx.ownBlock) (own : OwnR 39 w' base v' (vs ++ [.slice A4 n c])) (hat : v'.ownBlock = vx.ownBlock ∨ v'.ownBlock = some (w.alloc o).heap.size) :
    Bo1 w0 w' base a b (i + 1) v' (vs ++ [.slice A4 n c]) := by
  have B := (Below.refl _ w).alloc (Nat.le_refl _) o
  refine ⟨((h.bt.step B).push hg own hat).weak (Si.more ha) (Si.more hb), by rw [List.length_append, h.len]; rfl, (h.way.frame h.ab.1 h.ab.2.1 (Frame.of_below B)).push hg A4 n c d4 own hat (by rw [h.g4.pay, hn]) hc h.g4.ok h.g4.boot (h.x4.step B) h.f4, h.ab.1, h.ab.2.1, ?_⟩
  exact Nat.le_trans h.ab.2.2 (Nat.le_trans B.size hg.size)
end
/-- the new session, that sent j, all waiting -/
def Cs (j : Nat) (s : Ss.S) : Prop := s.boot = 4 ∧ s.sent = j ∧ s.wait.length = j ∧ s.o.boot = 0
/-- the other one, that was told j of them -/
def Cb (j : Nat) (s : Ss.S) : Prop := s.boot = 9 ∧ s.o.boot ≤ 4 ∧ (s.o.boot = 4 → s.o.top ≤ j) ∧ (0 < j → s.o.boot = 4)
theorem cb_boot {j : Nat} (hj : 0 < j) {s : Ss.S} (h : Cb j s) : s.o.boot = 4 := h.2.2.2 hj
theorem cs_send {j : Nat} (hj : j < 16) {s : Ss.S} (h : Cs j s) (p : List UInt8) : s.boot = 4 ∧ s.sent = j ∧ s.o.boot ≤ 0 ∧ Cs (j + 1) (s.send p) := by
  obtain ⟨h1, h2, h3, h4⟩ := h
  refine ⟨h1, h2, by omega, h1, by show s.sent + 1 = _; omega, ?_, h4⟩
  show (Ss.push s.wait _).length = _
  unfold Ss.push
  rw [if_pos (by omega), List.length_append, h3]; rfl
theorem cb_gets {j : Nat} {s : Ss.S} (h : Cb j s) {d : Ss.D} (hb : d.boot = 4) (hn : d.num = j + 1) : s.news d = true ∧ Cb (j + 1) (s.recv d) := by
  obtain ⟨h1, h2, h3, _⟩ := h
  obtain ⟨a1, a2, a3, a4, a5⟩ := news_beyond (s := s) (d := d) (by omega) (fun e => by have := h3 (by omega); omega) (by omega)
  exact ⟨a1, by omega, by omega, fun _ => by omega, fun _ => by omega⟩
theorem cb_not {j : Nat} (hj : 0 < j) {s : Ss.S} (h : Cb j s) {d : Ss.D} (hb : d.boot = 3) : s.news d = false ∧ Cb j (s.recv d) := by
  obtain ⟨h1, h2, h3, h4⟩ := h
  obtain ⟨a1, a2, a3⟩ := news_older (s := s) (d := d) (by have := h4 hj; omega)
  exact ⟨a1, by omega, by rw [a3]; omega, by rw [a3]; exact h3, by rw [a3]; exact h4⟩
/-- the second loop -/
structure Bo3 (w0 v w : World) (c b j k : Nat) : Prop where
  bt : Bt w0 w c b (Cs j) (Cb k) (fun _ => False)
  fr : Frame (AB c b) v w
section
variable {w0 v w w' : World} {c b j k : Nat} {p : List UInt8}
theorem Frame.on {X : Nat → Prop} {u v w : World} (h : Frame X u v) (h2 : Frame X v w) : Frame X u w := h.trans h2 fun _ e => .inl e
theorem bo3_send (h : Bo3 w0 v w c b j j) (hj : j < 16) (P : Option Addr) (n x : Nat) (hn : p.length = n) (h100 : n ≤ 100) (hP : BytesAt w0 w0.heap.size P p) :
    Calls Tryd.prog 16 #[.pointer (some ⟨c, 0, none⟩), .slice P n x] w fun e w' => ∃ A c' d, e = .returned (.tuple #[.slice A (n + 41) c', .int .i64 0]) ∧ n + 41 ≤ c' ∧ Bo3 w0 v w' c b (j + 1) j ∧ Txt c b w' A d.enc ∧ Dg d 4 (j + 1) 0 p := by
  refine (bt_send h.bt 4 j 0 P p n x hn (by omega) (by omega) (h.bt.txt hP) fun s k => cs_send hj k p).mono fun e w' ⟨A, c', d, k1, k2, k3, k4, k5, k6, k7⟩ => ?_
  exact ⟨A, c', d, k1, k2, ⟨k3, h.fr.on k7⟩, k4, k5⟩
theorem bo3_gets (h : Bo3 w0 v w c b (j + 1) j) (A : Option Addr) (d : Ss.D) (hA : Txt c b w A d.enc) (hd : Dg d 4 (j + 1) 0 p) (P : Option Addr) (n x y : Nat) (hn : p.length = n) (hy : n + 41 ≤ y) (hP : BytesAt w0 w0.heap.size P p) :
    Calls Tryd.prog 17 #[.pointer (some ⟨b, 0, none⟩), .slice A (n + 41) y, .slice P n x] w fun e w' => e = .returned (.bool true) ∧ Bo3 w0 v w' c b (j + 1) (j + 1) := by
  refine (bt_gets h.bt.swap A d (n + 41) y (by rw [hd.pay, hn]) hy hd.ok hA.swap P p n x hn (h.bt.swap.txt hP) hd.pay fun s k => cb_gets k hd.boot hd.num).mono fun e w' ⟨k1, k2, k3⟩ => ?_
  exact ⟨k1, k2.swap, h.fr.on (AB.swap k3)⟩
theorem bo3_not (h : Bo3 w0 v w c b j j) (hj : 0 < j) (A : Option Addr) (d : Ss.D) (n y : Nat) (hn : d.pay.length + 41 = n) (hy : n ≤ y) (hd : d.Ok) (hb : d.boot = 3) (hA : Txt c b v A d.enc) :
    Calls Tryd.prog 18 #[.pointer (some ⟨b, 0, none⟩), .slice A n y] w fun e w' => e = .returned (.bool true) ∧ Bo3 w0 v w' c b j j := by
  refine (bt_not h.bt.swap A d n y hn hy hd (hA.frame h.fr).swap fun s k => cb_not hj k hb).mono fun e w' ⟨k1, k2, k3⟩ => ?_
  exact ⟨k1, k2.swap, h.fr.on (AB.swap k3)⟩
theorem bo3_last (h : Bo3 w0 v w c b j j) (A : Option Addr) (s : Ss.S) (hs : s.Ok) (h9 : s.boot = 9) (h3 : s.o.boot ≤ 3) (y : Nat) (hy : 41 ≤ y) (hA : Txt c b v A (s.dat (0, [])).enc) :
    Calls Tryd.prog 18 #[.pointer (some ⟨c, 0, none⟩), .slice A 41 y] w fun e w' => e = .returned (.bool true) ∧ Bt w0 w' c b (fun s => s.wait.length = j) (Cb j) (fun _ => False) := by
  refine (bt_not h.bt A (s.dat (0, [])) 41 y rfl hy (Ss.dat_ok hs _ (.inl ⟨rfl, rfl⟩)) (hA.frame h.fr) (Qa := fun s => s.wait.length = j) fun t k => ?_).mono fun e w' ⟨k1, k2, k3⟩ => ⟨k1, k2⟩
  obtain ⟨g1, g2, g3, g4⟩ := k
  obtain ⟨a1, a2⟩ := news_ack (s := t) (d := s.dat (0, [])) rfl (by show t.o.boot ≤ s.boot; omega) (by show s.o.boot ≠ t.boot; omega)
  exact ⟨a1, by rw [a2]; exact g3⟩
end
end Go.Proofs.YtfopjilncfndnaaDoor
