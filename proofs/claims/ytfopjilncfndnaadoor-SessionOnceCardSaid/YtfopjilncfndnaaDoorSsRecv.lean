/-
  A session's Receive. Conditions: the table of crc lies as the program's text lays it, beside the session; the bytes can be read.
-/
import Derived.Test.YtfopjilncfndnaaDoorSsSend
import Derived.Deep.RegionHeldLaw
namespace Go.Proofs.YtfopjilncfndnaaDoor
open Go.RowKit Fix

/-- what Receive tells, and makes of a session -/
def RecvPost (b : Nat) (F : Nat → Prop) (s : Ss.S) (l : List UInt8) (w : World) (e : Ending) (w' : World) : Prop :=
  ∃ A c, e = .returned (.tuple #[.slice A (if Ss.readE l = 0 ∧ s.news (Ss.readD l) = true then (Ss.readD l).pay else []).length c, .bool (decide (Ss.readE l = 0) && s.news (Ss.readD l)), .int .i64 (Ss.readE l)]) ∧ c ≤ 9223372036854775807 ∧
    Mid w' w.heap.size A c (if Ss.readE l = 0 ∧ s.news (Ss.readD l) = true then (Ss.readD l).pay else []) ∧
    SesAt w' b F (if Ss.readE l = 0 then s.recv (Ss.readD l) else s) ∧ Frame (fun j => j = b) w w'
set_option maxRecDepth 100000 in
theorem recv_bad (b : Nat) (F : Nat → Prop) (s : Ss.S) (w : World) (h : SesAt w b F s) (ht : TabAt w) (A : Option Addr) (l : List UInt8) (n c : Nat) (hn : l.length = n) (hc : n ≤ c) (h1 : n ≤ 1000) (hr : BytesAt w w.heap.size A l) (hE : Ss.readE l ≠ 0) :
    Calls Tryd.prog 38 #[.pointer (some ⟨b, 0, none⟩), .slice A n c] w (RecvPost b F s l w) := by
  have z := read_any A l n c hn hc h1 w ht hr
  unfold ReadPost at z
  have zm := isMade_yes b w (by obtain ⟨⟨its, f, r⟩, _, _⟩ := h; exact (ses_cells r).1)
  have HP : Hid (∀ w', Below w.heap.size w w' → RecvPost b F s l w (.returned (.tuple #[.slice none 0 0, .bool false, .int .i64 (Ss.readE l)])) w') := Lib.hid fun w' B =>
    ⟨none, 0, by rw [if_neg (by simp [hE]), decide_eq_false hE]; rfl, by decide, by rw [if_neg (by simp [hE])]; exact Mid.none_, by rw [if_neg hE]; exact h.step B, Frame.of_below B⟩
  obtain ⟨x, hx⟩ : ∃ x, x = Ss.readE l := ⟨_, rfl⟩
  rw [← hx] at z hE HP
  have hne : (x != 0) = true := by simpa using hE
  obtain ⟨d, hd⟩ : ∃ d, d = Ss.readD l := ⟨_, rfl⟩
  rw [← hd] at z
  clear hx hd hE hn hc h1 ht hr h
  go_enter Tryd.func38, Tryd.ntmps38
  go_wp2_with (first
    | (go_at_call 31; refine zm.mono ?_; (rintro e w2 ⟨rfl, rfl⟩))
    | (go_at_call 46; refine z.mono ?_; (rintro e w2 ⟨A2, c2, rfl, hc2, m2, B2⟩)))
  refine bodyPost_ret (v := .tuple #[.slice none 0 0, .bool false, .int .i64 x]) (by simp [results, Tryd.results38, go_sem]) rfl (HP.out _ (step_alloc B2 _))
/-- what is known of the other one is stored -/
theorem ses_other {w : World} {b : Nat} {F : Nat → Prop} {s : Ss.S} (h : SesAt w b F s) (k : Ss.K) (hk : k.Ok) :
    SesAt (((w.setCell ⟨b, 37, none⟩ (.int .i64 (k.boot : Int))).setCell ⟨b, 38, none⟩ (.int .i64 (k.top : Int))).setCell ⟨b, 39, none⟩ (.int .u64 (k.came : Int))) b F { s with o := k } := by
  obtain ⟨⟨its, f, r⟩, hl, ho⟩ := h
  have hlen := r.its.len
  have b3 := ((r.blk.set_ 37 (.int .i64 (k.boot : Int))).set_ 38 (.int .i64 (k.top : Int))).set_ 39 (.int .u64 (k.came : Int))
  have hn : (sPre b s ++ rgL its f s.wait.length).length = 37 := by simp [sPre, rgL, hlen]
  have e : (((sPre b s ++ rgL its f s.wait.length ++ sPost s).set 37 (.int .i64 (k.boot : Int))).set 38 (.int .i64 (k.top : Int))).set 39 (.int .u64 (k.came : Int)) = sPre b { s with o := k } ++ rgL its f s.wait.length ++ sPost { s with o := k } := by
    rw [List.set_append_right _ _ (by omega), List.set_append_right _ _ (by omega), List.set_append_right _ _ (by omega), hn]
    rfl
  rw [e] at b3
  have fr : Frame (fun j => j = b) w (((w.setCell ⟨b, 37, none⟩ (.int .i64 (k.boot : Int))).setCell ⟨b, 38, none⟩ (.int .i64 (k.top : Int))).setCell ⟨b, 39, none⟩ (.int .u64 (k.came : Int))) := (((Frame.refl (fun j => j = b) w).setAt ⟨b, 37, none⟩ _ rfl).setAt ⟨b, 38, none⟩ _ rfl).setAt ⟨b, 39, none⟩ _ rfl
  exact ⟨⟨its, f, b3, rfl, r.its.keep fr.size fun j hj => fr.block j (hl j hj) fun e => r.in_ (e ▸ hj), r.in_⟩, fun j hj => Nat.lt_of_lt_of_le (hl j hj) fr.size, ⟨ho.boot, ho.boot2, ho.sent, ho.many, ho.pay, hk⟩⟩
theorem told_o (s : Ss.S) (d : Ss.D) : (s.told d).o = s.o := by unfold Ss.S.told; split <;> rfl
/-- the three ends -/
theorem recv_low {s : Ss.S} {d : Ss.D} (h : d.boot < s.o.boot) : s.news d = false ∧ s.recv d = s.told d := by
  unfold Ss.S.news Ss.S.recv
  rw [decide_eq_false (by omega), if_pos h]
  exact ⟨rfl, rfl⟩
theorem recv_old {s : Ss.S} {d : Ss.D} (h : ¬ d.boot < s.o.boot) (h2 : d.num = 0 ∨ (s.meet d).has d.num = true) : s.news d = false ∧ s.recv d = { s.told d with o := s.meet d } := by
  unfold Ss.S.news Ss.S.recv
  rw [if_neg h, if_pos h2]
  refine ⟨?_, rfl⟩
  rcases h2 with h2 | h2
  · rw [h2]; simp
  · rw [h2]; simp
theorem recv_new {s : Ss.S} {d : Ss.D} (h : ¬ d.boot < s.o.boot) (h2 : d.num ≠ 0) (h3 : (s.meet d).has d.num = false) : s.news d = true ∧ s.recv d = { s.told d with o := (s.meet d).add d.num } := by
  unfold Ss.S.news Ss.S.recv
  rw [if_neg h, if_neg (by rw [h3]; simp [h2]), h3, decide_eq_true h2, decide_eq_true (by omega)]
  exact ⟨rfl, rfl⟩
/-- a moment within Receive: the datagram is at D -/
structure RvAt (b : Nat) (F : Nat → Prop) (d : Ss.D) (A : Option Addr) (c : Nat) (D : Nat) (w : World) (st : Ss.S) (wx : World) : Prop where
  ses : SesAt wx b F st
  dat : BlkR 101 wx D (dCells d (.slice A d.pay.length c))
  mid : Mid wx w.heap.size A c d.pay
  fr : Frame (fun j => j = b) w wx
  far : w.heap.size ≤ D
theorem RvAt.step {b : Nat} {F : Nat → Prop} {d : Ss.D} {A : Option Addr} {c D : Nat} {w : World} {st : Ss.S} {wx wy : World} (h : RvAt b F d A c D w st wx) (B : Below wx.heap.size wx wy) : RvAt b F d A c D w st wy :=
  ⟨h.ses.step B, BlkR.below h.dat B h.dat.lt, h.mid.step B, (h.fr.trans (Frame.of_below (F := fun _ => False) B) fun _ x => x.elim), h.far⟩
/-- the cells that Receive reads -/
theorem RvAt.rd {b : Nat} {F : Nat → Prop} {d : Ss.D} {A : Option Addr} {c D : Nat} {w : World} {st : Ss.S} {wx : World} (h : RvAt b F d A c D w st wx) :
    (wx.cell? ⟨D, 0, none⟩ = some (.int .i64 (d.boot : Int)) ∧ wx.cell? ⟨D, 1, none⟩ = some (.int .i64 (d.num : Int)) ∧ wx.cell? ⟨D, 2, none⟩ = some (.int .i64 (d.o.boot : Int)) ∧ wx.cell? ⟨D, 5, none⟩ = some (.slice A d.pay.length c)) ∧
    (wx.cell? ⟨b, 1, none⟩ = some (.int .i64 (st.boot : Int)) ∧ wx.cell? ⟨b, 37, none⟩ = some (.int .i64 (st.o.boot : Int)) ∧ wx.cell? ⟨b, 38, none⟩ = some (.int .i64 (st.o.top : Int)) ∧ wx.cell? ⟨b, 39, none⟩ = some (.int .u64 (st.o.came : Int))) ∧
    (wx.frozen? ⟨b, 37, none⟩ = false ∧ wx.frozen? ⟨b, 38, none⟩ = false ∧ wx.frozen? ⟨b, 39, none⟩ = false) := by
  obtain ⟨⟨its, f, r⟩, _, _⟩ := h.ses
  obtain ⟨_, c1, _, _, c37, c38, c39⟩ := ses_cells r
  exact ⟨⟨h.dat.cell (k := 0) rfl, h.dat.cell (k := 1) rfl, h.dat.cell (k := 2) rfl, h.dat.cell (k := 5) rfl⟩, ⟨c1, c37, c38, c39⟩, r.blk.frozen 37, r.blk.frozen 38, r.blk.frozen 39⟩
/-- what is known of the other one is stored, within Receive -/
theorem RvAt.other {b : Nat} {F : Nat → Prop} {d : Ss.D} {A : Option Addr} {c D : Nat} {w : World} {st : Ss.S} {wx : World} (h : RvAt b F d A c D w st wx) (hb : b < w.heap.size) (k : Ss.K) (hk : k.Ok) :
    RvAt b F d A c D w { st with o := k } (((wx.setCell ⟨b, 37, none⟩ (.int .i64 (k.boot : Int))).setCell ⟨b, 38, none⟩ (.int .i64 (k.top : Int))).setCell ⟨b, 39, none⟩ (.int .u64 (k.came : Int))) := by
  have fr : Frame (fun j => j = b) wx (((wx.setCell ⟨b, 37, none⟩ (.int .i64 (k.boot : Int))).setCell ⟨b, 38, none⟩ (.int .i64 (k.top : Int))).setCell ⟨b, 39, none⟩ (.int .u64 (k.came : Int))) := (((Frame.refl (fun j => j = b) wx).setAt ⟨b, 37, none⟩ _ rfl).setAt ⟨b, 38, none⟩ _ rfl).setAt ⟨b, 39, none⟩ _ rfl
  have hf := h.far
  exact ⟨ses_other h.ses k hk, h.dat.frame fr (by omega), h.mid.frame fr (fun j e => by omega), h.fr.trans fr fun j e => .inl e, hf⟩
set_option maxRecDepth 100000 in
set_option maxHeartbeats 2000000 in
theorem recv_good (b : Nat) (F : Nat → Prop) (s : Ss.S) (w : World) (h : SesAt w b F s) (ht : TabAt w) (A : Option Addr) (l : List UInt8) (n c : Nat) (hn : l.length = n) (hc : n ≤ c) (h1 : n ≤ 1000) (hr : BytesAt w w.heap.size A l) (hE : Ss.readE l = 0) :
    Calls Tryd.prog 38 #[.pointer (some ⟨b, 0, none⟩), .slice A n c] w (RecvPost b F s l w) := by
  have z := read_any A l n c hn hc h1 w ht hr
  unfold ReadPost at z
  have zm := isMade_yes b w (by obtain ⟨⟨its, f, r⟩, _, _⟩ := h; exact (ses_cells r).1)
  have hdo := Ss.read_ok hE
  have hmf : ∀ (fn : Fn) (first cap : Array Value) (w : World), (Instr.makeFunc fn first cap).run Tryd.prog w = .ok (.func fn first cap) w := fun _ _ _ _ => rfl
  rw [hE] at z
  obtain ⟨d, hd⟩ : ∃ d, d = Ss.readD l := ⟨_, rfl⟩
  rw [← hd] at z hdo
  have P0 : Hid (∀ A2 c2 D wz st, s.news d = false → s.recv d = st → RvAt b F d A2 c2 D w st wz → RecvPost b F s l w (.returned (.tuple #[.slice none 0 0, .bool false, .int .i64 0])) wz) := Lib.hid fun A2 c2 D wz st h1 h2 R => by
    unfold RecvPost
    rw [hE, ← hd, h1, h2]
    exact ⟨none, 0, rfl, by decide, Mid.none_, R.ses, R.fr⟩
  have P1 : Hid (∀ A2 c2 D wz st, c2 ≤ 9223372036854775807 → s.news d = true → s.recv d = st → RvAt b F d A2 c2 D w st wz → RecvPost b F s l w (.returned (.tuple #[.slice A2 d.pay.length c2, .bool true, .int .i64 0])) wz) := Lib.hid fun A2 c2 D wz st hc h1 h2 R => by
    unfold RecvPost
    rw [hE, ← hd, h1, h2]
    exact ⟨A2, c2, rfl, hc, R.mid, R.ses, R.fr⟩
  have HX := Lib.hid (And.intro h hdo)
  clear hd hE hn hc h1 ht hr h hdo
  go_enter Tryd.func38, Tryd.ntmps38
  go_upto_region 6 with (first
    | (go_at_call 31; refine zm.mono ?_; (rintro e w2 ⟨rfl, rfl⟩))
    | (go_at_call 46; refine z.mono ?_; (rintro e w2 ⟨A2, c2, rfl, hc2, m2, B2⟩)))
  obtain ⟨wx, hwx⟩ : ∃ wx, wx = w2.alloc (.cells #[.int .i64 (d.boot : Int), .int .i64 (d.num : Int), .int .i64 (d.o.boot : Int), .int .i64 (d.o.top : Int), .int .u64 (d.o.came : Int), .slice A2 d.pay.length c2] 101) := ⟨_, rfl⟩
  obtain ⟨D, hD⟩ : ∃ D, D = w2.heap.size := ⟨_, rfl⟩
  have R0 : RvAt b F d A2 c2 D w s wx := by
    rw [hwx, hD]
    exact ⟨HX.out.1.step (step_alloc B2 _), BlkR.new w2 _ _, m2.step (step_alloc (Below.refl _ w2) _), Frame.of_below (step_alloc B2 _), B2.size⟩
  rw [← hwx, ← hD]
  have HC := Lib.hid hc2
  clear hwx hD z zm m2 B2 hc2
  obtain ⟨y, hy⟩ : ∃ y, y = decide (d.o.boot = s.boot) := ⟨_, rfl⟩
  have i1 : ((d.o.boot : Int) == (s.boot : Int)) = y := by rw [hy, Bool.eq_iff_iff]; simp; omega
  obtain ⟨⟨d0, d1, d2, d5⟩, ⟨c1, _⟩, _⟩ := R0.rd
  have HY := Lib.hid hy
  clear hy
  go_quiet (fail)
  obtain ⟨wq, hwq⟩ : ∃ wq, wq = wx.drewN nq := ⟨_, rfl⟩
  have R1 : RvAt b F d A2 c2 D w s wq := by rw [hwq]; exact R0.step ⟨rfl, rfl, rfl, Nat.le_refl _, fun _ _ => rfl⟩
  rw [← hwq]
  clear R0 hwq d0 d1 d2 d5 c1 i1
  go_upto_if 27 with fail
  go_cut [] from 28 to 32 (fun wy => RvAt b F d A2 c2 D w (s.told d) wy)
  case first =>
    have hy := HY.out
    cases y with
    | true =>
      have heq : d.o.boot = s.boot := of_decide_eq_true hy.symm
      obtain ⟨its, f, r⟩ := R1.ses.rg
      have hkn : KnAt wq D d.o := ⟨R1.dat.cell (k := 2) rfl, R1.dat.cell (k := 3) rfl, R1.dat.cell (k := 4) rfl⟩
      have hDb : D ≠ b := fun e => by have := R1.far; have := HX.out.1.blt; omega
      have zk := keep_any 63 F b 3 (sPre b s) (sPost s) its f s.wait D d.o wq r R1.ses.lt (fun m hm => by have := R1.ses.ok.pay m hm; have := R1.ses.ok.sent; omega) HX.out.2.o2 HX.out.2.came hkn hDb
      have FIN : Hid (∀ wz its f, RgAt 63 F wz b 3 (sPre b s) (sPost s) its f (stay d.o s.wait) → Frame (fun j => j = b) wq wz → RvAt b F d A2 c2 D w (s.told d) wz) := Lib.hid fun wz its f r2 fr2 => by
        have e : s.told d = { s with wait := stay d.o s.wait } := by unfold Ss.S.told; rw [if_pos heq]; rfl
        have ok2 := Ss.told_ok R1.ses.ok d
        rw [e] at ok2 ⊢
        refine ⟨⟨⟨its, f, r2⟩, fun j hj => Nat.lt_of_lt_of_le (R1.ses.lt j hj) fr2.size, ok2⟩, R1.dat.frame fr2 hDb, R1.mid.frame fr2 (fun j e => by have := HX.out.1.blt; omega), R1.fr.trans fr2 fun j e => .inl e, R1.far⟩
      clear R1 r hkn heq hy
      go_wp2_with (go_at_call 47; refine zk.mono ?_; (rintro e wz ⟨rfl, ⟨its2, f2, r2⟩, fr2⟩))
      go_meet
      exact FIN.out _ _ _ r2 fr2
    | false =>
      have hne : d.o.boot ≠ s.boot := of_decide_eq_false hy.symm
      have HR : Hid (RvAt b F d A2 c2 D w (s.told d) wq) := Lib.hid (by
        have e : s.told d = s := by unfold Ss.S.told; rw [if_neg hne]
        rw [e]
        exact R1)
      clear R1 hne hy
      go_wp2
      go_meet
      exact HR.out
  case rest =>
    have ho := told_o s d
    obtain ⟨st, hst⟩ : ∃ st, st = s.told d := ⟨_, rfl⟩
    rw [← hst] at hcut ho
    obtain ⟨⟨d0, d1, d2, d5⟩, ⟨c1, c37, c38, c39⟩, _⟩ := hcut.rd
    have HR := Lib.hid hcut
    rw [ho] at c37
    have HS := Lib.hid (And.intro hst ho)
    clear hcut R1 HY hst ho
    go_upto_region 8 with fail
    by_cases hlow : d.boot < s.o.boot
    · have i1 : decide ((d.boot : Int) < (s.o.boot : Int)) = true := by simp; omega
      obtain ⟨n1, n2⟩ := recv_low hlow
      have HN := Lib.hid (And.intro n1 n2)
      have i3 : decide (d.boot < s.o.boot) = true := decide_eq_true hlow
      clear n1 n2
      go_quiet (fail)
      go_wp2
      refine bodyPost_ret (v := .tuple #[.slice none 0 0, .bool false, .int .i64 0]) (by simp [results, Tryd.results38, go_sem]) rfl (P0.out A2 c2 D _ st HN.out.1 (by rw [HN.out.2, HS.out.1]) (HR.out.step ⟨rfl, rfl, rfl, Nat.le_refl _, fun _ _ => rfl⟩))
    · have i1 : decide ((d.boot : Int) < (s.o.boot : Int)) = false := by simp; omega
      have HL := Lib.hid hlow
      have i3 : decide (d.boot < s.o.boot) = false := decide_eq_false hlow
      go_quiet (fail)
      obtain ⟨wp, hwp⟩ : ∃ wp, wp = wc.drewN nq := ⟨_, rfl⟩
      have R2 : RvAt b F d A2 c2 D w st wp := by rw [hwp]; exact HR.out.step ⟨rfl, rfl, rfl, Nat.le_refl _, fun _ _ => rfl⟩
      rw [← hwp]
      clear hwp HR d0 d1 d2 d5 c1 c37 c38 c39
      go_upto_region 10 with fail
      clear i1 i3 hlow
      obtain ⟨⟨d0, d1, d2, d5⟩, ⟨c1, c37, c38, c39⟩, _⟩ := R2.rd
      rw [HS.out.2] at c37
      obtain ⟨y2, hy2⟩ : ∃ y, y = decide (s.o.boot < d.boot) := ⟨_, rfl⟩
      have i2 : decide ((s.o.boot : Int) < (d.boot : Int)) = y2 := by rw [hy2]; exact decide_eq_decide.2 (by omega)
      have i3 : decide (s.o.boot < d.boot) = y2 := hy2.symm
      have HY2 := Lib.hid hy2
      clear hy2
      go_quiet (fail)
      obtain ⟨wr, hwr⟩ : ∃ wr, wr = wp.drewN nq := ⟨_, rfl⟩
      have R3 : RvAt b F d A2 c2 D w st wr := by rw [hwr]; exact R2.step ⟨rfl, rfl, rfl, Nat.le_refl _, fun _ _ => rfl⟩
      rw [← hwr]
      clear hwr R2 d0 d1 d2 d5 c1 c37 c38 c39
      go_upto_if 48 with fail
      clear i2 i3
      have hbw : b < w.heap.size := HX.out.1.blt
      have HBW := Lib.hid hbw
      clear hbw
      go_cut [] from 49 to 54 (fun wy => RvAt b F d A2 c2 D w { st with o := s.meet d } wy)
      case first =>
        have hy2 := HY2.out
        cases y2 with
        | true =>
          have hgt : s.o.boot < d.boot := of_decide_eq_true hy2.symm
          obtain ⟨⟨d0, d1, d2, d5⟩, ⟨c1, c37, c38, c39⟩, f37, f38, f39⟩ := R3.rd
          have hm : s.meet d = ⟨d.boot, 0, 0⟩ := by unfold Ss.S.meet; rw [if_pos hgt]
          have FIN := Lib.hid (R3.other HBW.out ⟨d.boot, 0, 0⟩ ⟨HX.out.2.boot2, Nat.zero_le _, Nat.zero_lt_succ _, fun _ => rfl⟩)
          rw [← hm] at FIN
          have HM := Lib.hid hm
          clear R3 hgt hy2 hm
          go_wp2
          go_meet
          have := FIN.out
          rw [HM.out] at this ⊢
          exact this
        | false =>
          have hle : ¬ s.o.boot < d.boot := of_decide_eq_false hy2.symm
          have hm : s.meet d = s.o := by unfold Ss.S.meet; rw [if_neg hle]
          have HR : Hid (RvAt b F d A2 c2 D w { st with o := s.meet d } wr) := Lib.hid (by
            rw [hm, ← HS.out.2]
            exact R3)
          clear R3 hle hy2 hm
          go_wp2
          go_meet
          exact HR.out
      case rest =>
        have hmo := Ss.meet_ok HX.out.1.ok HX.out.2
        obtain ⟨K, hK⟩ : ∃ K, K = s.meet d := ⟨_, rfl⟩
        rw [← hK] at hcut hmo
        have HK := Lib.hid (And.intro hK hmo)
        have hnm := HX.out.2.num
        clear hK
        go_upto_region 12 with fail
        obtain ⟨⟨d0, d1, d2, d5⟩, ⟨c1, c37, c38, c39⟩, _⟩ := hcut.rd
        dsimp only at c37 c38 c39
        have HR := Lib.hid hcut
        by_cases hz : d.num = 0
        · have i1 : ((d.num : Int) == 0) = true := by rw [hz]; rfl
          obtain ⟨n1, n2⟩ := recv_old HL.out (.inl hz)
          have HN := Lib.hid (And.intro n1 n2)
          clear n1 n2 hcut hmo hnm
          go_quiet (fail)
          go_wp2
          refine bodyPost_ret (v := .tuple #[.slice none 0 0, .bool false, .int .i64 0]) (by simp [results, Tryd.results38, go_sem]) rfl (P0.out A2 c2 D _ { st with o := K } HN.out.1 (by rw [HN.out.2, HS.out.1, HK.out.1]) (HR.out.step ⟨rfl, rfl, rfl, Nat.le_refl _, fun _ _ => rfl⟩))
        · have i1 : ((d.num : Int) == 0) = false := by simp; omega
          obtain ⟨wd, hwd⟩ : ∃ wd, wd = { wc with drawn := wc.drawn + 1 } := ⟨_, rfl⟩
          have R4 : RvAt b F d A2 c2 D w { st with o := K } wd := by rw [hwd]; exact hcut.step ⟨rfl, rfl, rfl, Nat.le_refl _, fun _ _ => rfl⟩
          have zh := has_any K d.num hmo.top hmo.came hnm wd
          have HZ := Lib.hid hz
          clear d0 d1 d2 d5 c1 c37 c38 c39 hcut HR
          obtain ⟨⟨d0, d1, d2, d5⟩, ⟨c1, c37, c38, c39⟩, _⟩ := R4.rd
          dsimp only at c37 c38 c39
          have HR := Lib.hid R4
          cases hh : K.has d.num with
          | true =>
            rw [hh] at zh
            obtain ⟨n1, n2⟩ := recv_old HL.out (.inr (by rw [← HK.out.1]; exact hh))
            have HN := Lib.hid (And.intro n1 n2)
            clear n1 n2 hmo hnm R4 hh hz
            refine region_tail 10 (by kernel_rfl) (by kernel_rfl) wd hwd ?_
            clear hwd
            simp only [List.take_succ_cons, List.take_zero, List.drop_succ_cons, List.drop_zero]
            repeat still_step
            refine wpStill_nil ?_
            go_wp2_with (go_at_call 49; refine zh.mono ?_; (rintro e w7 ⟨rfl, B7⟩))
            refine bodyPost_ret (v := .tuple #[.slice none 0 0, .bool false, .int .i64 0]) (by simp [results, Tryd.results38, go_sem]) rfl (P0.out A2 c2 D _ { st with o := K } HN.out.1 (by rw [HN.out.2, HS.out.1, HK.out.1]) (HR.out.step B7))
          | false =>
            rw [hh] at zh
            obtain ⟨n1, n2⟩ := recv_new HL.out HZ.out (by rw [← HK.out.1]; exact hh)
            have HN := Lib.hid (And.intro n1 n2)
            have zw := fun wy => with_any K d.num hmo hnm hh wy
            have hao := Lib.hid (Ss.add_ok hmo d.num (by omega) hnm hh)
            clear n1 n2 hmo hnm R4 hh hz
            refine region_tail 10 (by kernel_rfl) (by kernel_rfl) wd hwd ?_
            clear hwd
            simp only [List.take_succ_cons, List.take_zero, List.drop_succ_cons, List.drop_zero]
            repeat still_step
            refine wpStill_nil ?_
            go_upto_region 14 with (go_at_call 49; refine zh.mono ?_; (rintro e w7 ⟨rfl, B7⟩))
            have R5 : RvAt b F d A2 c2 D w { st with o := K } w7 := HR.out.step B7
            have R5d : RvAt b F d A2 c2 D w { st with o := K } w7.drew := R5.step (Below.refl w7.heap.size w7).drew
            clear d0 d1 d2 d5 c1 c37 c38 c39
            obtain ⟨⟨d0, d1, d2, d5⟩, ⟨c1, c37, c38, c39⟩, _⟩ := R5d.rd
            dsimp only at c37 c38 c39
            have zw5 := zw w7.drew
            have HR5 := Lib.hid R5d
            clear R5 R5d zh zw
            go_region_with (first
              | (go_at_call 50; refine zw5.mono ?_; (rintro e w8 ⟨rfl, B8⟩; have R8 := HR5.out.step B8; obtain ⟨⟨e0, e1, e2, e5⟩, ⟨b1, b37, b38, b39⟩, g37, g38, g39⟩ := R8.rd; dsimp only at b37 b38 b39; have R9 := R8.other HBW.out _ hao.out; have x5 := R9.dat.cell (k := 5) rfl; have x1 := R9.dat.cell (k := 1) rfl; have R9 := Lib.hid R9; clear R8)))
            all_goals (go_wp2)
            all_goals refine bodyPost_ret (v := .tuple #[.slice A2 d.pay.length c2, .bool true, .int .i64 0]) (by simp [results, Tryd.results38, go_sem]) rfl (P1.out A2 c2 D _ { st with o := K.add d.num } HC.out HN.out.1 (by rw [HN.out.2, HS.out.1, HK.out.1]) R9.out)
/-- whatever bytes -/
theorem recv_any (b : Nat) (F : Nat → Prop) (s : Ss.S) (w : World) (h : SesAt w b F s) (ht : TabAt w) (A : Option Addr) (l : List UInt8) (n c : Nat) (hn : l.length = n) (hc : n ≤ c) (h1 : n ≤ 1000) (hr : BytesAt w w.heap.size A l) :
    Calls Tryd.prog 38 #[.pointer (some ⟨b, 0, none⟩), .slice A n c] w (RecvPost b F s l w) := by
  by_cases hE : Ss.readE l = 0
  · exact recv_good b F s w h ht A l n c hn hc h1 hr hE
  · exact recv_bad b F s w h ht A l n c hn hc h1 hr hE
end Go.Proofs.YtfopjilncfndnaaDoor
