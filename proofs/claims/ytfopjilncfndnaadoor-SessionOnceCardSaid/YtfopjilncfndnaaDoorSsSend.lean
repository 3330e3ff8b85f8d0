/-
  A session's Send. Conditions: the table of crc lies as the program's text lays it, beside the session; the payload can be read.
-/
import Derived.Test.YtfopjilncfndnaaDoorCloneB
import Derived.Test.YtfopjilncfndnaaDoorSsSes
import Derived.Deep.CutRange
namespace Go.Proofs.YtfopjilncfndnaaDoor
open Go.RowKit Fix

theorem TabAt.frame {w w' : World} {F : Nat → Prop} (h : TabAt w) (hF : Frame F w w') (hn : ¬ F 0) : TabAt w' := fun i hi => by
  have hl : 0 < w.heap.size := block_lt_of_cell (h i hi)
  rw [← h i hi]
  simp only [World.cell?, hF.block 0 hl hn]
/-- what Send makes of a session -/
def SendPost (b : Nat) (F : Nat → Prop) (s : Ss.S) (p : List UInt8) (n : Nat) (w : World) (e : Ending) (w' : World) : Prop :=
  ∃ F' A c, e = .returned (.tuple #[.slice A (n + 41) c, .int .i64 0]) ∧ n + 41 ≤ c ∧ c ≤ 9223372036854775807 ∧ SesAt w' b F' (s.send p) ∧ (∀ j, F' j → F j ∨ w.heap.size ≤ j) ∧
    OwnZ w' w.heap.size (.slice A (n + 41) c) ((s.send p).dat (s.sent + 1, p)).enc ∧ (∀ j, BlockOf A c j → ¬ F' j) ∧ Frame (fun j => j = b) w w'
set_option maxRecDepth 100000 in
theorem send_long (b : Nat) (F : Nat → Prop) (s : Ss.S) (w : World) (h : SesAt w b F s) (P : Option Addr) (n c : Nat) (hn : 160 < n) : Calls Tryd.prog 16 #[.pointer (some ⟨b, 0, none⟩), .slice P n c] w fun e w' => e = .returned (.tuple #[.slice none 0 0, .int .i64 3]) ∧ w = w' := by
  obtain ⟨⟨its, f, r⟩, _, _⟩ := h
  obtain ⟨c0, c1, c2, _⟩ := ses_cells r
  have zm := isMade_yes b w c0
  have i1 : (160 : Int) < (n : Int) := by omega
  clear r hn
  go_enter Tryd.func16, Tryd.ntmps16
  go_wp2_with (go_at_call 31; refine zm.mono ?_; (rintro e w2 ⟨rfl, rfl⟩))
  go_ret2
  exact ⟨rfl, rfl⟩
set_option maxRecDepth 100000 in
theorem send_full (b : Nat) (F : Nat → Prop) (s : Ss.S) (w : World) (h : SesAt w b F s) (P : Option Addr) (n c : Nat) (hn : n ≤ 160) (hs : s.sent = 1099511627776) : Calls Tryd.prog 16 #[.pointer (some ⟨b, 0, none⟩), .slice P n c] w fun e w' => e = .returned (.tuple #[.slice none 0 0, .int .i64 8]) ∧ w = w' := by
  obtain ⟨⟨its, f, r⟩, _, _⟩ := h
  obtain ⟨c0, c1, c2, _⟩ := ses_cells r
  rw [hs] at c2
  have zm := isMade_yes b w c0
  have i1 : ¬ (160 : Int) < (n : Int) := by omega
  clear r hn hs
  go_enter Tryd.func16, Tryd.ntmps16
  go_wp2_with (go_at_call 31; refine zm.mono ?_; (rintro e w2 ⟨rfl, rfl⟩))
  go_ret2
  exact ⟨rfl, rfl⟩
/-- behind the message's being made -/
def SnCut (ws : World) (N n : Nat) (p : List UInt8) (q : Value) (wx : World) : Prop :=
  ∃ B A c, q = .pointer (some ⟨B, 0, none⟩) ∧ c ≤ 9223372036854775807 ∧ ws.heap.size ≤ B ∧ BlkR 55 wx B [.int .i64 (N : Int), .slice A n c] ∧ Whole wx ws.heap.size A c p ∧ Below ws.heap.size ws wx
abbrev mZ : Obj := .cells #[.int .i64 0, .slice none 0 0] 55
set_option maxRecDepth 100000 in
set_option maxHeartbeats 2000000 in
theorem send_ok (b : Nat) (F : Nat → Prop) (s : Ss.S) (w : World) (h : SesAt w b F s) (ht : TabAt w) (hT : b ≠ 0) (P : Option Addr) (p : List UInt8) (n c : Nat) (hn : p.length = n) (hr : BytesAt w w.heap.size P p) (hP : p ≠ [] → ∀ ad, P = some ad → ad.block ≠ b) (he : s.sendE p = 0) :
    Calls Tryd.prog 16 #[.pointer (some ⟨b, 0, none⟩), .slice P n c] w (SendPost b F s p n w) := by
  have hE := he
  unfold Ss.S.sendE at hE
  have h160 : n ≤ 160 := by
    refine Nat.le_of_not_lt fun hh => ?_
    rw [if_pos (by omega)] at hE
    cases hE
  rw [if_neg (by omega)] at hE
  have hsent : s.sent ≠ 1099511627776 := fun hh => by rw [if_pos hh] at hE; cases hE
  have hso := h.ok.sent
  clear hE
  obtain ⟨⟨its, f, r⟩, hlt, hok⟩ := h
  obtain ⟨c0, c1, c2, _⟩ := ses_cells r
  have zm := isMade_yes b w c0
  have i1 : ¬ (160 : Int) < (n : Int) := by omega
  have i2 : ((s.sent : Int) == 1099511627776) = false := by simp; omega
  have q1 : IntKind.i64.wrap ((s.sent : Int) + 1) = ((s.sent + 1 : Nat) : Int) := by rw [IntWalk.i64_in _ (by omega)]; omega
  obtain ⟨ws, hws⟩ : ∃ ws, ws = w.setCell ⟨b, 2, none⟩ (.int .i64 ((s.sent + 1 : Nat) : Int)) := ⟨_, rfl⟩
  have fs : Frame (fun j => j = b) w ws := by rw [hws]; exact (Frame.refl _ _).setAt _ _ rfl
  have bs : BlkR 63 ws b (sPre b { s with sent := s.sent + 1 } ++ rgL its f s.wait.length ++ sPost s) := by rw [hws]; exact r.blk.set_ 2 _
  have rs : RgAt 63 F ws b 3 (sPre b { s with sent := s.sent + 1 }) (sPost s) its f s.wait := ⟨bs, rfl, r.its.keep fs.size fun j hj => fs.block j (hlt j hj) fun e => r.in_ (e ▸ hj), r.in_⟩
  have fr2 := r.blk.frozen 2
  obtain ⟨N, hN⟩ : ∃ N, N = s.sent + 1 := ⟨_, rfl⟩
  obtain ⟨M, hM⟩ : ∃ M, M = s.sent := ⟨_, rfl⟩
  rw [← hN] at q1 hws
  rw [← hM] at c2 i2 q1
  have HX := Lib.hid (And.intro fs (And.intro rs (And.intro hlt (And.intro hok (And.intro ht (And.intro hr (And.intro hn (And.intro h160 (And.intro hT (And.intro hP (And.intro he hN)))))))))))
  have x2 := bs.cell (k := 2) rfl
  dsimp only at x2
  rw [← hN] at x2
  clear fs bs rs hlt hok ht hr hn h160 hT hP he hN hsent hso r hM
  go_enter Tryd.func16, Tryd.ntmps16
  go_upto_region 8 with (go_at_call 31; refine zm.mono ?_; (rintro e w2 ⟨rfl, rfl⟩))
  have hrs : BytesAt ws ws.heap.size P p := by
    by_cases hp0 : p = []
    · rw [hp0]; exact bytes_nil
    · exact HX.out.1.bytes HX.out.2.2.2.2.2.1 fun ad e => HX.out.2.2.2.2.2.2.2.2.2.1 hp0 ad e
  have zc : ∀ wy, Below ws.heap.size ws wy → Calls Tryd.prog 35 #[.slice P n c] wy (ClonePost p n wy) := fun wy B => cloneZ P p n c HX.out.2.2.2.2.2.2.1 (by have := HX.out.2.2.2.2.2.2.2.1; omega) wy (hrs.step B)
  unfold ClonePost at zc
  have KX : Hid (∀ wy, Below ws.heap.size ws wy → wy.cell? ⟨b, 2, none⟩ = some (.int .i64 (N : Int))) := Lib.hid fun wy B => by
    have := (HX.out.2.1.blk.below B HX.out.2.1.blk.lt).cell (k := 2) rfl
    rw [HX.out.2.2.2.2.2.2.2.2.2.2.2]
    exact this
  rw [← hws]
  clear hws hrs
  have Bd := (Below.refl ws.heap.size ws).drew
  have Ba := step_alloc Bd mZ
  go_cut [6] from 28 to 34 (fun q wx => SnCut ws N n p q wx)
  case first =>
    go_region_held3 (fun w' => w'.cell? ⟨b, 2, none⟩ = some (.int .i64 (N : Int))) (first | assumption | exact x2 | exact KX.out _ (by assumption) | exact KX.out _ Bd | exact KX.out _ Ba | exact KX.out _ C1 | exact KX.out _ (step_alloc C1 _) | exact KX.out _ ((C1.setCell (p := ⟨_, 0, none⟩) hB _).setCell (p := ⟨_, 1, none⟩) hB _)) (first
      | (go_at_call 35; first
        | (refine (zc ws.drew Bd).mono ?_; (rintro e w1 ⟨A1, c1, rfl, hc1, o1, B1⟩; have C1 := step_trans Bd B1; have bx := BlkR.new w1 [.int .i64 0, .slice none 0 0] 55; have s0 := bx.cell (k := 0) rfl; have s1 := bx.cell (k := 1) rfl; have g0 := bx.frozen 0; have g1 := bx.frozen 1; have bx := Lib.hid bx))
        | (refine (zc (ws.drew.alloc mZ) Ba).mono ?_; (rintro e w1 ⟨A1, c1, rfl, hc1, o1, B1⟩; have C1 := step_trans Ba B1; have bx : BlkR 55 w1 ws.heap.size [.int .i64 0, .slice none 0 0] := (BlkR.new ws.drew [.int .i64 0, .slice none 0 0] 55).below B1 (BlkR.new ws.drew [.int .i64 0, .slice none 0 0] 55).lt; have s0 := bx.cell (k := 0) rfl; have s1 := bx.cell (k := 1) rfl; have g0 := bx.frozen 0; have g1 := bx.frozen 1; have bx := Lib.hid bx; have hB : ws.heap.size ≤ ws.heap.size := Nat.le_refl _))))
    all_goals (go_wp2_with fail; go_meet)
    · exact ⟨_, _, _, rfl, hc1, C1.size, BlkR.new w1 [.int .i64 (N : Int), .slice A1 n c1] _, (o1.step (step_alloc (Below.refl _ w1) _)).less (Nat.le_refl _), step_alloc C1 _⟩
    · have hF : Frame (fun j => j = ws.heap.size) w1 ((w1.setCell ⟨ws.heap.size, 0, none⟩ (.int .i64 (N : Int))).setCell ⟨ws.heap.size, 1, none⟩ (.slice A1 n c1)) := ((Frame.refl (fun j => j = ws.heap.size) w1).setAt ⟨ws.heap.size, 0, none⟩ _ rfl).setAt ⟨ws.heap.size, 1, none⟩ _ rfl
      exact ⟨_, _, _, rfl, hc1, Nat.le_refl _, (bx.out.set_ 0 _).set_ 1 _, (o1.frame hF (fun j e => by rw [e]; simp)).less (by simp), (C1.setCell (p := ⟨_, 0, none⟩) hB _).setCell (p := ⟨_, 1, none⟩) hB _⟩
  case rest =>
    obtain ⟨B, A1, c1, rfl, hc1, hB, bm, oW, BC⟩ := hcut
    obtain ⟨fs, rs, hlt, hok, ht, hr, hn, h160, hT, hP, he, hN⟩ := HX.out
    have sws := fs.size
    have hlt2 : ∀ j, F j → j < ws.heap.size := fun j hj => Nat.lt_of_lt_of_le (hlt j hj) sws
    -- the world that the next region draws
    obtain ⟨wd, hwd⟩ : ∃ wd, wd = { wc with drawn := wc.drawn + 1 } := ⟨_, rfl⟩
    have D1 : Below ws.heap.size ws wd := by rw [hwd]; exact BC.drew
    have Dc : Below wc.heap.size wc wd := by rw [hwd]; exact (Below.refl _ wc).drew
    have rd := rs.step hlt2 D1
    have hsw := BC.size
    obtain ⟨G, hG⟩ : ∃ G : Nat → Prop, G = fun j => F j ∨ (ws.heap.size ≤ j ∧ j < wc.heap.size) := ⟨_, rfl⟩
    have hGlt : ∀ j, G j → j < wd.heap.size := fun j hj => by
      have := Dc.size
      rw [hG] at hj
      rcases hj with hj | hj
      · have := hlt2 j hj; omega
      · omega
    have rdG : RgAt 63 G wd b 3 (sPre b { s with sent := s.sent + 1 }) (sPost s) its f s.wait := ⟨rd.blk, rd.off, rd.its.wide fun j hj => by rw [hG]; exact .inl hj, fun e => by
      rw [hG] at e
      have := rs.blk.lt
      exact e.elim rs.in_ fun y => by omega⟩
    have md := BlkR.below bm Dc bm.lt
    have oD := oW.step Dc
    have hpay : PayAt G wd (.slice A1 n c1) p := ⟨A1, c1, by rw [hn], by have := oW.cap; omega, oD.bytes, fun ad e hne => by
      rw [hG]
      refine .inr ⟨oW.new ad e hne, ?_⟩
      obtain ⟨ad', e', hl', _⟩ := oW.bytes hne
      rw [e] at e'; cases e'; exact hl'⟩
    have zp := put_go 63 G b 3 (sPre b { s with sent := s.sent + 1 }) (sPost s) its f s.wait (s.sent + 1, p) (.slice A1 n c1) wd rdG hpay hGlt
    have sok : (s.send p).Ok := Ss.send_ok hok p he
    have y0 := md.cell (k := 0) rfl
    have y1 := md.cell (k := 1) rfl
    have tD : TabAt wd := (ht.frame fs (fun e => hT e.symm)).below D1 (Nat.le_refl _)
    have HB := Lib.hid hB
    have HZ := Lib.hid (And.intro Dc (And.intro oD (And.intro sok (And.intro hGlt (And.intro hG (And.intro tD (And.intro md (And.intro D1 (And.intro hn hN)))))))))
    rw [← hN] at zp
    clear fs rs hlt hok ht hr hn h160 hT hP he hN sws hlt2 D1 Dc rd hsw hG hGlt rdG md oD hpay sok tD KX Bd Ba zc x2 bm oW BC hB
    go_wp2
    refine region_tail 4 (by kernel_rfl) (by kernel_rfl) wd hwd ?_
    clear hwd
    simp only [List.take_succ_cons, List.take_zero, List.drop_succ_cons, List.drop_zero]
    repeat still_step
    refine wpStill_nil ?_
    have TELL : Hid (∀ w5 its5 f5, RgAt 63 G w5 b 3 (sPre b { s with sent := N }) (sPost s) its5 f5 (Ss.push s.wait (N, p)) → Frame (fun j => j = b) wd w5 →
        (w5.cell? ⟨B, 0, none⟩ = some (.int .i64 (N : Int)) ∧ w5.cell? ⟨B, 1, none⟩ = some (.slice A1 n c1)) ∧ SesAt w5 b G (s.send p) ∧ Calls Tryd.prog 37 #[.pointer (some ⟨b, 0, none⟩), .agg #[.int .i64 (N : Int), .slice A1 n c1]] w5 (DatPost ((s.send p).dat (s.sent + 1, p)) n w5)) := Lib.hid fun w5 its5 f5 r5 fr5 => by
      obtain ⟨Dc, oD, sok, hGlt, hG, tD, md, D1, hn, hN⟩ := HZ.out
      obtain ⟨fs, rs, hlt, hok, ht, hr, _, h160, hT, hP, he, _⟩ := HX.out
      have hbl := rs.blk.lt
      have hBb : ¬ B = b := by have := HB.out; omega
      have m5 := md.frame fr5 hBb
      rw [hN] at r5
      have S5 : SesAt w5 b G (s.send p) := ⟨⟨its5, f5, r5⟩, fun j hj => Nat.lt_of_lt_of_le (hGlt j hj) fr5.size, sok⟩
      have o5 : BytesAt w5 w5.heap.size A1 p := by
        by_cases hp : p = []
        · subst hp; exact bytes_nil
        · exact fr5.bytes oD.bytes fun ad e e2 => by have := oD.new ad e hp; have := fs.size; omega
      refine ⟨⟨m5.cell (k := 0) rfl, m5.cell (k := 1) rfl⟩, S5, ?_⟩
      rw [hN]
      exact tell_any b G (s.send p) w5 S5 (tD.frame fr5 fun e => hT e.symm) (s.sent + 1, p) (Ss.dat_ok sok _ (.inr ⟨by simp, by simp [Ss.S.send], by show p.length ≤ 160; omega⟩)) A1 n c1 hn o5
    go_wp2_with (first
      | (go_at_call 36; refine zp.mono ?_; (rintro e w5 ⟨rfl, ⟨its5, f5, r5⟩, fr5⟩; obtain ⟨⟨z0, z1⟩, S5, zt⟩ := TELL.out w5 its5 f5 r5 fr5; unfold DatPost at zt; have HS := Lib.hid S5))
      | (go_at_call 37; refine zt.mono ?_; (rintro e w6 ⟨A6, c6, rfl, h61, h62, h63, h64⟩)))
    go_ret2
    obtain ⟨Dc, oD, sok, hGlt, hG, tD, md, D1, hn, hN⟩ := HZ.out
    obtain ⟨fs, rs, hlt, hok, ht, hr, _, h160, hT, hP, he, _⟩ := HX.out
    have s1 := fs.size
    have s2 := D1.size
    have s3 := fr5.size
    refine ⟨G, A6, c6, rfl, h61, h62, HS.out.step h64, fun j hj => ?_, h63.less (by omega), fun j hj hg => ?_, ?_⟩
    · rw [hG] at hj
      exact hj.imp id fun y => by omega
    · obtain ⟨h0, ad, e, hk⟩ := hj
      subst e
      have h7 := (h63.lt ad.block rfl).1
      have h8 := hGlt j hg
      omega
    · exact (((fs.trans (Frame.of_below (F := fun _ => False) D1) fun _ x => x.elim).trans fr5 fun j e => .inl e).trans (Frame.of_below (F := fun _ => False) h64) fun _ x => x.elim)
end Go.Proofs.YtfopjilncfndnaaDoor
