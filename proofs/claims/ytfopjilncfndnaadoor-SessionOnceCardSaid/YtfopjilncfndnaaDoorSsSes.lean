/-
  A session in memory: isMade, New, Boot, Other, Waiting, tell, Ack. Conditions: the table of crc lies as the program's text lays it, beside the session.
-/
import Derived.Test.YtfopjilncfndnaaDoorSsKeep
import Derived.Test.YtfopjilncfndnaaDoorSsRead
import Derived.LaidEqlPtr
namespace Go.Proofs.YtfopjilncfndnaaDoor
open Go.RowKit Fix

def sPre (b : Nat) (s : Ss.S) : List Value := [.pointer (some ⟨b, 0, none⟩), .int .i64 (s.boot : Int), .int .i64 (s.sent : Int)]
def sPost (s : Ss.S) : List Value := [.int .i64 (s.o.boot : Int), .int .i64 (s.o.top : Int), .int .u64 (s.o.came : Int)]
/-- a session: at b; what waits lies in blocks of F -/
structure SesAt (w : World) (b : Nat) (F : Nat → Prop) (s : Ss.S) : Prop where
  rg : ∃ its f, RgAt 63 F w b 3 (sPre b s) (sPost s) its f s.wait
  lt : ∀ j, F j → j < w.heap.size
  ok : s.Ok
section
variable {w w' : World} {b : Nat} {F : Nat → Prop} {s : Ss.S}
theorem SesAt.frame {X : Nat → Prop} (h : SesAt w b F s) (hX : Frame X w w') (hb : ¬ X b) (hk : ∀ j, F j → ¬ X j) : SesAt w' b F s := by
  obtain ⟨⟨its, f, r⟩, l, o⟩ := h
  exact ⟨⟨its, f, r.frame l hX hb hk⟩, fun j hj => by have := l j hj; have := hX.size; omega, o⟩
theorem SesAt.blt (h : SesAt w b F s) : b < w.heap.size := by obtain ⟨⟨its, f, r⟩, _, _⟩ := h; exact r.blk.lt
theorem SesAt.bF (h : SesAt w b F s) : ¬ F b := by obtain ⟨⟨its, f, r⟩, _, _⟩ := h; exact r.in_
theorem SesAt.step (h : SesAt w b F s) (hb : Below w.heap.size w w') : SesAt w' b F s := by
  obtain ⟨⟨its, f, r⟩, l, o⟩ := h
  exact ⟨⟨its, f, r.step l hb⟩, fun j hj => by have := l j hj; have := hb.size; omega, o⟩
/-- a session's plain cells -/
theorem ses_cells {its : List Value} {f : Nat} (r : RgAt 63 F w b 3 (sPre b s) (sPost s) its f s.wait) :
    w.cell? ⟨b, 0, none⟩ = some (.pointer (some ⟨b, 0, none⟩)) ∧ w.cell? ⟨b, 1, none⟩ = some (.int .i64 (s.boot : Int)) ∧ w.cell? ⟨b, 2, none⟩ = some (.int .i64 (s.sent : Int)) ∧
    w.cell? ⟨b, 36, none⟩ = some (.int .i64 (s.wait.length : Int)) ∧
    w.cell? ⟨b, 37, none⟩ = some (.int .i64 (s.o.boot : Int)) ∧ w.cell? ⟨b, 38, none⟩ = some (.int .i64 (s.o.top : Int)) ∧ w.cell? ⟨b, 39, none⟩ = some (.int .u64 (s.o.came : Int)) := by
  have hl := r.its.len
  have hn : (sPre b s ++ rgL its f s.wait.length).length = 37 := by simp [sPre, rgL, hl]
  refine ⟨r.blk.cell rfl, r.blk.cell rfl, r.blk.cell rfl, r.count, r.blk.cell ?_, r.blk.cell ?_, r.blk.cell ?_⟩
  all_goals (rw [List.getElem?_append_right (by omega), hn]; rfl)
end
set_option maxRecDepth 100000 in
theorem isMade_yes (b : Nat) (w : World) (h : w.cell? ⟨b, 0, none⟩ = some (.pointer (some ⟨b, 0, none⟩))) : Calls Tryd.prog 31 #[.pointer (some ⟨b, 0, none⟩)] w fun e w' => e = .returned (.bool true) ∧ w = w' := by
  have he : ∀ w, (binOp .eql 24 (.pointer (some ⟨b, 0, none⟩)) (.pointer (some ⟨b, 0, none⟩))).run Tryd.prog w = .ok (.bool true) w := fun w => by
    obtain ⟨j, hj⟩ : ∃ j, Tryd.prog.info? 63 = some j := Option.isSome_iff_exists.1 (by kernel_rfl)
    exact run_eql_ptr_same w _ (tp := 24) (te := 63) (by kernel_rfl) hj
  go_enter Tryd.func31, Tryd.ntmps31
  go_wp2
  go_ret
  exact ⟨rfl, rfl⟩
set_option maxRecDepth 100000 in
theorem isMade_nil (w : World) : Calls Tryd.prog 31 #[.pointer none] w fun e w' => e = .returned (.bool false) ∧ w = w' := by
  go_enter Tryd.func31, Tryd.ntmps31
  go_wp2
  go_ret
  exact ⟨rfl, rfl⟩
set_option maxRecDepth 100000 in
theorem isMade_no (b : Nat) (w : World) (h : w.cell? ⟨b, 0, none⟩ = some (.pointer none)) : Calls Tryd.prog 31 #[.pointer (some ⟨b, 0, none⟩)] w fun e w' => e = .returned (.bool false) ∧ w = w' := by
  have he : ∀ w, (binOp .eql 24 (.pointer none) (.pointer (some ⟨b, 0, none⟩))).run Tryd.prog w = .ok (.bool false) w := fun w => by kernel_rfl
  go_enter Tryd.func31, Tryd.ntmps31
  go_wp2
  go_ret
  exact ⟨rfl, rfl⟩
set_option maxRecDepth 100000 in
theorem boot_any (b : Nat) (F : Nat → Prop) (s : Ss.S) (w : World) (h : SesAt w b F s) : Calls Tryd.prog 10 #[.pointer (some ⟨b, 0, none⟩)] w fun e w' => e = .returned (.int .i64 (s.boot : Int)) ∧ w = w' := by
  obtain ⟨⟨its, f, r⟩, _, _⟩ := h
  obtain ⟨c0, c1, _⟩ := ses_cells r
  have zm := isMade_yes b w c0
  clear r
  go_enter Tryd.func10, Tryd.ntmps10
  go_wp2_with (go_at_call 31; refine zm.mono ?_; (rintro e w2 ⟨rfl, rfl⟩))
  go_ret
  exact ⟨rfl, rfl⟩
set_option maxRecDepth 100000 in
theorem other_any (b : Nat) (F : Nat → Prop) (s : Ss.S) (w : World) (h : SesAt w b F s) : Calls Tryd.prog 11 #[.pointer (some ⟨b, 0, none⟩)] w fun e w' => e = .returned (.int .i64 (s.o.boot : Int)) ∧ w = w' := by
  obtain ⟨⟨its, f, r⟩, _, _⟩ := h
  obtain ⟨c0, _, _, _, c1, _⟩ := ses_cells r
  have zm := isMade_yes b w c0
  clear r
  go_enter Tryd.func11, Tryd.ntmps11
  go_wp2_with (go_at_call 31; refine zm.mono ?_; (rintro e w2 ⟨rfl, rfl⟩))
  go_ret
  exact ⟨rfl, rfl⟩
set_option maxRecDepth 100000 in
theorem waiting_any (b : Nat) (F : Nat → Prop) (s : Ss.S) (w : World) (h : SesAt w b F s) : Calls Tryd.prog 12 #[.pointer (some ⟨b, 0, none⟩)] w fun e w' => e = .returned (.int .i64 (s.wait.length : Int)) ∧ w = w' := by
  obtain ⟨⟨its, f, r⟩, _, _⟩ := h
  obtain ⟨c0, _, _, c1, _⟩ := ses_cells r
  have zm := isMade_yes b w c0
  clear r
  go_enter Tryd.func12, Tryd.ntmps12
  go_wp2_with (go_at_call 31; refine zm.mono ?_; (rintro e w2 ⟨rfl, rfl⟩))
  go_ret
  exact ⟨rfl, rfl⟩
set_option maxRecDepth 100000 in
theorem new_no (n : Int) (w : World) (h : n < 1 ∨ 1099511627776 < n) : Calls Tryd.prog 6 #[.int .i64 n] w fun e w' => e = .returned (.tuple #[.pointer none, .int .i64 5]) ∧ w = w' := by
  by_cases h1 : n < 1
  · have i1 : decide (n < 1) = true := by simp; omega
    go_enter Tryd.func6, Tryd.ntmps6
    go_wp2
    go_ret2
    exact ⟨rfl, rfl⟩
  · have i1 : decide (n < 1) = false := by simp; omega
    have i2 : decide (1099511627776 < n) = true := by simp; omega
    clear h1 h
    go_enter Tryd.func6, Tryd.ntmps6
    go_wp2
    go_ret2
    exact ⟨rfl, rfl⟩
set_option maxRecDepth 100000 in
set_option maxHeartbeats 1000000 in
theorem new_yes (n : Nat) (w : World) (h1 : 1 ≤ n) (h2 : n ≤ 1099511627776) : Calls Tryd.prog 6 #[.int .i64 (n : Int)] w fun e w' => e = .returned (.tuple #[.pointer (some ⟨w.heap.size, 0, none⟩), .int .i64 0]) ∧ SesAt w' w.heap.size (fun _ => False) (Ss.new n) ∧ Below w.heap.size w w' := by
  have i1 : decide ((n : Int) < 1) = false := by simp; omega
  have i2 : decide ((1099511627776 : Int) < (n : Int)) = false := by simp; omega
  have HN := Lib.hid (And.intro h1 h2)
  clear h1 h2
  go_enter Tryd.func6, Tryd.ntmps6
  go_wp2
  go_ret2
  refine ⟨rfl, ⟨⟨its0, 0, ?_, rfl, Its.nil_ rfl its0_one (by decide), fun e => e⟩, fun j e => e.elim, Ss.new_ok n HN.out.1 HN.out.2⟩, ?_⟩
  · exact heap_alloc_new w _
  · exact step_alloc (Below.refl _ w) _
theorem DatPost.less {d : Ss.D} {n : Nat} {w w0 : World} {e : Ending} {w' : World} (h : DatPost d n w e w') (B : Below w0.heap.size w0 w) : DatPost d n w0 e w' := by
  obtain ⟨A, c, h1, h2, h3, h4, h5⟩ := h
  exact ⟨A, c, h1, h2, h3, h4.less B.size, step_trans B h5⟩
set_option maxRecDepth 100000 in
set_option maxHeartbeats 1000000 in
theorem tell_any (b : Nat) (F : Nat → Prop) (s : Ss.S) (w : World) (h : SesAt w b F s) (ht : TabAt w) (m : Nat × List UInt8) (hm : (s.dat m).Ok) (A : Option Addr) (n c : Nat) (hn : m.2.length = n) (hr : BytesAt w w.heap.size A m.2) :
    Calls Tryd.prog 37 #[.pointer (some ⟨b, 0, none⟩), .agg #[.int .i64 (m.1 : Int), .slice A n c]] w (DatPost (s.dat m) n w) := by
  obtain ⟨w1, hw1⟩ : ∃ w1, w1 = w.alloc (.cells #[.int .i64 (m.1 : Int), .slice A n c] 55) := ⟨_, rfl⟩
  have B1 : Below w.heap.size w w1 := by rw [hw1]; exact (Below.refl _ _).alloc (Nat.le_refl _) _
  obtain ⟨wd, hwd⟩ : ∃ wd, wd = { w1 with drawn := w1.drawn + 1 } := ⟨_, rfl⟩
  have D1 : Below w.heap.size w wd := by rw [hwd]; exact B1.drew
  obtain ⟨⟨its, f, r⟩, _, _⟩ := h.step D1
  obtain ⟨_, c1, _, _, c37, c38, c39⟩ := ses_cells r
  have b1 : BlkR 55 w1 w.heap.size [.int .i64 (m.1 : Int), .slice A n c] := by rw [hw1]; exact BlkR.new w _ _
  have n0 : wd.cell? ⟨w.heap.size, 0, none⟩ = some (.int .i64 (m.1 : Int)) := by rw [hwd]; exact b1.cell (k := 0) rfl
  have n1 : wd.cell? ⟨w.heap.size, 1, none⟩ = some (.slice A n c) := by rw [hwd]; exact b1.cell (k := 1) rfl
  have zb : Calls Tryd.prog 45 #[.agg #[.int .i64 ((s.dat m).boot : Int), .int .i64 ((s.dat m).num : Int), .int .i64 ((s.dat m).o.boot : Int), .int .i64 ((s.dat m).o.top : Int), .int .u64 ((s.dat m).o.came : Int), .slice A n c]] wd fun e w' => ∃ v, e = .returned v ∧ DatPost (s.dat m) n wd (.returned v) w' :=
    (datBytes_any (s.dat m) hm A n c hn wd (ht.below D1 (Nat.le_refl _)) (hr.step D1)).mono fun e w' h => by
      obtain ⟨A, c, he, h⟩ := h
      exact ⟨_, he, A, c, rfl, h⟩
  simp only [Ss.S.dat] at zb
  have HD := Lib.hid D1
  obtain ⟨x0, h0⟩ : ∃ x, x = s.boot := ⟨_, rfl⟩
  obtain ⟨x1, h1⟩ : ∃ x, x = m.1 := ⟨_, rfl⟩
  obtain ⟨x2, h2⟩ : ∃ x, x = s.o.boot := ⟨_, rfl⟩
  obtain ⟨x3, h3⟩ : ∃ x, x = s.o.top := ⟨_, rfl⟩
  obtain ⟨x4, h4⟩ : ∃ x, x = s.o.came := ⟨_, rfl⟩
  have HP : Hid (∀ e w', DatPost ⟨s.boot, m.1, s.o, m.2⟩ n wd e w' → DatPost (s.dat m) n w e w') := Lib.hid fun e w' h => h.less D1
  obtain ⟨P, hP⟩ : ∃ P, P = DatPost ⟨s.boot, m.1, s.o, m.2⟩ n wd := ⟨_, rfl⟩
  obtain ⟨Q, hQ⟩ : ∃ Q, Q = DatPost (s.dat m) n w := ⟨_, rfl⟩
  rw [← hP, ← hQ] at HP
  rw [← hP] at zb
  rw [← hQ]
  rw [← h0] at c1 zb
  rw [← h1] at n0 zb
  rw [← h2] at c37 zb
  rw [← h3] at c38 zb
  rw [← h4] at c39 zb
  rw [← h1] at hw1 ⊢
  clear h0 h1 h2 h3 h4 hP hQ r h ht hm hn hr b1 D1 B1
  go_enter Tryd.func37, Tryd.ntmps37
  go_wp2
  rw [← hw1]
  refine region_tail 13 (by kernel_rfl) (by kernel_rfl) wd hwd ?_
  clear hw1 hwd
  simp only [List.take_succ_cons, List.take_zero, List.drop_succ_cons, List.drop_zero]
  repeat still_step
  refine wpStill_nil ?_
  go_wp2_with (go_at_call 45; refine zb.mono ?_; (rintro e w2 ⟨v, rfl, hE⟩))
  exact HP.out _ _ hE
/-- an Ack -/
def AckPost (s : Ss.S) (w : World) (e : Ending) (w' : World) : Prop :=
  ∃ A c, e = .returned (.tuple #[.slice A 41 c, .int .i64 0]) ∧ 41 ≤ c ∧ c ≤ 9223372036854775807 ∧ OwnZ w' w.heap.size (.slice A 41 c) (s.dat (0, [])).enc ∧ Below w.heap.size w w'
set_option maxRecDepth 100000 in
theorem ack_any (b : Nat) (F : Nat → Prop) (s : Ss.S) (w : World) (h : SesAt w b F s) (ht : TabAt w) : Calls Tryd.prog 25 #[.pointer (some ⟨b, 0, none⟩)] w (AckPost s w) := by
  have zt := tell_any b F s w h ht (0, []) (Ss.dat_ok h.ok _ (.inl ⟨rfl, rfl⟩)) none 0 0 rfl bytes_nil
  unfold DatPost at zt
  obtain ⟨⟨its, f, r⟩, _, _⟩ := h
  obtain ⟨c0, _⟩ := ses_cells r
  have zm := isMade_yes b w c0
  unfold AckPost
  obtain ⟨E, hE⟩ : ∃ E, E = (s.dat (0, [])).enc := ⟨_, rfl⟩
  rw [← hE] at zt ⊢
  clear r ht hE
  go_enter Tryd.func25, Tryd.ntmps25
  go_wp2_with (first
    | (go_at_call 31; refine zm.mono ?_; (rintro e w2 ⟨rfl, rfl⟩))
    | (go_at_call 37; refine zt.mono ?_; (rintro e w2 ⟨A, c, rfl, h1, h2, h3, h4⟩)))
  go_ret2
  exact ⟨A, c, rfl, h1, h2, h3, h4⟩
end Go.Proofs.YtfopjilncfndnaaDoor
