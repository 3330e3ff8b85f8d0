/-
  slot.keep, slot.Save: what they tell, and make of a disk. Conditions: a disk's methods do what the document says; at most so many changes; the table of crc lies as the program's text lays it.
-/
import Derived.Test.YtcahpodmcklnbaaGreatDoorSb
namespace Go.Proofs.YtcahpodmcklnbaaGreatDoor
open Go.RowKit Fix

/-- a change of a disk -/
def ChgPost (At : World → Nat → (Nat → Prop) → DS → Prop) (b : Nat) (F : Nat → Prop) (T : DS × Int) (w : World) (e : Ending) (w' : World) : Prop :=
  ∃ F', e = .returned (.int .i64 T.2) ∧ At w' b F' T.1 ∧ (∀ k, F' k → F k ∨ w.heap.size ≤ k) ∧ Frame F w w'
theorem ops_write (S : DS) (i : Int) (l : List UInt8) : (S.write i l).1.ops ≤ S.ops + 1 := by
  unfold DS.write DS.chg
  split
  · simp
  · split
    · simp
    · split
      · simp
      · rcases S.left with _ | _ | k <;> simp
theorem ops_flush (S : DS) : S.flush.1.ops ≤ S.ops + 1 := by
  unfold DS.flush DS.chg
  split
  · simp
  · rcases S.left with _ | _ | k <;> simp [DS.settle]
theorem ops_put1 (S : DS) (i : Int) (l : List UInt8) : (Slot.put1 S i l).1.ops ≤ S.ops + 2 := by
  unfold Slot.put1
  have h1 := ops_write S i l
  split
  · have := ops_flush (S.write i l).1; omega
  · omega
section
variable {At : World → Nat → (Nat → Prop) → DS → Prop} (D : Disks Tryz.prog At)
include D
theorem keep_any (w : World) (b : Nat) (F : Nat → Prop) (S : DS) (i : Int) (A : Option Addr) (l : List UInt8) (n c : Nat) (h : At w b F S) (ho : S.ops ≤ 999000) (hr : BytesAt w w.heap.size A l) (hn : l.length = n) (hc : n ≤ c) :
    Calls Tryz.prog 33 #[.pointer (some ⟨b, 0, none⟩), .int .i64 i, .slice A n c] w (ChgPost At b F (Slot.put1 S i l) w) := by
  have zw := D.write w b F S i A l n c h (by omega) hr hn hc
  have hops := ops_write S i l
  unfold ChgPost Slot.put1
  by_cases hx : (S.write i l).2 = 0
  · rw [if_pos hx]
    rw [hx] at zw
    have zf := fun w F' h => D.flush w b F' (S.write i l).1 h (by omega)
    obtain ⟨T, hT⟩ : ∃ T, T = (S.write i l).1 := ⟨_, rfl⟩
    rw [← hT] at zw zf ⊢
    clear hT hx hops h hr
    obtain ⟨x, hx⟩ : ∃ x, x = T.flush.2 := ⟨_, rfl⟩
    obtain ⟨U, hU⟩ : ∃ x, x = T.flush.1 := ⟨_, rfl⟩
    rw [← hx, ← hU] at zf ⊢
    clear hx hU
    go_enter Tryz.func33, Tryz.ntmps33
    go_wp2_with (first
      | (go_at_call 44; refine zw.mono ?_; (rintro e w1 ⟨F1, rfl, h1, hF1, fr1⟩))
      | (go_at_call 45; refine (zf w1 F1 h1).mono ?_; (rintro e w2 ⟨F2, rfl, h2, hF2, fr2⟩)))
    go_ret
    refine ⟨F2, rfl, h2, fun k hk => ?_, fr1.trans fr2 fun k hk => hF1 k hk⟩
    rcases hF2 k hk with h | h
    · exact hF1 k h
    · exact .inr (Nat.le_trans fr1.size h)
  · rw [if_neg hx]
    obtain ⟨x, hx'⟩ : ∃ x, x = (S.write i l).2 := ⟨_, rfl⟩
    obtain ⟨T, hT⟩ : ∃ T, T = (S.write i l).1 := ⟨_, rfl⟩
    rw [← hx'] at hx
    rw [← hx', ← hT] at zw ⊢
    have hne : (x != 0) = true := by simpa using hx
    clear hx' hT hops h hr hx
    go_enter Tryz.func33, Tryz.ntmps33
    go_wp2_with (go_at_call 44; refine zw.mono ?_; (rintro e w1 ⟨F1, rfl, h1, hF1, fr1⟩))
    go_ret
    exact ⟨F1, rfl, h1, hF1, fr1⟩
set_option maxRecDepth 100000 in
theorem save_long (w : World) (b : Nat) (F : Nat → Prop) (S : DS) (i : Int) (A : Option Addr) (m c : Nat) (ht : TabAt w) (h : At w b F S) (hS : ((S.n : Int) == 0) = false) (h40 : (40 : Int) < (m : Int)) :
    Calls Tryz.prog 13 #[.pointer (some ⟨b, 0, none⟩), .int .i64 i, .slice A m c] w (ChgPost At b F (S, 3) w) := by
  go_enter Tryz.func13, Tryz.ntmps13
  go_wp2_with (first
    | (go_at_call 29; refine (D.sectors w b F S h).mono ?_; (rintro e w1 ⟨rfl, B1⟩; have h1 := At_step D h B1; have t1 := ht.below B1 (Nat.le_refl _))))
  go_ret
  exact ⟨F, rfl, h1, fun k hk => .inl hk, Frame.of_below B1⟩
set_option maxRecDepth 100000 in
theorem save_err (w : World) (b : Nat) (F : Nat → Prop) (S : DS) (i : Int) (A : Option Addr) (r : List UInt8) (m c : Nat) (hm : r.length = m) (ht : TabAt w) (h : At w b F S) (hS : ((S.n : Int) == 0) = false) (h40 : ¬ (40 : Int) < (m : Int)) (r0 x0 r1 x1 n0 n1 : Int) (l0 l1 : List UInt8) (lo : Int) (hlo : (lo != 0) = true) (zb : ∀ w, TabAt w → At w b F S → Calls Tryz.prog 30 #[.pointer (some ⟨b, 0, none⟩), .int .i64 i] w (BothIs r0 x0 n0 l0 r1 x1 n1 l1 lo w)) :
    Calls Tryz.prog 13 #[.pointer (some ⟨b, 0, none⟩), .int .i64 i, .slice A m c] w (ChgPost At b F (S, lo) w) := by
  unfold BothIs at zb
  go_enter Tryz.func13, Tryz.ntmps13
  go_wp2_with (first
    | (go_at_call 29; refine (D.sectors w b F S h).mono ?_; (rintro e w1 ⟨rfl, B1⟩; have h1 := At_step D h B1; have t1 := ht.below B1 (Nat.le_refl _)))
    | (go_at_call 30; refine (zb w1 t1 h1).mono ?_; (rintro e w2 ⟨A0, c0, A1, c1, rfl, o0, o1, B2⟩; have B12 := step_trans B1 B2; clear o0 o1))
    | ((with_reducible refine atWorld w2 ?_); refine wpList_allocRow (w := w2) bothTy rfl rfl ?_; (intro w3 b3 B3 s3; have b3 := Lib.hid b3))
    | ((with_reducible refine atWorld w3 ?_); refine wpList_storeRow (w := w3) bothTy rfl (.tmp 7) (.tmp 24) rfl w2.heap.size (bothL r0 x0 n0 A0 l0.length c0 r1 x1 n1 A1 l1.length c1) bothZ rfl rfl rfl rfl bothL_one b3.out ?_; (intro w4 b4 B4 s4 k4; have B24 : Below w2.heap.size w2 w4 := B3.trans B4; have B14 := step_trans B12 B24; have b4 := Lib.hid b4)))
  go_ret
  exact ⟨F, rfl, At_step D h B14, fun k hk => .inl hk, Frame.of_below B14⟩
set_option maxRecDepth 100000 in
theorem save_full0 (w : World) (b : Nat) (F : Nat → Prop) (S : DS) (i : Int) (A : Option Addr) (r : List UInt8) (m c : Nat) (hm : r.length = m) (ht : TabAt w) (h : At w b F S) (hr : BytesAt w w.heap.size A r) (hS : ((S.n : Int) == 0) = false) (h40 : ¬ (40 : Int) < (m : Int)) (r0 x0 r1 x1 n1 : Int) (l0 l1 : List UInt8) (hlt : ¬ 1099511627776 < n1) (zb : ∀ w, TabAt w → At w b F S → Calls Tryz.prog 30 #[.pointer (some ⟨b, 0, none⟩), .int .i64 i] w (BothIs r0 x0 1099511627776 l0 r1 x1 n1 l1 0 w)) :
    Calls Tryz.prog 13 #[.pointer (some ⟨b, 0, none⟩), .int .i64 i, .slice A m c] w (ChgPost At b F (S, 8) w) := by
  have HIF := Lib.hid (show (if (1099511627776 : Int) < n1 then (1 : Int) else 0) = 0 by rw [if_neg hlt])
  unfold BothIs at zb
  go_enter Tryz.func13, Tryz.ntmps13
  go_wp2_with (first
    | (go_at_call 29; refine (D.sectors w b F S h).mono ?_; (rintro e w1 ⟨rfl, B1⟩; have h1 := At_step D h B1; have t1 := ht.below B1 (Nat.le_refl _)))
    | (go_at_call 30; refine (zb w1 t1 h1).mono ?_; (rintro e w2 ⟨A0, c0, A1, c1, rfl, o0, o1, B2⟩; have B12 := step_trans B1 B2; clear o0 o1))
    | ((with_reducible refine atWorld w2 ?_); refine wpList_allocRow (w := w2) bothTy rfl rfl ?_; (intro w3 b3 B3 s3; have b3 := Lib.hid b3))
    | ((with_reducible refine atWorld w3 ?_); refine wpList_storeRow (w := w3) bothTy rfl (.tmp 7) (.tmp 24) rfl w2.heap.size (bothL r0 x0 1099511627776 A0 l0.length c0 r1 x1 n1 A1 l1.length c1) bothZ rfl rfl rfl rfl bothL_one b3.out ?_; (intro w4 b4 B4 s4 k4; have B24 : Below w2.heap.size w2 w4 := B3.trans B4; have B14 := step_trans B12 B24; have b4 := Lib.hid b4))
    | ((with_reducible refine atWorld w4 ?_); refine wpList_loadRow (w := w4) bothTy rfl (.tmp 7) rfl w2.heap.size 0 (bothL r0 x0 1099511627776 A0 l0.length c0 r1 x1 n1 A1 l1.length c1) rfl rfl (rangeOf b4.out) ?_)
    | (go_at_call 31; refine (newest_any r0 x0 1099511627776 A0 l0.length c0 r1 x1 n1 A1 l1.length c1 w4).mono ?_; (rintro e w5 ⟨rfl, B5⟩; rw [HIF.out]; have b5 := b4.out.step B5; have y2 : w5.cell? ⟨w2.heap.size, 2, none⟩ = some (.int .i64 1099511627776) := b5.cell rfl; have y6 : w5.cell? ⟨w2.heap.size, 6, none⟩ = some (.int .i64 n1) := b5.cell rfl; have B15 := step_trans B14 B5; have h5 := At_step D h B15; have t5 := ht.below B15 (Nat.le_refl _); have r5 := hr.step B15; clear b5)))
  go_ret
  exact ⟨F, rfl, h5, fun k hk => .inl hk, Frame.of_below B15⟩
set_option maxRecDepth 100000 in
theorem save_full1 (w : World) (b : Nat) (F : Nat → Prop) (S : DS) (i : Int) (A : Option Addr) (r : List UInt8) (m c : Nat) (hm : r.length = m) (ht : TabAt w) (h : At w b F S) (hr : BytesAt w w.heap.size A r) (hS : ((S.n : Int) == 0) = false) (h40 : ¬ (40 : Int) < (m : Int)) (r0 x0 r1 x1 n0 : Int) (l0 l1 : List UInt8) (hlt : n0 < 1099511627776) (zb : ∀ w, TabAt w → At w b F S → Calls Tryz.prog 30 #[.pointer (some ⟨b, 0, none⟩), .int .i64 i] w (BothIs r0 x0 n0 l0 r1 x1 1099511627776 l1 0 w)) :
    Calls Tryz.prog 13 #[.pointer (some ⟨b, 0, none⟩), .int .i64 i, .slice A m c] w (ChgPost At b F (S, 8) w) := by
  have HIF := Lib.hid (show (if (n0 : Int) < 1099511627776 then (1 : Int) else 0) = 1 by rw [if_pos hlt])
  unfold BothIs at zb
  go_enter Tryz.func13, Tryz.ntmps13
  go_wp2_with (first
    | (go_at_call 29; refine (D.sectors w b F S h).mono ?_; (rintro e w1 ⟨rfl, B1⟩; have h1 := At_step D h B1; have t1 := ht.below B1 (Nat.le_refl _)))
    | (go_at_call 30; refine (zb w1 t1 h1).mono ?_; (rintro e w2 ⟨A0, c0, A1, c1, rfl, o0, o1, B2⟩; have B12 := step_trans B1 B2; clear o0 o1))
    | ((with_reducible refine atWorld w2 ?_); refine wpList_allocRow (w := w2) bothTy rfl rfl ?_; (intro w3 b3 B3 s3; have b3 := Lib.hid b3))
    | ((with_reducible refine atWorld w3 ?_); refine wpList_storeRow (w := w3) bothTy rfl (.tmp 7) (.tmp 24) rfl w2.heap.size (bothL r0 x0 n0 A0 l0.length c0 r1 x1 1099511627776 A1 l1.length c1) bothZ rfl rfl rfl rfl bothL_one b3.out ?_; (intro w4 b4 B4 s4 k4; have B24 : Below w2.heap.size w2 w4 := B3.trans B4; have B14 := step_trans B12 B24; have b4 := Lib.hid b4))
    | ((with_reducible refine atWorld w4 ?_); refine wpList_loadRow (w := w4) bothTy rfl (.tmp 7) rfl w2.heap.size 0 (bothL r0 x0 n0 A0 l0.length c0 r1 x1 1099511627776 A1 l1.length c1) rfl rfl (rangeOf b4.out) ?_)
    | (go_at_call 31; refine (newest_any r0 x0 n0 A0 l0.length c0 r1 x1 1099511627776 A1 l1.length c1 w4).mono ?_; (rintro e w5 ⟨rfl, B5⟩; rw [HIF.out]; have b5 := b4.out.step B5; have y2 : w5.cell? ⟨w2.heap.size, 2, none⟩ = some (.int .i64 n0) := b5.cell rfl; have y6 : w5.cell? ⟨w2.heap.size, 6, none⟩ = some (.int .i64 1099511627776) := b5.cell rfl; have B15 := step_trans B14 B5; have h5 := At_step D h B15; have t5 := ht.below B15 (Nat.le_refl _); have r5 := hr.step B15; clear b5)))
  go_ret
  exact ⟨F, rfl, h5, fun k hk => .inl hk, Frame.of_below B15⟩
set_option maxRecDepth 100000 in
theorem save_zero_yes (w : World) (b : Nat) (F : Nat → Prop) (S : DS) (i : Int) (A : Option Addr) (r : List UInt8) (m c : Nat) (hm : r.length = m) (ht : TabAt w) (h : At w b F S) (hr : BytesAt w w.heap.size A r) (hS : ((S.n : Int) == 0) = false) (h40 : ¬ (40 : Int) < (m : Int)) (r0 x0 r1 x1 : Int) (l0 l1 : List UInt8) (N : Nat) (hN : (N : Int) = 1)  (hi0 : 0 ≤ i) (hi1 : i ≤ 1024) (hops : S.ops ≤ 990000) (zb : ∀ w, TabAt w → At w b F S → Calls Tryz.prog 30 #[.pointer (some ⟨b, 0, none⟩), .int .i64 i] w (BothIs r0 x0 0 l0 r1 x1 0 l1 0 w)) (hk : (Slot.put1 S i (Slot.sect N r)).2 = 0) :
    Calls Tryz.prog 13 #[.pointer (some ⟨b, 0, none⟩), .int .i64 i, .slice A m c] w (ChgPost At b F (Slot.put1 (Slot.put1 S i (Slot.sect N r)).1 (i + 1) (Slot.sect N r)) w) := by
  have HIF := Lib.hid (show (if (0 : Int) < 0 then (1 : Int) else 0) = 0 by rw [if_neg (by decide)])
  have eb := Slot.bytes_good' N r (by omega) (by omega)
  have hsl : (Slot.sect N r).length = 64 := Slot.sect_length N r (by omega)
  have HSL := Lib.hid hsl
  have zy := fun w t h => slotBytes_any (N : Int) A r m c hm w t h
  unfold BsPost at zy
  rw [eb.1, eb.2, hsl] at zy
  have w1_ : IntKind.i64.wrap (i + 1) = i + 1 := IntWalk.i64_in _ (by omega)
  have w2_ : IntKind.i64.wrap i = i := IntWalk.i64_in _ (by omega)
  rw [hN] at zy
  have zk0 := fun w A c h rr hc => keep_any D w b F S i A (Slot.sect N r) 64 c h (by omega) rr hsl hc
  have hop1 := ops_put1 S i (Slot.sect N r)
  have zk1 := fun w F' A c h rr hc => keep_any D w b F' (Slot.put1 S i (Slot.sect N r)).1 (i + 1) A (Slot.sect N r) 64 c h (by omega) rr hsl hc
  unfold ChgPost at zk0 zk1 ⊢
  rw [hk] at zk0
  obtain ⟨T, hT⟩ : ∃ T, T = (Slot.put1 S i (Slot.sect N r)).1 := ⟨_, rfl⟩
  rw [← hT] at zk0 zk1 ⊢
  obtain ⟨U, hU⟩ : ∃ U, U = Slot.put1 T (i + 1) (Slot.sect N r) := ⟨_, rfl⟩
  rw [← hU] at zk1 ⊢
  clear hT hU hk hop1 eb hN
  unfold BothIs at zb
  go_enter Tryz.func13, Tryz.ntmps13
  go_wp2_with (first
    | (go_at_call 29; refine (D.sectors w b F S h).mono ?_; (rintro e w1 ⟨rfl, B1⟩; have h1 := At_step D h B1; have t1 := ht.below B1 (Nat.le_refl _)))
    | (go_at_call 30; refine (zb w1 t1 h1).mono ?_; (rintro e w2 ⟨A0, c0, A1, c1, rfl, o0, o1, B2⟩; have B12 := step_trans B1 B2; clear o0 o1))
    | ((with_reducible refine atWorld w2 ?_); refine wpList_allocRow (w := w2) bothTy rfl rfl ?_; (intro w3 b3 B3 s3; have b3 := Lib.hid b3))
    | ((with_reducible refine atWorld w3 ?_); refine wpList_storeRow (w := w3) bothTy rfl (.tmp 7) (.tmp 24) rfl w2.heap.size (bothL r0 x0 0 A0 l0.length c0 r1 x1 0 A1 l1.length c1) bothZ rfl rfl rfl rfl bothL_one b3.out ?_; (intro w4 b4 B4 s4 k4; have B24 : Below w2.heap.size w2 w4 := B3.trans B4; have B14 := step_trans B12 B24; have b4 := Lib.hid b4))
    | ((with_reducible refine atWorld w4 ?_); refine wpList_loadRow (w := w4) bothTy rfl (.tmp 7) rfl w2.heap.size 0 (bothL r0 x0 0 A0 l0.length c0 r1 x1 0 A1 l1.length c1) rfl rfl (rangeOf b4.out) ?_)
    | (go_at_call 31; refine (newest_any r0 x0 0 A0 l0.length c0 r1 x1 0 A1 l1.length c1 w4).mono ?_; (rintro e w5 ⟨rfl, B5⟩; rw [HIF.out]; have b5 := b4.out.step B5; have y2 : w5.cell? ⟨w2.heap.size, 2, none⟩ = some (.int .i64 0) := b5.cell rfl; have y6 : w5.cell? ⟨w2.heap.size, 6, none⟩ = some (.int .i64 0) := b5.cell rfl; have B15 := step_trans B14 B5; have h5 := At_step D h B15; have t5 := ht.below B15 (Nat.le_refl _); have r5 := hr.step B15; clear b5))
    | (go_at_call 32; (with_reducible refine (zy w5 t5 r5).mono ?_); (rintro e w6 ⟨A6, c6, rfl, hc6, o6, B6⟩; have B16 := step_trans B15 B6; have h6 := At_step D h B16; have r6 := o6.bytes; have hcap := o6.cap; rw [HSL.out] at hcap))
    | (go_at_call 33; first
        | ((with_reducible refine (zk0 w6 A6 c6 h6 r6 hcap).mono ?_); (rintro e w7 ⟨F7, rfl, h7, hF7, fr7⟩; have r7 := (o6.frame fr7 (fun k hk => Nat.lt_of_lt_of_le (D.lt w b F S h k hk) B15.size)).bytes))
        | ((with_reducible refine (zk1 w7 F7 A6 c6 h7 r7 hcap).mono ?_); (rintro e w8 ⟨F8, rfl, h8, hF8, fr8⟩))))
  go_ret
  refine ⟨F8, rfl, h8, fun k hk => ?_, ?_⟩
  · rcases hF8 k hk with h | h
    · exact (hF7 k h).imp id fun h => Nat.le_trans B16.size h
    · exact .inr (Nat.le_trans (Nat.le_trans B16.size fr7.size) h)
  · exact ((Frame.of_below (F := F) B16).trans fr7 fun k hk => .inl hk).trans fr8 fun k hk => (hF7 k hk).imp id fun h => Nat.le_trans B16.size h
set_option maxRecDepth 100000 in
theorem save_zero_no (w : World) (b : Nat) (F : Nat → Prop) (S : DS) (i : Int) (A : Option Addr) (r : List UInt8) (m c : Nat) (hm : r.length = m) (ht : TabAt w) (h : At w b F S) (hr : BytesAt w w.heap.size A r) (hS : ((S.n : Int) == 0) = false) (h40 : ¬ (40 : Int) < (m : Int)) (r0 x0 r1 x1 : Int) (l0 l1 : List UInt8) (N : Nat) (hN : (N : Int) = 1)  (hi0 : 0 ≤ i) (hi1 : i ≤ 1024) (hops : S.ops ≤ 990000) (zb : ∀ w, TabAt w → At w b F S → Calls Tryz.prog 30 #[.pointer (some ⟨b, 0, none⟩), .int .i64 i] w (BothIs r0 x0 0 l0 r1 x1 0 l1 0 w)) (hk : ¬ (Slot.put1 S i (Slot.sect N r)).2 = 0) :
    Calls Tryz.prog 13 #[.pointer (some ⟨b, 0, none⟩), .int .i64 i, .slice A m c] w (ChgPost At b F (Slot.put1 S i (Slot.sect N r)) w) := by
  have HIF := Lib.hid (show (if (0 : Int) < 0 then (1 : Int) else 0) = 0 by rw [if_neg (by decide)])
  have eb := Slot.bytes_good' N r (by omega) (by omega)
  have hsl : (Slot.sect N r).length = 64 := Slot.sect_length N r (by omega)
  have HSL := Lib.hid hsl
  have zy := fun w t h => slotBytes_any (N : Int) A r m c hm w t h
  unfold BsPost at zy
  rw [eb.1, eb.2, hsl] at zy
  have w1_ : IntKind.i64.wrap (i + 1) = i + 1 := IntWalk.i64_in _ (by omega)
  have w2_ : IntKind.i64.wrap i = i := IntWalk.i64_in _ (by omega)
  rw [hN] at zy
  have zk0 := fun w A c h rr hc => keep_any D w b F S i A (Slot.sect N r) 64 c h (by omega) rr hsl hc
  unfold ChgPost at zk0 ⊢
  obtain ⟨U, hU⟩ : ∃ U, U = Slot.put1 S i (Slot.sect N r) := ⟨_, rfl⟩
  rw [← hU] at zk0 hk ⊢
  have hne : (U.2 != 0) = true := by simpa using hk
  clear hU eb hN hk
  unfold BothIs at zb
  go_enter Tryz.func13, Tryz.ntmps13
  go_wp2_with (first
    | (go_at_call 29; refine (D.sectors w b F S h).mono ?_; (rintro e w1 ⟨rfl, B1⟩; have h1 := At_step D h B1; have t1 := ht.below B1 (Nat.le_refl _)))
    | (go_at_call 30; refine (zb w1 t1 h1).mono ?_; (rintro e w2 ⟨A0, c0, A1, c1, rfl, o0, o1, B2⟩; have B12 := step_trans B1 B2; clear o0 o1))
    | ((with_reducible refine atWorld w2 ?_); refine wpList_allocRow (w := w2) bothTy rfl rfl ?_; (intro w3 b3 B3 s3; have b3 := Lib.hid b3))
    | ((with_reducible refine atWorld w3 ?_); refine wpList_storeRow (w := w3) bothTy rfl (.tmp 7) (.tmp 24) rfl w2.heap.size (bothL r0 x0 0 A0 l0.length c0 r1 x1 0 A1 l1.length c1) bothZ rfl rfl rfl rfl bothL_one b3.out ?_; (intro w4 b4 B4 s4 k4; have B24 : Below w2.heap.size w2 w4 := B3.trans B4; have B14 := step_trans B12 B24; have b4 := Lib.hid b4))
    | ((with_reducible refine atWorld w4 ?_); refine wpList_loadRow (w := w4) bothTy rfl (.tmp 7) rfl w2.heap.size 0 (bothL r0 x0 0 A0 l0.length c0 r1 x1 0 A1 l1.length c1) rfl rfl (rangeOf b4.out) ?_)
    | (go_at_call 31; refine (newest_any r0 x0 0 A0 l0.length c0 r1 x1 0 A1 l1.length c1 w4).mono ?_; (rintro e w5 ⟨rfl, B5⟩; rw [HIF.out]; have b5 := b4.out.step B5; have y2 : w5.cell? ⟨w2.heap.size, 2, none⟩ = some (.int .i64 0) := b5.cell rfl; have y6 : w5.cell? ⟨w2.heap.size, 6, none⟩ = some (.int .i64 0) := b5.cell rfl; have B15 := step_trans B14 B5; have h5 := At_step D h B15; have t5 := ht.below B15 (Nat.le_refl _); have r5 := hr.step B15; clear b5))
    | (go_at_call 32; (with_reducible refine (zy w5 t5 r5).mono ?_); (rintro e w6 ⟨A6, c6, rfl, hc6, o6, B6⟩; have B16 := step_trans B15 B6; have h6 := At_step D h B16; have r6 := o6.bytes; have hcap := o6.cap; rw [HSL.out] at hcap))
    | (go_at_call 33; first
        | ((with_reducible refine (zk0 w6 A6 c6 h6 r6 hcap).mono ?_); (rintro e w7 ⟨F7, rfl, h7, hF7, fr7⟩; have r7 := (o6.frame fr7 (fun k hk => Nat.lt_of_lt_of_le (D.lt w b F S h k hk) B15.size)).bytes))))
  go_ret
  exact ⟨F7, rfl, h7, fun k hk => (hF7 k hk).imp id fun h => Nat.le_trans B16.size h, (Frame.of_below (F := F) B16).trans fr7 fun k hk => .inl hk⟩
set_option maxRecDepth 100000 in
theorem save_second_yes (w : World) (b : Nat) (F : Nat → Prop) (S : DS) (i : Int) (A : Option Addr) (r : List UInt8) (m c : Nat) (hm : r.length = m) (ht : TabAt w) (h : At w b F S) (hr : BytesAt w w.heap.size A r) (hS : ((S.n : Int) == 0) = false) (h40 : ¬ (40 : Int) < (m : Int)) (r0 x0 r1 x1 n0 n1 : Int) (l0 l1 : List UInt8) (N : Nat) (h1N : 1 ≤ N) (hN2 : N ≤ 1099511627776) (hN : (N : Int) = n1 + 1) (hn0 : (n1 == 0) = false) (hnm : (n1 == 1099511627776) = false) (hlt : n0 < n1) (hi0 : 0 ≤ i) (hi1 : i ≤ 1024) (hops : S.ops ≤ 990000) (zb : ∀ w, TabAt w → At w b F S → Calls Tryz.prog 30 #[.pointer (some ⟨b, 0, none⟩), .int .i64 i] w (BothIs r0 x0 n0 l0 r1 x1 n1 l1 0 w)) (hk : (Slot.put1 S i (Slot.sect N r)).2 = 0) :
    Calls Tryz.prog 13 #[.pointer (some ⟨b, 0, none⟩), .int .i64 i, .slice A m c] w (ChgPost At b F (Slot.put1 (Slot.put1 S i (Slot.sect N r)).1 (i + 1) (Slot.sect N r)) w) := by
  have HIF := Lib.hid (show (if (n0 : Int) < n1 then (1 : Int) else 0) = 1 by rw [if_pos hlt])
  have eb := Slot.bytes_good' N r (by omega) (by omega)
  have hsl : (Slot.sect N r).length = 64 := Slot.sect_length N r (by omega)
  have HSL := Lib.hid hsl
  have zy := fun w t h => slotBytes_any (N : Int) A r m c hm w t h
  unfold BsPost at zy
  rw [eb.1, eb.2, hsl] at zy
  have w1_ : IntKind.i64.wrap (i + 1) = i + 1 := IntWalk.i64_in _ (by omega)
  have w2_ : IntKind.i64.wrap i = i := IntWalk.i64_in _ (by omega)
  rw [hN] at zy
  have w3_ : IntKind.i64.wrap (n1 + 1) = n1 + 1 := IntWalk.i64_in _ (by omega)
  have zk0 := fun w A c h rr hc => keep_any D w b F S i A (Slot.sect N r) 64 c h (by omega) rr hsl hc
  have hop1 := ops_put1 S i (Slot.sect N r)
  have zk1 := fun w F' A c h rr hc => keep_any D w b F' (Slot.put1 S i (Slot.sect N r)).1 (i + 1) A (Slot.sect N r) 64 c h (by omega) rr hsl hc
  unfold ChgPost at zk0 zk1 ⊢
  rw [hk] at zk0
  obtain ⟨T, hT⟩ : ∃ T, T = (Slot.put1 S i (Slot.sect N r)).1 := ⟨_, rfl⟩
  rw [← hT] at zk0 zk1 ⊢
  obtain ⟨U, hU⟩ : ∃ U, U = Slot.put1 T (i + 1) (Slot.sect N r) := ⟨_, rfl⟩
  rw [← hU] at zk1 ⊢
  clear hT hU hk hop1 eb hN
  unfold BothIs at zb
  go_enter Tryz.func13, Tryz.ntmps13
  go_wp2_with (first
    | (go_at_call 29; refine (D.sectors w b F S h).mono ?_; (rintro e w1 ⟨rfl, B1⟩; have h1 := At_step D h B1; have t1 := ht.below B1 (Nat.le_refl _)))
    | (go_at_call 30; refine (zb w1 t1 h1).mono ?_; (rintro e w2 ⟨A0, c0, A1, c1, rfl, o0, o1, B2⟩; have B12 := step_trans B1 B2; clear o0 o1))
    | ((with_reducible refine atWorld w2 ?_); refine wpList_allocRow (w := w2) bothTy rfl rfl ?_; (intro w3 b3 B3 s3; have b3 := Lib.hid b3))
    | ((with_reducible refine atWorld w3 ?_); refine wpList_storeRow (w := w3) bothTy rfl (.tmp 7) (.tmp 24) rfl w2.heap.size (bothL r0 x0 n0 A0 l0.length c0 r1 x1 n1 A1 l1.length c1) bothZ rfl rfl rfl rfl bothL_one b3.out ?_; (intro w4 b4 B4 s4 k4; have B24 : Below w2.heap.size w2 w4 := B3.trans B4; have B14 := step_trans B12 B24; have b4 := Lib.hid b4))
    | ((with_reducible refine atWorld w4 ?_); refine wpList_loadRow (w := w4) bothTy rfl (.tmp 7) rfl w2.heap.size 0 (bothL r0 x0 n0 A0 l0.length c0 r1 x1 n1 A1 l1.length c1) rfl rfl (rangeOf b4.out) ?_)
    | (go_at_call 31; refine (newest_any r0 x0 n0 A0 l0.length c0 r1 x1 n1 A1 l1.length c1 w4).mono ?_; (rintro e w5 ⟨rfl, B5⟩; rw [HIF.out]; have b5 := b4.out.step B5; have y2 : w5.cell? ⟨w2.heap.size, 2, none⟩ = some (.int .i64 n0) := b5.cell rfl; have y6 : w5.cell? ⟨w2.heap.size, 6, none⟩ = some (.int .i64 n1) := b5.cell rfl; have B15 := step_trans B14 B5; have h5 := At_step D h B15; have t5 := ht.below B15 (Nat.le_refl _); have r5 := hr.step B15; clear b5))
    | (go_at_call 32; (with_reducible refine (zy w5 t5 r5).mono ?_); (rintro e w6 ⟨A6, c6, rfl, hc6, o6, B6⟩; have B16 := step_trans B15 B6; have h6 := At_step D h B16; have r6 := o6.bytes; have hcap := o6.cap; rw [HSL.out] at hcap))
    | (go_at_call 33; first
        | ((with_reducible refine (zk0 w6 A6 c6 h6 r6 hcap).mono ?_); (rintro e w7 ⟨F7, rfl, h7, hF7, fr7⟩; have r7 := (o6.frame fr7 (fun k hk => Nat.lt_of_lt_of_le (D.lt w b F S h k hk) B15.size)).bytes))
        | ((with_reducible refine (zk1 w7 F7 A6 c6 h7 r7 hcap).mono ?_); (rintro e w8 ⟨F8, rfl, h8, hF8, fr8⟩))))
  go_ret
  refine ⟨F8, rfl, h8, fun k hk => ?_, ?_⟩
  · rcases hF8 k hk with h | h
    · exact (hF7 k h).imp id fun h => Nat.le_trans B16.size h
    · exact .inr (Nat.le_trans (Nat.le_trans B16.size fr7.size) h)
  · exact ((Frame.of_below (F := F) B16).trans fr7 fun k hk => .inl hk).trans fr8 fun k hk => (hF7 k hk).imp id fun h => Nat.le_trans B16.size h
set_option maxRecDepth 100000 in
theorem save_second_no (w : World) (b : Nat) (F : Nat → Prop) (S : DS) (i : Int) (A : Option Addr) (r : List UInt8) (m c : Nat) (hm : r.length = m) (ht : TabAt w) (h : At w b F S) (hr : BytesAt w w.heap.size A r) (hS : ((S.n : Int) == 0) = false) (h40 : ¬ (40 : Int) < (m : Int)) (r0 x0 r1 x1 n0 n1 : Int) (l0 l1 : List UInt8) (N : Nat) (h1N : 1 ≤ N) (hN2 : N ≤ 1099511627776) (hN : (N : Int) = n1 + 1) (hn0 : (n1 == 0) = false) (hnm : (n1 == 1099511627776) = false) (hlt : n0 < n1) (hi0 : 0 ≤ i) (hi1 : i ≤ 1024) (hops : S.ops ≤ 990000) (zb : ∀ w, TabAt w → At w b F S → Calls Tryz.prog 30 #[.pointer (some ⟨b, 0, none⟩), .int .i64 i] w (BothIs r0 x0 n0 l0 r1 x1 n1 l1 0 w)) (hk : ¬ (Slot.put1 S i (Slot.sect N r)).2 = 0) :
    Calls Tryz.prog 13 #[.pointer (some ⟨b, 0, none⟩), .int .i64 i, .slice A m c] w (ChgPost At b F (Slot.put1 S i (Slot.sect N r)) w) := by
  have HIF := Lib.hid (show (if (n0 : Int) < n1 then (1 : Int) else 0) = 1 by rw [if_pos hlt])
  have eb := Slot.bytes_good' N r (by omega) (by omega)
  have hsl : (Slot.sect N r).length = 64 := Slot.sect_length N r (by omega)
  have HSL := Lib.hid hsl
  have zy := fun w t h => slotBytes_any (N : Int) A r m c hm w t h
  unfold BsPost at zy
  rw [eb.1, eb.2, hsl] at zy
  have w1_ : IntKind.i64.wrap (i + 1) = i + 1 := IntWalk.i64_in _ (by omega)
  have w2_ : IntKind.i64.wrap i = i := IntWalk.i64_in _ (by omega)
  rw [hN] at zy
  have w3_ : IntKind.i64.wrap (n1 + 1) = n1 + 1 := IntWalk.i64_in _ (by omega)
  have zk0 := fun w A c h rr hc => keep_any D w b F S i A (Slot.sect N r) 64 c h (by omega) rr hsl hc
  unfold ChgPost at zk0 ⊢
  obtain ⟨U, hU⟩ : ∃ U, U = Slot.put1 S i (Slot.sect N r) := ⟨_, rfl⟩
  rw [← hU] at zk0 hk ⊢
  have hne : (U.2 != 0) = true := by simpa using hk
  clear hU eb hN hk
  unfold BothIs at zb
  go_enter Tryz.func13, Tryz.ntmps13
  go_wp2_with (first
    | (go_at_call 29; refine (D.sectors w b F S h).mono ?_; (rintro e w1 ⟨rfl, B1⟩; have h1 := At_step D h B1; have t1 := ht.below B1 (Nat.le_refl _)))
    | (go_at_call 30; refine (zb w1 t1 h1).mono ?_; (rintro e w2 ⟨A0, c0, A1, c1, rfl, o0, o1, B2⟩; have B12 := step_trans B1 B2; clear o0 o1))
    | ((with_reducible refine atWorld w2 ?_); refine wpList_allocRow (w := w2) bothTy rfl rfl ?_; (intro w3 b3 B3 s3; have b3 := Lib.hid b3))
    | ((with_reducible refine atWorld w3 ?_); refine wpList_storeRow (w := w3) bothTy rfl (.tmp 7) (.tmp 24) rfl w2.heap.size (bothL r0 x0 n0 A0 l0.length c0 r1 x1 n1 A1 l1.length c1) bothZ rfl rfl rfl rfl bothL_one b3.out ?_; (intro w4 b4 B4 s4 k4; have B24 : Below w2.heap.size w2 w4 := B3.trans B4; have B14 := step_trans B12 B24; have b4 := Lib.hid b4))
    | ((with_reducible refine atWorld w4 ?_); refine wpList_loadRow (w := w4) bothTy rfl (.tmp 7) rfl w2.heap.size 0 (bothL r0 x0 n0 A0 l0.length c0 r1 x1 n1 A1 l1.length c1) rfl rfl (rangeOf b4.out) ?_)
    | (go_at_call 31; refine (newest_any r0 x0 n0 A0 l0.length c0 r1 x1 n1 A1 l1.length c1 w4).mono ?_; (rintro e w5 ⟨rfl, B5⟩; rw [HIF.out]; have b5 := b4.out.step B5; have y2 : w5.cell? ⟨w2.heap.size, 2, none⟩ = some (.int .i64 n0) := b5.cell rfl; have y6 : w5.cell? ⟨w2.heap.size, 6, none⟩ = some (.int .i64 n1) := b5.cell rfl; have B15 := step_trans B14 B5; have h5 := At_step D h B15; have t5 := ht.below B15 (Nat.le_refl _); have r5 := hr.step B15; clear b5))
    | (go_at_call 32; (with_reducible refine (zy w5 t5 r5).mono ?_); (rintro e w6 ⟨A6, c6, rfl, hc6, o6, B6⟩; have B16 := step_trans B15 B6; have h6 := At_step D h B16; have r6 := o6.bytes; have hcap := o6.cap; rw [HSL.out] at hcap))
    | (go_at_call 33; first
        | ((with_reducible refine (zk0 w6 A6 c6 h6 r6 hcap).mono ?_); (rintro e w7 ⟨F7, rfl, h7, hF7, fr7⟩; have r7 := (o6.frame fr7 (fun k hk => Nat.lt_of_lt_of_le (D.lt w b F S h k hk) B15.size)).bytes))))
  go_ret
  exact ⟨F7, rfl, h7, fun k hk => (hF7 k hk).imp id fun h => Nat.le_trans B16.size h, (Frame.of_below (F := F) B16).trans fr7 fun k hk => .inl hk⟩
set_option maxRecDepth 100000 in
theorem save_first_yes (w : World) (b : Nat) (F : Nat → Prop) (S : DS) (i : Int) (A : Option Addr) (r : List UInt8) (m c : Nat) (hm : r.length = m) (ht : TabAt w) (h : At w b F S) (hr : BytesAt w w.heap.size A r) (hS : ((S.n : Int) == 0) = false) (h40 : ¬ (40 : Int) < (m : Int)) (r0 x0 r1 x1 n0 n1 : Int) (l0 l1 : List UInt8) (N : Nat) (h1N : 1 ≤ N) (hN2 : N ≤ 1099511627776) (hN : (N : Int) = n0 + 1) (hn0 : (n0 == 0) = false) (hnm : (n0 == 1099511627776) = false) (hlt : ¬ n0 < n1) (hi0 : 0 ≤ i) (hi1 : i ≤ 1024) (hops : S.ops ≤ 990000) (zb : ∀ w, TabAt w → At w b F S → Calls Tryz.prog 30 #[.pointer (some ⟨b, 0, none⟩), .int .i64 i] w (BothIs r0 x0 n0 l0 r1 x1 n1 l1 0 w)) (hk : (Slot.put1 S (i + 1) (Slot.sect N r)).2 = 0) :
    Calls Tryz.prog 13 #[.pointer (some ⟨b, 0, none⟩), .int .i64 i, .slice A m c] w (ChgPost At b F (Slot.put1 (Slot.put1 S (i + 1) (Slot.sect N r)).1 i (Slot.sect N r)) w) := by
  have HIF := Lib.hid (show (if (n0 : Int) < n1 then (1 : Int) else 0) = 0 by rw [if_neg hlt])
  have eb := Slot.bytes_good' N r (by omega) (by omega)
  have hsl : (Slot.sect N r).length = 64 := Slot.sect_length N r (by omega)
  have HSL := Lib.hid hsl
  have zy := fun w t h => slotBytes_any (N : Int) A r m c hm w t h
  unfold BsPost at zy
  rw [eb.1, eb.2, hsl] at zy
  have w1_ : IntKind.i64.wrap (i + 1) = i + 1 := IntWalk.i64_in _ (by omega)
  have w2_ : IntKind.i64.wrap i = i := IntWalk.i64_in _ (by omega)
  rw [hN] at zy
  have w3_ : IntKind.i64.wrap (n0 + 1) = n0 + 1 := IntWalk.i64_in _ (by omega)
  have zk0 := fun w A c h rr hc => keep_any D w b F S (i + 1) A (Slot.sect N r) 64 c h (by omega) rr hsl hc
  have hop1 := ops_put1 S (i + 1) (Slot.sect N r)
  have zk1 := fun w F' A c h rr hc => keep_any D w b F' (Slot.put1 S (i + 1) (Slot.sect N r)).1 i A (Slot.sect N r) 64 c h (by omega) rr hsl hc
  unfold ChgPost at zk0 zk1 ⊢
  rw [hk] at zk0
  obtain ⟨T, hT⟩ : ∃ T, T = (Slot.put1 S (i + 1) (Slot.sect N r)).1 := ⟨_, rfl⟩
  rw [← hT] at zk0 zk1 ⊢
  obtain ⟨U, hU⟩ : ∃ U, U = Slot.put1 T i (Slot.sect N r) := ⟨_, rfl⟩
  rw [← hU] at zk1 ⊢
  clear hT hU hk hop1 eb hN
  unfold BothIs at zb
  go_enter Tryz.func13, Tryz.ntmps13
  go_wp2_with (first
    | (go_at_call 29; refine (D.sectors w b F S h).mono ?_; (rintro e w1 ⟨rfl, B1⟩; have h1 := At_step D h B1; have t1 := ht.below B1 (Nat.le_refl _)))
    | (go_at_call 30; refine (zb w1 t1 h1).mono ?_; (rintro e w2 ⟨A0, c0, A1, c1, rfl, o0, o1, B2⟩; have B12 := step_trans B1 B2; clear o0 o1))
    | ((with_reducible refine atWorld w2 ?_); refine wpList_allocRow (w := w2) bothTy rfl rfl ?_; (intro w3 b3 B3 s3; have b3 := Lib.hid b3))
    | ((with_reducible refine atWorld w3 ?_); refine wpList_storeRow (w := w3) bothTy rfl (.tmp 7) (.tmp 24) rfl w2.heap.size (bothL r0 x0 n0 A0 l0.length c0 r1 x1 n1 A1 l1.length c1) bothZ rfl rfl rfl rfl bothL_one b3.out ?_; (intro w4 b4 B4 s4 k4; have B24 : Below w2.heap.size w2 w4 := B3.trans B4; have B14 := step_trans B12 B24; have b4 := Lib.hid b4))
    | ((with_reducible refine atWorld w4 ?_); refine wpList_loadRow (w := w4) bothTy rfl (.tmp 7) rfl w2.heap.size 0 (bothL r0 x0 n0 A0 l0.length c0 r1 x1 n1 A1 l1.length c1) rfl rfl (rangeOf b4.out) ?_)
    | (go_at_call 31; refine (newest_any r0 x0 n0 A0 l0.length c0 r1 x1 n1 A1 l1.length c1 w4).mono ?_; (rintro e w5 ⟨rfl, B5⟩; rw [HIF.out]; have b5 := b4.out.step B5; have y2 : w5.cell? ⟨w2.heap.size, 2, none⟩ = some (.int .i64 n0) := b5.cell rfl; have y6 : w5.cell? ⟨w2.heap.size, 6, none⟩ = some (.int .i64 n1) := b5.cell rfl; have B15 := step_trans B14 B5; have h5 := At_step D h B15; have t5 := ht.below B15 (Nat.le_refl _); have r5 := hr.step B15; clear b5))
    | (go_at_call 32; (with_reducible refine (zy w5 t5 r5).mono ?_); (rintro e w6 ⟨A6, c6, rfl, hc6, o6, B6⟩; have B16 := step_trans B15 B6; have h6 := At_step D h B16; have r6 := o6.bytes; have hcap := o6.cap; rw [HSL.out] at hcap))
    | (go_at_call 33; first
        | ((with_reducible refine (zk0 w6 A6 c6 h6 r6 hcap).mono ?_); (rintro e w7 ⟨F7, rfl, h7, hF7, fr7⟩; have r7 := (o6.frame fr7 (fun k hk => Nat.lt_of_lt_of_le (D.lt w b F S h k hk) B15.size)).bytes))
        | ((with_reducible refine (zk1 w7 F7 A6 c6 h7 r7 hcap).mono ?_); (rintro e w8 ⟨F8, rfl, h8, hF8, fr8⟩))))
  go_ret
  refine ⟨F8, rfl, h8, fun k hk => ?_, ?_⟩
  · rcases hF8 k hk with h | h
    · exact (hF7 k h).imp id fun h => Nat.le_trans B16.size h
    · exact .inr (Nat.le_trans (Nat.le_trans B16.size fr7.size) h)
  · exact ((Frame.of_below (F := F) B16).trans fr7 fun k hk => .inl hk).trans fr8 fun k hk => (hF7 k hk).imp id fun h => Nat.le_trans B16.size h
set_option maxRecDepth 100000 in
theorem save_first_no (w : World) (b : Nat) (F : Nat → Prop) (S : DS) (i : Int) (A : Option Addr) (r : List UInt8) (m c : Nat) (hm : r.length = m) (ht : TabAt w) (h : At w b F S) (hr : BytesAt w w.heap.size A r) (hS : ((S.n : Int) == 0) = false) (h40 : ¬ (40 : Int) < (m : Int)) (r0 x0 r1 x1 n0 n1 : Int) (l0 l1 : List UInt8) (N : Nat) (h1N : 1 ≤ N) (hN2 : N ≤ 1099511627776) (hN : (N : Int) = n0 + 1) (hn0 : (n0 == 0) = false) (hnm : (n0 == 1099511627776) = false) (hlt : ¬ n0 < n1) (hi0 : 0 ≤ i) (hi1 : i ≤ 1024) (hops : S.ops ≤ 990000) (zb : ∀ w, TabAt w → At w b F S → Calls Tryz.prog 30 #[.pointer (some ⟨b, 0, none⟩), .int .i64 i] w (BothIs r0 x0 n0 l0 r1 x1 n1 l1 0 w)) (hk : ¬ (Slot.put1 S (i + 1) (Slot.sect N r)).2 = 0) :
    Calls Tryz.prog 13 #[.pointer (some ⟨b, 0, none⟩), .int .i64 i, .slice A m c] w (ChgPost At b F (Slot.put1 S (i + 1) (Slot.sect N r)) w) := by
  have HIF := Lib.hid (show (if (n0 : Int) < n1 then (1 : Int) else 0) = 0 by rw [if_neg hlt])
  have eb := Slot.bytes_good' N r (by omega) (by omega)
  have hsl : (Slot.sect N r).length = 64 := Slot.sect_length N r (by omega)
  have HSL := Lib.hid hsl
  have zy := fun w t h => slotBytes_any (N : Int) A r m c hm w t h
  unfold BsPost at zy
  rw [eb.1, eb.2, hsl] at zy
  have w1_ : IntKind.i64.wrap (i + 1) = i + 1 := IntWalk.i64_in _ (by omega)
  have w2_ : IntKind.i64.wrap i = i := IntWalk.i64_in _ (by omega)
  rw [hN] at zy
  have w3_ : IntKind.i64.wrap (n0 + 1) = n0 + 1 := IntWalk.i64_in _ (by omega)
  have zk0 := fun w A c h rr hc => keep_any D w b F S (i + 1) A (Slot.sect N r) 64 c h (by omega) rr hsl hc
  unfold ChgPost at zk0 ⊢
  obtain ⟨U, hU⟩ : ∃ U, U = Slot.put1 S (i + 1) (Slot.sect N r) := ⟨_, rfl⟩
  rw [← hU] at zk0 hk ⊢
  have hne : (U.2 != 0) = true := by simpa using hk
  clear hU eb hN hk
  unfold BothIs at zb
  go_enter Tryz.func13, Tryz.ntmps13
  go_wp2_with (first
    | (go_at_call 29; refine (D.sectors w b F S h).mono ?_; (rintro e w1 ⟨rfl, B1⟩; have h1 := At_step D h B1; have t1 := ht.below B1 (Nat.le_refl _)))
    | (go_at_call 30; refine (zb w1 t1 h1).mono ?_; (rintro e w2 ⟨A0, c0, A1, c1, rfl, o0, o1, B2⟩; have B12 := step_trans B1 B2; clear o0 o1))
    | ((with_reducible refine atWorld w2 ?_); refine wpList_allocRow (w := w2) bothTy rfl rfl ?_; (intro w3 b3 B3 s3; have b3 := Lib.hid b3))
    | ((with_reducible refine atWorld w3 ?_); refine wpList_storeRow (w := w3) bothTy rfl (.tmp 7) (.tmp 24) rfl w2.heap.size (bothL r0 x0 n0 A0 l0.length c0 r1 x1 n1 A1 l1.length c1) bothZ rfl rfl rfl rfl bothL_one b3.out ?_; (intro w4 b4 B4 s4 k4; have B24 : Below w2.heap.size w2 w4 := B3.trans B4; have B14 := step_trans B12 B24; have b4 := Lib.hid b4))
    | ((with_reducible refine atWorld w4 ?_); refine wpList_loadRow (w := w4) bothTy rfl (.tmp 7) rfl w2.heap.size 0 (bothL r0 x0 n0 A0 l0.length c0 r1 x1 n1 A1 l1.length c1) rfl rfl (rangeOf b4.out) ?_)
    | (go_at_call 31; refine (newest_any r0 x0 n0 A0 l0.length c0 r1 x1 n1 A1 l1.length c1 w4).mono ?_; (rintro e w5 ⟨rfl, B5⟩; rw [HIF.out]; have b5 := b4.out.step B5; have y2 : w5.cell? ⟨w2.heap.size, 2, none⟩ = some (.int .i64 n0) := b5.cell rfl; have y6 : w5.cell? ⟨w2.heap.size, 6, none⟩ = some (.int .i64 n1) := b5.cell rfl; have B15 := step_trans B14 B5; have h5 := At_step D h B15; have t5 := ht.below B15 (Nat.le_refl _); have r5 := hr.step B15; clear b5))
    | (go_at_call 32; (with_reducible refine (zy w5 t5 r5).mono ?_); (rintro e w6 ⟨A6, c6, rfl, hc6, o6, B6⟩; have B16 := step_trans B15 B6; have h6 := At_step D h B16; have r6 := o6.bytes; have hcap := o6.cap; rw [HSL.out] at hcap))
    | (go_at_call 33; first
        | ((with_reducible refine (zk0 w6 A6 c6 h6 r6 hcap).mono ?_); (rintro e w7 ⟨F7, rfl, h7, hF7, fr7⟩; have r7 := (o6.frame fr7 (fun k hk => Nat.lt_of_lt_of_le (D.lt w b F S h k hk) B15.size)).bytes))))
  go_ret
  exact ⟨F7, rfl, h7, fun k hk => (hF7 k hk).imp id fun h => Nat.le_trans B16.size h, (Frame.of_below (F := F) B16).trans fr7 fun k hk => .inl hk⟩
theorem save_any (w : World) (b : Nat) (F : Nat → Prop) (S : DS) (i : Int) (A : Option Addr) (r : List UInt8) (m c : Nat) (hm : r.length = m) (ht : TabAt w) (h : At w b F S) (hr : BytesAt w w.heap.size A r) (hops : S.ops ≤ 990000) :
    Calls Tryz.prog 13 #[.pointer (some ⟨b, 0, none⟩), .int .i64 i, .slice A m c] w (ChgPost At b F (Slot.save S i r) w) := by
  have hok := D.ok _ _ _ _ h
  have hS : ((S.n : Int) == 0) = false := by have := hok.n1; simp; omega
  unfold Slot.save
  by_cases h40 : 40 < r.length
  · rw [if_pos h40]
    exact save_long D w b F S i A m c ht h hS (by omega)
  rw [if_neg h40]
  have h40' : ¬ (40 : Int) < (m : Int) := by omega
  have zb := fun w t h => both_is D w b F S i t h
  by_cases hl : Slot.lookE S i = 0
  · obtain ⟨hn, e0, e1⟩ := nxt_eq S hok i hl
    rw [if_neg (by rw [Decidable.not_not]; exact hl)]
    rw [hl, hn] at zb
    obtain ⟨_, g0, g1⟩ := DS.readE_zero e0
    have gn := hok.n2
    have le0 := Slot.readN_le (S.readB i)
    have le1 := Slot.readN_le (S.readB (i + 1))
    have tn := Slot.topN_eq (S.readB i) (S.readB (i + 1))
    have tf : Slot.first (S.readB i) (S.readB (i + 1)) = if Slot.newestI (S.readB i) (S.readB (i + 1)) = 0 then 1 else 0 := rfl
    rw [Slot.newestI_eq] at tf
    rw [tn]
    clear tn
    obtain ⟨f, hf⟩ : ∃ x, x = Slot.first (S.readB i) (S.readB (i + 1)) := ⟨_, rfl⟩
    rw [← hf] at tf ⊢
    obtain ⟨n0, hn0⟩ : ∃ x, x = Slot.readN (S.readB i) := ⟨_, rfl⟩
    obtain ⟨n1, hn1⟩ : ∃ x, x = Slot.readN (S.readB (i + 1)) := ⟨_, rfl⟩
    rw [← hn0] at zb le0 tf ⊢
    rw [← hn1] at zb le1 tf ⊢
    unfold Slot.save2
    by_cases hlt : n0 < n1
    · rw [if_pos hlt] at tf ⊢
      obtain rfl : f = 0 := by rw [tf]; rfl
      have hlt' := (int_lt n0 n1).2 hlt
      by_cases hmax : 1099511627776 ≤ n1
      · rw [if_pos hmax]
        obtain rfl : n1 = 1099511627776 := by omega
        exact save_full1 D w b F S i A r m c hm ht h hr hS h40' _ _ _ _ _ _ _ hlt' zb
      · rw [if_neg hmax]
        have a1 : ((n1 : Int) == 0) = false := by simp; omega
        have a2 : ((n1 : Int) == 1099511627776) = false := by simp; omega
        simp only [Int.add_zero, Nat.sub_zero, show ((0 : Nat) : Int) = 0 from rfl, show ((1 : Nat) : Int) = 1 from rfl]
        by_cases hk : (Slot.put1 S i (Slot.sect (n1 + 1) r)).2 = 0
        · rw [if_pos hk]
          exact save_second_yes D w b F S i A r m c hm ht h hr hS h40' _ _ _ _ _ _ _ _ (n1 + 1) (by omega) (by omega) (by omega) a1 a2 hlt' g0 (by omega) hops zb hk
        · rw [if_neg hk]
          exact save_second_no D w b F S i A r m c hm ht h hr hS h40' _ _ _ _ _ _ _ _ (n1 + 1) (by omega) (by omega) (by omega) a1 a2 hlt' g0 (by omega) hops zb hk
    · rw [if_neg hlt] at tf ⊢
      have hlt' : ¬ (n0 : Int) < (n1 : Int) := fun x => hlt ((int_lt _ _).1 x)
      by_cases hmax : 1099511627776 ≤ n0
      · rw [if_pos hmax]
        obtain rfl : n0 = 1099511627776 := by omega
        exact save_full0 D w b F S i A r m c hm ht h hr hS h40' _ _ _ _ _ _ _ hlt' zb
      · rw [if_neg hmax]
        by_cases hp : 0 < n0
        · obtain rfl : f = 1 := by rw [tf, if_pos hp]; rfl
          have a1 : ((n0 : Int) == 0) = false := by simp; omega
          have a2 : ((n0 : Int) == 1099511627776) = false := by simp; omega
          simp only [Int.add_zero, Nat.sub_self, show ((0 : Nat) : Int) = 0 from rfl, show ((1 : Nat) : Int) = 1 from rfl]
          by_cases hk : (Slot.put1 S (i + 1) (Slot.sect (n0 + 1) r)).2 = 0
          · rw [if_pos hk]
            exact save_first_yes D w b F S i A r m c hm ht h hr hS h40' _ _ _ _ _ _ _ _ (n0 + 1) (by omega) (by omega) (by omega) a1 a2 hlt' g0 (by omega) hops zb hk
          · rw [if_neg hk]
            exact save_first_no D w b F S i A r m c hm ht h hr hS h40' _ _ _ _ _ _ _ _ (n0 + 1) (by omega) (by omega) (by omega) a1 a2 hlt' g0 (by omega) hops zb hk
        · obtain rfl : n0 = 0 := by omega
          obtain rfl : n1 = 0 := by omega
          obtain rfl : f = 0 := by rw [tf, if_neg hp]; rfl
          simp only [Int.add_zero, Nat.sub_zero, Nat.zero_add, show ((0 : Nat) : Int) = 0 from rfl, show ((1 : Nat) : Int) = 1 from rfl]
          by_cases hk : (Slot.put1 S i (Slot.sect 1 r)).2 = 0
          · rw [if_pos hk]
            exact save_zero_yes D w b F S i A r m c hm ht h hr hS h40' _ _ _ _ _ _ 1 rfl g0 (by omega) hops zb hk
          · rw [if_neg hk]
            exact save_zero_no D w b F S i A r m c hm ht h hr hS h40' _ _ _ _ _ _ 1 rfl g0 (by omega) hops zb hk
  · rw [if_pos hl]
    exact save_err D w b F S i A r m c hm ht h hS h40' _ _ _ _ _ _ _ _ _ (by simpa using hl) zb
end
end Go.Proofs.YtcahpodmcklnbaaGreatDoor
