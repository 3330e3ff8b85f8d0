/-
  slot.Load: what it tells. Conditions: a disk's methods do what the document says; the table of crc lies as the program's text lays it.
-/
import Derived.Test.YtgnfajmjhlnobaaDoorSlBoth
namespace Go.Proofs.YtgnfajmjhlnobaaDoor
open Go.RowKit Fix

namespace Slot
theorem readN_le (b : List UInt8) : readN b ≤ 1099511627776 := by
  unfold readN
  split
  · rename_i h; exact ((right_iff b).1 h).2.2.1
  · exact Nat.zero_le _
theorem readN_pos {b : List UInt8} : 0 < readN b ↔ right b = true := by
  unfold readN
  by_cases h : right b = true
  · rw [if_pos h]; have := ((right_iff b).1 h).2.1; simp [h]; omega
  · rw [if_neg h]; simp [h]
theorem second_iff (a b : List UInt8) : second a b = true ↔ readN a < readN b := by
  unfold second
  by_cases hb : right b = true
  · have hb1 := ((right_iff b).1 hb).2.1
    have e1 : readN b = num b := by simp [readN, hb]
    by_cases ha : right a = true
    · have e0 : readN a = num a := by simp [readN, ha]
      simp [hb, ha, e0, e1]
    · have e0 : readN a = 0 := by simp [readN, ha]
      simp [hb, ha, e0, e1]; omega
  · have e1 : readN b = 0 := by simp [readN, hb]
    simp [hb, e1]
theorem topN_eq (a b : List UInt8) : topN a b = if readN a < readN b then readN b else readN a := by
  unfold topN
  by_cases h : second a b = true
  · rw [if_pos h, if_pos ((second_iff a b).1 h)]
    have hb : right b = true := by unfold second at h; simp at h; exact h.1
    simp [readN, hb]
  · rw [if_neg h, if_neg (fun x => h ((second_iff a b).2 x))]
theorem topB_eq (a b : List UInt8) : topB a b = if readN a < readN b then readB b else readB a := by
  unfold topB
  by_cases h : second a b = true
  · rw [if_pos h, if_pos ((second_iff a b).1 h)]
    have hb : right b = true := by unfold second at h; simp at h; exact h.1
    simp [readB, hb]
  · rw [if_neg h, if_neg (fun x => h ((second_iff a b).2 x))]
theorem newestI_eq (a b : List UInt8) : newestI a b = if readN a < readN b then 1 else if 0 < readN a then 0 else -1 := by
  unfold newestI
  by_cases h : second a b = true
  · rw [if_pos h, if_pos ((second_iff a b).1 h)]
  · rw [if_neg h, if_neg (fun x => h ((second_iff a b).2 x))]
    by_cases ha : right a = true
    · rw [if_pos ha, if_pos (readN_pos.2 ha)]
    · rw [if_neg ha, if_neg (fun x => ha (readN_pos.1 x))]
theorem readE_nots {b : List UInt8} : readE b = 6 ↔ b = nots := by
  constructor
  · intro h
    unfold readE at h
    split at h
    · cases h
    · split at h
      · assumption
      · split at h <;> cases h
  · rintro rfl; decide
end Slot
theorem nxt_eq (S : DS) (h : S.Ok) (i : Int) (h0 : Slot.lookE S i = 0) : nxt i = i + 1 ∧ S.readE i = 0 ∧ S.readE (i + 1) = 0 := by
  unfold Slot.lookE at h0
  split at h0
  · rename_i h1
    obtain ⟨_, h2, h3⟩ := DS.readE_zero h1
    have := h.n2
    exact ⟨IntWalk.i64_in _ (by omega), h1, h0⟩
  · rename_i h1
    exact absurd h0 h1
def LoadPost (S : DS) (i : Int) (w : World) (e : Ending) (w' : World) : Prop :=
  ∃ A c, e = .returned (.tuple #[.slice A (Slot.loadB S i).length c, .int .i64 (Slot.loadE S i)]) ∧ Whole w' w.heap.size A c (Slot.loadB S i) ∧ Below w.heap.size w w'
theorem LoadPost.none_ {S : DS} {i x : Int} {w w' : World} (hx : Slot.loadE S i = x) (h0 : x ≠ 0) (hB : Below w.heap.size w w') : LoadPost S i w (.returned (.tuple #[.slice none 0 0, .int .i64 x])) w' := by
  have e : Slot.loadB S i = [] := by unfold Slot.loadB; rw [if_neg (by rw [hx]; exact h0)]
  exact ⟨none, 0, by rw [e, hx]; rfl, by rw [e]; exact Whole.none_, hB⟩
set_option maxRecDepth 100000 in
theorem load_err (w : World) (p : Value) (i r0 x0 n0 : Int) (l0 : List UInt8) (r1 x1 n1 : Int) (l1 : List UInt8) (lo : Int) (zb : Calls Tryd.prog 42 #[p, .int .i64 i] w (BothIs r0 x0 n0 l0 r1 x1 n1 l1 lo w)) (hlo : lo ≠ 0) :
    Calls Tryd.prog 20 #[p, .int .i64 i] w fun e w' => e = .returned (.tuple #[.slice none 0 0, .int .i64 lo]) ∧ Below w.heap.size w w' := by
  have hne : (lo != 0) = true := by simpa using hlo
  unfold BothIs at zb
  go_enter Tryd.func20, Tryd.ntmps20
  go_wp2_with (first
    | (go_at_call 42; refine zb.mono ?_; (rintro e w1 ⟨A0, c0, A1, c1, rfl, o0, o1, B1⟩))
    | ((with_reducible refine atWorld w1 ?_); refine wpList_allocRow (w := w1) bothTy rfl rfl ?_; (intro w2 b2 B2 s2; have b2 := Lib.hid b2))
    | ((with_reducible refine atWorld w2 ?_); refine wpList_storeRow (w := w2) bothTy rfl (.tmp 6) (.tmp 13) rfl w1.heap.size (bothL r0 x0 n0 A0 l0.length c0 r1 x1 n1 A1 l1.length c1) bothZ rfl rfl rfl rfl bothL_one b2.out ?_; (intro w3 b3 B3 s3 k3; have y1 : w3.cell? ⟨w1.heap.size, 1, none⟩ = some (.int .i64 x0) := b3.cell rfl; have y5 : w3.cell? ⟨w1.heap.size, 5, none⟩ = some (.int .i64 x1) := b3.cell rfl; have B13 := B2.trans B3; have b3 := Lib.hid b3)))
  go_ret2
  exact ⟨rfl, B1.trans (B13.mono B1.size)⟩
set_option maxRecDepth 100000 in
theorem load_none (w : World) (b : Nat) (i r0 n0 : Int) (l0 : List UInt8) (r1 n1 : Int) (l1 : List UInt8) (zb : Calls Tryd.prog 42 #[.pointer (some ⟨b, 0, none⟩), .int .i64 i] w (BothIs r0 6 n0 l0 r1 6 n1 l1 0 w))  :
    Calls Tryd.prog 20 #[.pointer (some ⟨b, 0, none⟩), .int .i64 i] w fun e w' => e = .returned (.tuple #[.slice none 0 0, .int .i64 6]) ∧ Below w.heap.size w w' := by
  unfold BothIs at zb
  go_enter Tryd.func20, Tryd.ntmps20
  go_wp2_with (first
    | (go_at_call 42; refine zb.mono ?_; (rintro e w1 ⟨A0, c0, A1, c1, rfl, o0, o1, B1⟩))
    | ((with_reducible refine atWorld w1 ?_); refine wpList_allocRow (w := w1) bothTy rfl rfl ?_; (intro w2 b2 B2 s2; have b2 := Lib.hid b2))
    | ((with_reducible refine atWorld w2 ?_); refine wpList_storeRow (w := w2) bothTy rfl (.tmp 6) (.tmp 13) rfl w1.heap.size (bothL r0 6 n0 A0 l0.length c0 r1 6 n1 A1 l1.length c1) bothZ rfl rfl rfl rfl bothL_one b2.out ?_; (intro w3 b3 B3 s3 k3; have y1 : w3.cell? ⟨w1.heap.size, 1, none⟩ = some (.int .i64 6) := b3.cell rfl; have y5 : w3.cell? ⟨w1.heap.size, 5, none⟩ = some (.int .i64 6) := b3.cell rfl; have B13 := B2.trans B3; have b3 := Lib.hid b3)))
  go_ret2
  exact ⟨rfl, B1.trans (B13.mono B1.size)⟩
set_option maxRecDepth 100000 in
theorem load_second0 (w : World) (b : Nat) (i r0 x0 n0 : Int) (l0 : List UInt8) (r1 x1 n1 : Int) (l1 : List UInt8) (zb : Calls Tryd.prog 42 #[.pointer (some ⟨b, 0, none⟩), .int .i64 i] w (BothIs r0 x0 n0 l0 r1 x1 n1 l1 0 w)) (h0 : x0 ≠ 6) (hlt : n0 < n1) (hn : n1 ≠ 0) :
    Calls Tryd.prog 20 #[.pointer (some ⟨b, 0, none⟩), .int .i64 i] w fun e w' => ∃ A c, e = .returned (.tuple #[.slice A l1.length c, .int .i64 0]) ∧ Whole w' w.heap.size A c l1 ∧ Below w.heap.size w w' := by
  have e0 : (x0 == 6) = false := by simpa using h0
  have en : (n1 == 0) = false := by simpa using hn
  have HIF := Lib.hid (show (if n0 < n1 then (1 : Int) else 0) = 1 by rw [if_pos hlt])
  unfold BothIs at zb
  go_enter Tryd.func20, Tryd.ntmps20
  go_wp2_with (first
    | (go_at_call 42; refine zb.mono ?_; (rintro e w1 ⟨A0, c0, A1, c1, rfl, o0, o1, B1⟩))
    | ((with_reducible refine atWorld w1 ?_); refine wpList_allocRow (w := w1) bothTy rfl rfl ?_; (intro w2 b2 B2 s2; have b2 := Lib.hid b2))
    | ((with_reducible refine atWorld w2 ?_); refine wpList_storeRow (w := w2) bothTy rfl (.tmp 6) (.tmp 13) rfl w1.heap.size (bothL r0 x0 n0 A0 l0.length c0 r1 x1 n1 A1 l1.length c1) bothZ rfl rfl rfl rfl bothL_one b2.out ?_; (intro w3 b3 B3 s3 k3; have y1 : w3.cell? ⟨w1.heap.size, 1, none⟩ = some (.int .i64 x0) := b3.cell rfl; have y5 : w3.cell? ⟨w1.heap.size, 5, none⟩ = some (.int .i64 x1) := b3.cell rfl; have B13 := B2.trans B3; have b3 := Lib.hid b3))
    | ((with_reducible refine atWorld w3 ?_); refine wpList_loadRow (w := w3) bothTy rfl (.tmp 6) rfl w1.heap.size 0 (bothL r0 x0 n0 A0 l0.length c0 r1 x1 n1 A1 l1.length c1) rfl rfl (rangeOf b3.out) ?_)
    | (go_at_call 43; refine (newest_any r0 x0 n0 A0 l0.length c0 r1 x1 n1 A1 l1.length c1 w3).mono ?_; (rintro e w4 ⟨rfl, B4⟩; rw [HIF.out]; have b4 := Lib.hid (b3.out.step B4)))
    | ((with_reducible refine atWorld w4 ?_); refine wpList_loadRow (w := w4) halfTy rfl (.tmp 30) rfl w1.heap.size 4 [.int .i64 r1, .int .i64 x1, .int .i64 n1, .slice A1 l1.length c1] rfl rfl (rangeMid (n := 4) b4.out rfl) ?_)
    | ((with_reducible refine atWorld w4 ?_); refine wpList_allocRow (w := w4) halfTy rfl rfl ?_; (intro w5 b5 B5 s5; have b5 := Lib.hid b5))
    | ((with_reducible refine atWorld w5 ?_); refine wpList_storeRow (w := w5) halfTy rfl (.tmp 8) (.tmp 31) rfl w4.heap.size [.int .i64 r1, .int .i64 x1, .int .i64 n1, .slice A1 l1.length c1] halfZ rfl rfl rfl rfl half_one b5.out ?_; (intro w6 b6 B6 s6 k6; have v2 : w6.cell? ⟨w4.heap.size, 2, none⟩ = some (.int .i64 n1) := b6.cell rfl; have v3 : w6.cell? ⟨w4.heap.size, 3, none⟩ = some (.slice A1 l1.length c1) := b6.cell rfl; have B46 := B5.trans B6)))
  go_ret2
  exact ⟨A1, c1, rfl, o1.step (B13.trans ((step_trans B4 B46).mono B13.size)), (B1.trans (B13.mono B1.size)).trans ((step_trans B4 B46).mono (Nat.le_trans B1.size B13.size))⟩
set_option maxRecDepth 100000 in
theorem load_first0 (w : World) (b : Nat) (i r0 x0 n0 : Int) (l0 : List UInt8) (r1 x1 n1 : Int) (l1 : List UInt8) (zb : Calls Tryd.prog 42 #[.pointer (some ⟨b, 0, none⟩), .int .i64 i] w (BothIs r0 x0 n0 l0 r1 x1 n1 l1 0 w)) (h0 : x0 ≠ 6) (hlt : ¬ n0 < n1) (hn : n0 ≠ 0) :
    Calls Tryd.prog 20 #[.pointer (some ⟨b, 0, none⟩), .int .i64 i] w fun e w' => ∃ A c, e = .returned (.tuple #[.slice A l0.length c, .int .i64 0]) ∧ Whole w' w.heap.size A c l0 ∧ Below w.heap.size w w' := by
  have e0 : (x0 == 6) = false := by simpa using h0
  have en : (n0 == 0) = false := by simpa using hn
  have HIF := Lib.hid (show (if n0 < n1 then (1 : Int) else 0) = 0 by rw [if_neg hlt])
  unfold BothIs at zb
  go_enter Tryd.func20, Tryd.ntmps20
  go_wp2_with (first
    | (go_at_call 42; refine zb.mono ?_; (rintro e w1 ⟨A0, c0, A1, c1, rfl, o0, o1, B1⟩))
    | ((with_reducible refine atWorld w1 ?_); refine wpList_allocRow (w := w1) bothTy rfl rfl ?_; (intro w2 b2 B2 s2; have b2 := Lib.hid b2))
    | ((with_reducible refine atWorld w2 ?_); refine wpList_storeRow (w := w2) bothTy rfl (.tmp 6) (.tmp 13) rfl w1.heap.size (bothL r0 x0 n0 A0 l0.length c0 r1 x1 n1 A1 l1.length c1) bothZ rfl rfl rfl rfl bothL_one b2.out ?_; (intro w3 b3 B3 s3 k3; have y1 : w3.cell? ⟨w1.heap.size, 1, none⟩ = some (.int .i64 x0) := b3.cell rfl; have y5 : w3.cell? ⟨w1.heap.size, 5, none⟩ = some (.int .i64 x1) := b3.cell rfl; have B13 := B2.trans B3; have b3 := Lib.hid b3))
    | ((with_reducible refine atWorld w3 ?_); refine wpList_loadRow (w := w3) bothTy rfl (.tmp 6) rfl w1.heap.size 0 (bothL r0 x0 n0 A0 l0.length c0 r1 x1 n1 A1 l1.length c1) rfl rfl (rangeOf b3.out) ?_)
    | (go_at_call 43; refine (newest_any r0 x0 n0 A0 l0.length c0 r1 x1 n1 A1 l1.length c1 w3).mono ?_; (rintro e w4 ⟨rfl, B4⟩; rw [HIF.out]; have b4 := Lib.hid (b3.out.step B4)))
    | ((with_reducible refine atWorld w4 ?_); refine wpList_loadRow (w := w4) halfTy rfl (.tmp 30) rfl w1.heap.size 0 [.int .i64 r0, .int .i64 x0, .int .i64 n0, .slice A0 l0.length c0] rfl rfl (rangeMid (n := 4) b4.out rfl) ?_)
    | ((with_reducible refine atWorld w4 ?_); refine wpList_allocRow (w := w4) halfTy rfl rfl ?_; (intro w5 b5 B5 s5; have b5 := Lib.hid b5))
    | ((with_reducible refine atWorld w5 ?_); refine wpList_storeRow (w := w5) halfTy rfl (.tmp 8) (.tmp 31) rfl w4.heap.size [.int .i64 r0, .int .i64 x0, .int .i64 n0, .slice A0 l0.length c0] halfZ rfl rfl rfl rfl half_one b5.out ?_; (intro w6 b6 B6 s6 k6; have v2 : w6.cell? ⟨w4.heap.size, 2, none⟩ = some (.int .i64 n0) := b6.cell rfl; have v3 : w6.cell? ⟨w4.heap.size, 3, none⟩ = some (.slice A0 l0.length c0) := b6.cell rfl; have B46 := B5.trans B6)))
  go_ret2
  exact ⟨A0, c0, rfl, o0.step (B13.trans ((step_trans B4 B46).mono B13.size)), (B1.trans (B13.mono B1.size)).trans ((step_trans B4 B46).mono (Nat.le_trans B1.size B13.size))⟩
set_option maxRecDepth 100000 in
theorem load_bad0 (w : World) (b : Nat) (i r0 x0 : Int) (l0 : List UInt8) (r1 x1 n1 : Int) (l1 : List UInt8) (zb : Calls Tryd.prog 42 #[.pointer (some ⟨b, 0, none⟩), .int .i64 i] w (BothIs r0 x0 0 l0 r1 x1 n1 l1 0 w)) (h0 : x0 ≠ 6) (hlt : ¬ 0 < n1) :
    Calls Tryd.prog 20 #[.pointer (some ⟨b, 0, none⟩), .int .i64 i] w fun e w' => e = .returned (.tuple #[.slice none 0 0, .int .i64 11]) ∧ Below w.heap.size w w' := by
  have e0 : (x0 == 6) = false := by simpa using h0
  have HIF := Lib.hid (show (if 0 < n1 then (1 : Int) else 0) = 0 by rw [if_neg hlt])
  unfold BothIs at zb
  go_enter Tryd.func20, Tryd.ntmps20
  go_wp2_with (first
    | (go_at_call 42; refine zb.mono ?_; (rintro e w1 ⟨A0, c0, A1, c1, rfl, o0, o1, B1⟩))
    | ((with_reducible refine atWorld w1 ?_); refine wpList_allocRow (w := w1) bothTy rfl rfl ?_; (intro w2 b2 B2 s2; have b2 := Lib.hid b2))
    | ((with_reducible refine atWorld w2 ?_); refine wpList_storeRow (w := w2) bothTy rfl (.tmp 6) (.tmp 13) rfl w1.heap.size (bothL r0 x0 0 A0 l0.length c0 r1 x1 n1 A1 l1.length c1) bothZ rfl rfl rfl rfl bothL_one b2.out ?_; (intro w3 b3 B3 s3 k3; have y1 : w3.cell? ⟨w1.heap.size, 1, none⟩ = some (.int .i64 x0) := b3.cell rfl; have y5 : w3.cell? ⟨w1.heap.size, 5, none⟩ = some (.int .i64 x1) := b3.cell rfl; have B13 := B2.trans B3; have b3 := Lib.hid b3))
    | ((with_reducible refine atWorld w3 ?_); refine wpList_loadRow (w := w3) bothTy rfl (.tmp 6) rfl w1.heap.size 0 (bothL r0 x0 0 A0 l0.length c0 r1 x1 n1 A1 l1.length c1) rfl rfl (rangeOf b3.out) ?_)
    | (go_at_call 43; refine (newest_any r0 x0 0 A0 l0.length c0 r1 x1 n1 A1 l1.length c1 w3).mono ?_; (rintro e w4 ⟨rfl, B4⟩; rw [HIF.out]; have b4 := Lib.hid (b3.out.step B4)))
    | ((with_reducible refine atWorld w4 ?_); refine wpList_loadRow (w := w4) halfTy rfl (.tmp 30) rfl w1.heap.size 0 [.int .i64 r0, .int .i64 x0, .int .i64 0, .slice A0 l0.length c0] rfl rfl (rangeMid (n := 4) b4.out rfl) ?_)
    | ((with_reducible refine atWorld w4 ?_); refine wpList_allocRow (w := w4) halfTy rfl rfl ?_; (intro w5 b5 B5 s5; have b5 := Lib.hid b5))
    | ((with_reducible refine atWorld w5 ?_); refine wpList_storeRow (w := w5) halfTy rfl (.tmp 8) (.tmp 31) rfl w4.heap.size [.int .i64 r0, .int .i64 x0, .int .i64 0, .slice A0 l0.length c0] halfZ rfl rfl rfl rfl half_one b5.out ?_; (intro w6 b6 B6 s6 k6; have v2 : w6.cell? ⟨w4.heap.size, 2, none⟩ = some (.int .i64 0) := b6.cell rfl; have v3 : w6.cell? ⟨w4.heap.size, 3, none⟩ = some (.slice A0 l0.length c0) := b6.cell rfl; have B46 := B5.trans B6)))
  go_ret2
  exact ⟨rfl, (B1.trans (B13.mono B1.size)).trans ((step_trans B4 B46).mono (Nat.le_trans B1.size B13.size))⟩
set_option maxRecDepth 100000 in
theorem load_second1 (w : World) (b : Nat) (i r0 n0 : Int) (l0 : List UInt8) (r1 x1 n1 : Int) (l1 : List UInt8) (zb : Calls Tryd.prog 42 #[.pointer (some ⟨b, 0, none⟩), .int .i64 i] w (BothIs r0 6 n0 l0 r1 x1 n1 l1 0 w)) (h1 : x1 ≠ 6) (hlt : n0 < n1) (hn : n1 ≠ 0) :
    Calls Tryd.prog 20 #[.pointer (some ⟨b, 0, none⟩), .int .i64 i] w fun e w' => ∃ A c, e = .returned (.tuple #[.slice A l1.length c, .int .i64 0]) ∧ Whole w' w.heap.size A c l1 ∧ Below w.heap.size w w' := by
  have e1 : (x1 == 6) = false := by simpa using h1
  have en : (n1 == 0) = false := by simpa using hn
  have HIF := Lib.hid (show (if n0 < n1 then (1 : Int) else 0) = 1 by rw [if_pos hlt])
  unfold BothIs at zb
  go_enter Tryd.func20, Tryd.ntmps20
  go_wp2_with (first
    | (go_at_call 42; refine zb.mono ?_; (rintro e w1 ⟨A0, c0, A1, c1, rfl, o0, o1, B1⟩))
    | ((with_reducible refine atWorld w1 ?_); refine wpList_allocRow (w := w1) bothTy rfl rfl ?_; (intro w2 b2 B2 s2; have b2 := Lib.hid b2))
    | ((with_reducible refine atWorld w2 ?_); refine wpList_storeRow (w := w2) bothTy rfl (.tmp 6) (.tmp 13) rfl w1.heap.size (bothL r0 6 n0 A0 l0.length c0 r1 x1 n1 A1 l1.length c1) bothZ rfl rfl rfl rfl bothL_one b2.out ?_; (intro w3 b3 B3 s3 k3; have y1 : w3.cell? ⟨w1.heap.size, 1, none⟩ = some (.int .i64 6) := b3.cell rfl; have y5 : w3.cell? ⟨w1.heap.size, 5, none⟩ = some (.int .i64 x1) := b3.cell rfl; have B13 := B2.trans B3; have b3 := Lib.hid b3))
    | ((with_reducible refine atWorld w3 ?_); refine wpList_loadRow (w := w3) bothTy rfl (.tmp 6) rfl w1.heap.size 0 (bothL r0 6 n0 A0 l0.length c0 r1 x1 n1 A1 l1.length c1) rfl rfl (rangeOf b3.out) ?_)
    | (go_at_call 43; refine (newest_any r0 6 n0 A0 l0.length c0 r1 x1 n1 A1 l1.length c1 w3).mono ?_; (rintro e w4 ⟨rfl, B4⟩; rw [HIF.out]; have b4 := Lib.hid (b3.out.step B4)))
    | ((with_reducible refine atWorld w4 ?_); refine wpList_loadRow (w := w4) halfTy rfl (.tmp 30) rfl w1.heap.size 4 [.int .i64 r1, .int .i64 x1, .int .i64 n1, .slice A1 l1.length c1] rfl rfl (rangeMid (n := 4) b4.out rfl) ?_)
    | ((with_reducible refine atWorld w4 ?_); refine wpList_allocRow (w := w4) halfTy rfl rfl ?_; (intro w5 b5 B5 s5; have b5 := Lib.hid b5))
    | ((with_reducible refine atWorld w5 ?_); refine wpList_storeRow (w := w5) halfTy rfl (.tmp 8) (.tmp 31) rfl w4.heap.size [.int .i64 r1, .int .i64 x1, .int .i64 n1, .slice A1 l1.length c1] halfZ rfl rfl rfl rfl half_one b5.out ?_; (intro w6 b6 B6 s6 k6; have v2 : w6.cell? ⟨w4.heap.size, 2, none⟩ = some (.int .i64 n1) := b6.cell rfl; have v3 : w6.cell? ⟨w4.heap.size, 3, none⟩ = some (.slice A1 l1.length c1) := b6.cell rfl; have B46 := B5.trans B6)))
  go_ret2
  exact ⟨A1, c1, rfl, o1.step (B13.trans ((step_trans B4 B46).mono B13.size)), (B1.trans (B13.mono B1.size)).trans ((step_trans B4 B46).mono (Nat.le_trans B1.size B13.size))⟩
set_option maxRecDepth 100000 in
theorem load_first1 (w : World) (b : Nat) (i r0 n0 : Int) (l0 : List UInt8) (r1 x1 n1 : Int) (l1 : List UInt8) (zb : Calls Tryd.prog 42 #[.pointer (some ⟨b, 0, none⟩), .int .i64 i] w (BothIs r0 6 n0 l0 r1 x1 n1 l1 0 w)) (h1 : x1 ≠ 6) (hlt : ¬ n0 < n1) (hn : n0 ≠ 0) :
    Calls Tryd.prog 20 #[.pointer (some ⟨b, 0, none⟩), .int .i64 i] w fun e w' => ∃ A c, e = .returned (.tuple #[.slice A l0.length c, .int .i64 0]) ∧ Whole w' w.heap.size A c l0 ∧ Below w.heap.size w w' := by
  have e1 : (x1 == 6) = false := by simpa using h1
  have en : (n0 == 0) = false := by simpa using hn
  have HIF := Lib.hid (show (if n0 < n1 then (1 : Int) else 0) = 0 by rw [if_neg hlt])
  unfold BothIs at zb
  go_enter Tryd.func20, Tryd.ntmps20
  go_wp2_with (first
    | (go_at_call 42; refine zb.mono ?_; (rintro e w1 ⟨A0, c0, A1, c1, rfl, o0, o1, B1⟩))
    | ((with_reducible refine atWorld w1 ?_); refine wpList_allocRow (w := w1) bothTy rfl rfl ?_; (intro w2 b2 B2 s2; have b2 := Lib.hid b2))
    | ((with_reducible refine atWorld w2 ?_); refine wpList_storeRow (w := w2) bothTy rfl (.tmp 6) (.tmp 13) rfl w1.heap.size (bothL r0 6 n0 A0 l0.length c0 r1 x1 n1 A1 l1.length c1) bothZ rfl rfl rfl rfl bothL_one b2.out ?_; (intro w3 b3 B3 s3 k3; have y1 : w3.cell? ⟨w1.heap.size, 1, none⟩ = some (.int .i64 6) := b3.cell rfl; have y5 : w3.cell? ⟨w1.heap.size, 5, none⟩ = some (.int .i64 x1) := b3.cell rfl; have B13 := B2.trans B3; have b3 := Lib.hid b3))
    | ((with_reducible refine atWorld w3 ?_); refine wpList_loadRow (w := w3) bothTy rfl (.tmp 6) rfl w1.heap.size 0 (bothL r0 6 n0 A0 l0.length c0 r1 x1 n1 A1 l1.length c1) rfl rfl (rangeOf b3.out) ?_)
    | (go_at_call 43; refine (newest_any r0 6 n0 A0 l0.length c0 r1 x1 n1 A1 l1.length c1 w3).mono ?_; (rintro e w4 ⟨rfl, B4⟩; rw [HIF.out]; have b4 := Lib.hid (b3.out.step B4)))
    | ((with_reducible refine atWorld w4 ?_); refine wpList_loadRow (w := w4) halfTy rfl (.tmp 30) rfl w1.heap.size 0 [.int .i64 r0, .int .i64 6, .int .i64 n0, .slice A0 l0.length c0] rfl rfl (rangeMid (n := 4) b4.out rfl) ?_)
    | ((with_reducible refine atWorld w4 ?_); refine wpList_allocRow (w := w4) halfTy rfl rfl ?_; (intro w5 b5 B5 s5; have b5 := Lib.hid b5))
    | ((with_reducible refine atWorld w5 ?_); refine wpList_storeRow (w := w5) halfTy rfl (.tmp 8) (.tmp 31) rfl w4.heap.size [.int .i64 r0, .int .i64 6, .int .i64 n0, .slice A0 l0.length c0] halfZ rfl rfl rfl rfl half_one b5.out ?_; (intro w6 b6 B6 s6 k6; have v2 : w6.cell? ⟨w4.heap.size, 2, none⟩ = some (.int .i64 n0) := b6.cell rfl; have v3 : w6.cell? ⟨w4.heap.size, 3, none⟩ = some (.slice A0 l0.length c0) := b6.cell rfl; have B46 := B5.trans B6)))
  go_ret2
  exact ⟨A0, c0, rfl, o0.step (B13.trans ((step_trans B4 B46).mono B13.size)), (B1.trans (B13.mono B1.size)).trans ((step_trans B4 B46).mono (Nat.le_trans B1.size B13.size))⟩
set_option maxRecDepth 100000 in
theorem load_bad1 (w : World) (b : Nat) (i r0 : Int) (l0 : List UInt8) (r1 x1 n1 : Int) (l1 : List UInt8) (zb : Calls Tryd.prog 42 #[.pointer (some ⟨b, 0, none⟩), .int .i64 i] w (BothIs r0 6 0 l0 r1 x1 n1 l1 0 w)) (h1 : x1 ≠ 6) (hlt : ¬ 0 < n1) :
    Calls Tryd.prog 20 #[.pointer (some ⟨b, 0, none⟩), .int .i64 i] w fun e w' => e = .returned (.tuple #[.slice none 0 0, .int .i64 11]) ∧ Below w.heap.size w w' := by
  have e1 : (x1 == 6) = false := by simpa using h1
  have HIF := Lib.hid (show (if 0 < n1 then (1 : Int) else 0) = 0 by rw [if_neg hlt])
  unfold BothIs at zb
  go_enter Tryd.func20, Tryd.ntmps20
  go_wp2_with (first
    | (go_at_call 42; refine zb.mono ?_; (rintro e w1 ⟨A0, c0, A1, c1, rfl, o0, o1, B1⟩))
    | ((with_reducible refine atWorld w1 ?_); refine wpList_allocRow (w := w1) bothTy rfl rfl ?_; (intro w2 b2 B2 s2; have b2 := Lib.hid b2))
    | ((with_reducible refine atWorld w2 ?_); refine wpList_storeRow (w := w2) bothTy rfl (.tmp 6) (.tmp 13) rfl w1.heap.size (bothL r0 6 0 A0 l0.length c0 r1 x1 n1 A1 l1.length c1) bothZ rfl rfl rfl rfl bothL_one b2.out ?_; (intro w3 b3 B3 s3 k3; have y1 : w3.cell? ⟨w1.heap.size, 1, none⟩ = some (.int .i64 6) := b3.cell rfl; have y5 : w3.cell? ⟨w1.heap.size, 5, none⟩ = some (.int .i64 x1) := b3.cell rfl; have B13 := B2.trans B3; have b3 := Lib.hid b3))
    | ((with_reducible refine atWorld w3 ?_); refine wpList_loadRow (w := w3) bothTy rfl (.tmp 6) rfl w1.heap.size 0 (bothL r0 6 0 A0 l0.length c0 r1 x1 n1 A1 l1.length c1) rfl rfl (rangeOf b3.out) ?_)
    | (go_at_call 43; refine (newest_any r0 6 0 A0 l0.length c0 r1 x1 n1 A1 l1.length c1 w3).mono ?_; (rintro e w4 ⟨rfl, B4⟩; rw [HIF.out]; have b4 := Lib.hid (b3.out.step B4)))
    | ((with_reducible refine atWorld w4 ?_); refine wpList_loadRow (w := w4) halfTy rfl (.tmp 30) rfl w1.heap.size 0 [.int .i64 r0, .int .i64 6, .int .i64 0, .slice A0 l0.length c0] rfl rfl (rangeMid (n := 4) b4.out rfl) ?_)
    | ((with_reducible refine atWorld w4 ?_); refine wpList_allocRow (w := w4) halfTy rfl rfl ?_; (intro w5 b5 B5 s5; have b5 := Lib.hid b5))
    | ((with_reducible refine atWorld w5 ?_); refine wpList_storeRow (w := w5) halfTy rfl (.tmp 8) (.tmp 31) rfl w4.heap.size [.int .i64 r0, .int .i64 6, .int .i64 0, .slice A0 l0.length c0] halfZ rfl rfl rfl rfl half_one b5.out ?_; (intro w6 b6 B6 s6 k6; have v2 : w6.cell? ⟨w4.heap.size, 2, none⟩ = some (.int .i64 0) := b6.cell rfl; have v3 : w6.cell? ⟨w4.heap.size, 3, none⟩ = some (.slice A0 l0.length c0) := b6.cell rfl; have B46 := B5.trans B6)))
  go_ret2
  exact ⟨rfl, (B1.trans (B13.mono B1.size)).trans ((step_trans B4 B46).mono (Nat.le_trans B1.size B13.size))⟩
theorem int_lt (a b : Nat) : ((a : Int) < (b : Int)) ↔ a < b := by omega
section
variable {At : World → Nat → (Nat → Prop) → DS → Prop} (D : Disks Tryd.prog At)
include D
theorem load_any (w : World) (b : Nat) (F : Nat → Prop) (S : DS) (i : Int) (ht : TabAt w) (h : At w b F S) : Calls Tryd.prog 20 #[.pointer (some ⟨b, 0, none⟩), .int .i64 i] w (LoadPost S i w) := by
  have zb := both_is D w b F S i ht h
  by_cases hl : Slot.lookE S i = 0
  · obtain ⟨hn, e0, e1⟩ := nxt_eq S (D.ok _ _ _ _ h) i hl
    rw [hl, hn] at zb
    have x0 : Slot.wrongE S i = Slot.readE (S.readB i) := by unfold Slot.wrongE; rw [if_pos e0]
    have x1 : Slot.wrongE S (i + 1) = Slot.readE (S.readB (i + 1)) := by unfold Slot.wrongE; rw [if_pos e1]
    rw [x0, x1] at zb
    have hE : Slot.loadE S i = if Slot.noneB (S.readB i) (S.readB (i + 1)) = true then 6 else if Slot.newestI (S.readB i) (S.readB (i + 1)) < 0 then 11 else 0 := by unfold Slot.loadE; rw [if_pos hl]
    have hB : Slot.loadE S i = 0 → Slot.loadB S i = Slot.topB (S.readB i) (S.readB (i + 1)) := fun h => by unfold Slot.loadB; rw [if_pos h]
    rw [Slot.newestI_eq] at hE
    rw [Slot.topB_eq] at hB
    by_cases hnn : Slot.readE (S.readB i) = 6 ∧ Slot.readE (S.readB (i + 1)) = 6
    · have e : Slot.loadE S i = 6 := by rw [hE, if_pos]; unfold Slot.noneB; simp [Slot.readE_nots.1 hnn.1, Slot.readE_nots.1 hnn.2]
      rw [hnn.1, hnn.2] at zb
      refine (load_none w b i _ _ _ _ _ _ zb).mono fun e' w' ⟨he, hw⟩ => ?_
      rw [he]
      exact LoadPost.none_ e (by decide) hw
    · have hno : ¬ Slot.noneB (S.readB i) (S.readB (i + 1)) = true := fun x => hnn (by unfold Slot.noneB at x; simp at x; exact ⟨Slot.readE_nots.2 x.1, Slot.readE_nots.2 x.2⟩)
      rw [if_neg hno] at hE
      by_cases hlt : Slot.readN (S.readB i) < Slot.readN (S.readB (i + 1))
      · rw [if_pos hlt, if_neg (by decide)] at hE
        have hB := hB hE
        rw [if_pos hlt] at hB
        have hpos : ((Slot.readN (S.readB (i + 1)) : Nat) : Int) ≠ 0 := by omega
        have fin : ∀ e' w', (∃ A c, e' = .returned (.tuple #[.slice A (Slot.readB (S.readB (i + 1))).length c, .int .i64 0]) ∧ Whole w' w.heap.size A c (Slot.readB (S.readB (i + 1))) ∧ Below w.heap.size w w') → LoadPost S i w e' w' := by
          rintro e' w' ⟨A, c, he, hW, hb⟩
          exact ⟨A, c, by rw [hB, hE]; exact he, by rw [hB]; exact hW, hb⟩
        by_cases h6 : Slot.readE (S.readB i) = 6
        · rw [h6] at zb
          exact (load_second1 w b i _ _ _ _ _ _ _ zb (fun x => hnn ⟨h6, x⟩) ((int_lt _ _).2 hlt) hpos).mono fin
        · exact (load_second0 w b i _ _ _ _ _ _ _ _ zb h6 ((int_lt _ _).2 hlt) hpos).mono fin
      · rw [if_neg hlt] at hE
        have hlt' : ¬ ((Slot.readN (S.readB i) : Nat) : Int) < ((Slot.readN (S.readB (i + 1)) : Nat) : Int) := fun x => hlt ((int_lt _ _).1 x)
        by_cases hp : 0 < Slot.readN (S.readB i)
        · rw [if_pos hp, if_neg (by decide)] at hE
          have hB := hB hE
          rw [if_neg hlt] at hB
          have hpos : ((Slot.readN (S.readB i) : Nat) : Int) ≠ 0 := by omega
          have fin : ∀ e' w', (∃ A c, e' = .returned (.tuple #[.slice A (Slot.readB (S.readB i)).length c, .int .i64 0]) ∧ Whole w' w.heap.size A c (Slot.readB (S.readB i)) ∧ Below w.heap.size w w') → LoadPost S i w e' w' := by
            rintro e' w' ⟨A, c, he, hW, hb⟩
            exact ⟨A, c, by rw [hB, hE]; exact he, by rw [hB]; exact hW, hb⟩
          by_cases h6 : Slot.readE (S.readB i) = 6
          · rw [h6] at zb
            exact (load_first1 w b i _ _ _ _ _ _ _ zb (fun x => hnn ⟨h6, x⟩) hlt' hpos).mono fin
          · exact (load_first0 w b i _ _ _ _ _ _ _ _ zb h6 hlt' hpos).mono fin
        · rw [if_neg hp, if_pos (by decide)] at hE
          have z0 : Slot.readN (S.readB i) = 0 := by omega
          rw [z0] at zb hlt'
          have fin : ∀ e' w', (e' = .returned (.tuple #[.slice none 0 0, .int .i64 11]) ∧ Below w.heap.size w w') → LoadPost S i w e' w' := by
            rintro e' w' ⟨he, hb⟩
            rw [he]
            exact LoadPost.none_ hE (by decide) hb
          by_cases h6 : Slot.readE (S.readB i) = 6
          · rw [h6] at zb
            exact (load_bad1 w b i _ _ _ _ _ _ zb (fun x => hnn ⟨h6, x⟩) hlt').mono fin
          · exact (load_bad0 w b i _ _ _ _ _ _ _ zb h6 hlt').mono fin
  · refine (load_err w (.pointer (some ⟨b, 0, none⟩)) i _ _ _ _ _ _ _ _ _ zb hl).mono fun e' w' ⟨he, hw⟩ => ?_
    rw [he]
    exact LoadPost.none_ (by unfold Slot.loadE; rw [if_neg hl]) hl hw
end
end Go.Proofs.YtgnfajmjhlnobaaDoor
