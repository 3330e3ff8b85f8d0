/-
  Which datagram of a session bytes are. Conditions: the table of crc lies as the program's text lays it; the bytes can be read.
-/
import Derived.Test.YtfopjilncfndnaaDoorSsDat
import Derived.Test.YtfopjilncfndnaaDoorSsPart
namespace Go.Proofs.YtfopjilncfndnaaDoor
open Go.RowKit Fix

def okJ (d : Ss.D) (j : Nat) : Prop := ∀ k, k < j → ns d k ≤ 1099511627776
theorem okJ_no {d : Ss.D} {j : Nat} (hj : j < 4) (h : ¬ ns d j ≤ 1099511627776) : Ss.okB d = false := by
  cases e : Ss.okB d
  · rfl
  · unfold Ss.okB at e
    simp only [Bool.and_eq_true, decide_eq_true_eq] at e
    obtain ⟨⟨⟨⟨⟨a, b⟩, c⟩, e⟩, f⟩, g⟩ := e
    refine absurd ?_ h
    obtain rfl | rfl | rfl | rfl : j = 0 ∨ j = 1 ∨ j = 2 ∨ j = 3 := by omega
    · exact b
    · exact c
    · exact e
    · exact f
theorem okJ_yes {d : Ss.D} (h : okJ d 4) : Ss.okB d = (decide (0 < d.boot) && decide (d.pay.length ≤ (if d.num = 0 then 0 else 160))) := by
  have h0 : d.boot ≤ 1099511627776 := h 0 (by decide)
  have h1 : d.num ≤ 1099511627776 := h 1 (by decide)
  have h2 : d.o.boot ≤ 1099511627776 := h 2 (by decide)
  have h3 : d.o.top ≤ 1099511627776 := h 3 (by decide)
  unfold Ss.okB
  rw [decide_eq_true h0, decide_eq_true h1, decide_eq_true h2, decide_eq_true h3]
  simp only [Bool.and_true]
  rfl
set_option maxRecDepth 100000 in
set_option maxHeartbeats 1000000 in
theorem mayBe_any (d : Ss.D) (P : Option Addr) (n c : Nat) (hn : d.pay.length = n) (w : World) :
    Calls Tryd.prog 70 #[.agg #[.int .i64 (d.boot : Int), .int .i64 (d.num : Int), .int .i64 (d.o.boot : Int), .int .i64 (d.o.top : Int), .int .u64 (d.o.came : Int), .slice P n c]] w fun e w' => e = .returned (.bool (Ss.okB d)) ∧ Below w.heap.size w w' := by
  obtain ⟨w1, hw1⟩ : ∃ w1, w1 = w.alloc (.cells #[.int .i64 (d.boot : Int), .int .i64 (d.num : Int), .int .i64 (d.o.boot : Int), .int .i64 (d.o.top : Int), .int .u64 (d.o.came : Int), .slice P n c] 101) := ⟨_, rfl⟩
  have B1 : Below w.heap.size w w1 := by rw [hw1]; exact (Below.refl _ _).alloc (Nat.le_refl _) _
  have b1 : BlkR 101 w1 w.heap.size (dCells d (.slice P n c)) := by rw [hw1]; exact BlkR.new w _ _
  have zn := numbers_any w.heap.size w1
  have DX := Lib.hid (And.intro b1 (And.intro B1 hn))
  obtain ⟨y, hy⟩ : ∃ y, y = Ss.okB d := ⟨_, rfl⟩
  rw [← hy]
  have HY := Lib.hid hy
  clear b1 B1 hn hy
  go_enter Tryd.func70, Tryd.ntmps70
  go_wp2_with (go_at_call 63; rw [← hw1]; refine zn.mono ?_; (rintro e w2 ⟨rfl, B2⟩))
  go_loopw [7] (fun i wr => ∃ j : Nat, j ≤ 4 ∧ i = .int .i64 (j : Int) ∧ okJ d j ∧ wr = w2) (fun i _ => 4 - (intOf i).toNat)
  case atStart => exact ⟨0, Nat.zero_le _, rfl, fun k hk => by omega, rfl⟩
  case round =>
    obtain ⟨j, hj, rfl, hok, rfl⟩ := hrel
    have HB := Lib.hid (step_trans DX.out.2.1 B2)
    have bw := DX.out.1.below B2 DX.out.1.lt
    by_cases hjn : j < 4
    · have hcell := bw.cell (dCells_ns d (.slice P n c) j hjn)
      have hix := pArr_at w.heap.size j hjn
      have hi : (j : Int) < 4 := by omega
      by_cases hg : ns d j ≤ 1099511627776
      · have i2 : decide ((1099511627776 : Int) < (ns d j : Int)) = false := by simp; omega
        obtain ⟨m, hm⟩ : ∃ m, m = ns d j := ⟨_, rfl⟩
        rw [← hm] at hcell i2
        have HX := Lib.hid (And.intro hjn (show okJ d (j + 1) from fun k hk => by
          by_cases e : k = j
          · subst e; exact hg
          · exact hok k (by omega)))
        clear hj hjn hg hok hm zn hw1 bw B2 DX
        go_wp2
        go_roundw
        case rel => exact ⟨j + 1, HX.out.1, by go_num, HX.out.2, trivial⟩
        case measure => have := HX.out.1; simp [intOf]; omega
      · have i2 : decide ((1099511627776 : Int) < (ns d j : Int)) = true := by simp; omega
        obtain rfl : y = false := HY.out.trans (okJ_no hjn hg)
        obtain ⟨m, hm⟩ : ∃ m, m = ns d j := ⟨_, rfl⟩
        rw [← hm] at hcell i2
        clear hj hjn hg hok hm zn hw1 bw B2 DX HY
        go_wp2
        go_ret
        exact ⟨rfl, HB.out⟩
    · obtain rfl : j = 4 := by omega
      have hy := HY.out.trans (okJ_yes hok)
      have c0 := bw.cell (k := 0) rfl
      have c1 := bw.cell (k := 1) rfl
      have c5 := bw.cell (k := 5) rfl
      have hn := DX.out.2.2
      rw [hn] at hy
      obtain ⟨b, hb⟩ : ∃ b, b = d.boot := ⟨_, rfl⟩
      obtain ⟨m, hm⟩ : ∃ m, m = d.num := ⟨_, rfl⟩
      rw [← hb] at c0 hy
      rw [← hm] at c1 hy
      clear hok zn hw1 bw B2 DX HY hj hjn hb hm hn
      by_cases g1 : m = 0
      · have i1 : ((m : Int) == 0) = true := by simp; omega
        rw [if_pos g1] at hy
        by_cases g0 : 0 < b
        · have i0 : decide ((0 : Int) < (b : Int)) = true := by simp; omega
          have i4 : 0 < b := g0
          by_cases g2 : n ≤ 0
          · have i3 : decide (n = 0) = true := by simp; omega
            obtain rfl : y = true := by rw [hy, decide_eq_true g0, decide_eq_true g2]; rfl
            clear g0 g1 hy g2
            go_wp2
            go_ret
            exact ⟨rfl, HB.out⟩
          · have i3 : decide (n = 0) = false := by simp; omega
            obtain rfl : y = false := by rw [hy, decide_eq_false g2, Bool.and_false]
            clear g0 g1 hy g2
            go_wp2
            go_ret
            exact ⟨rfl, HB.out⟩
        · have i0 : decide ((0 : Int) < (b : Int)) = false := by simp; omega
          obtain rfl : y = false := by rw [hy, decide_eq_false g0, Bool.false_and]
          have i4 : ¬ 0 < b := g0
          clear g0 g1 hy
          go_wp2
          go_ret
          exact ⟨rfl, HB.out⟩
      · have i1 : ((m : Int) == 0) = false := by simp; omega
        rw [if_neg g1] at hy
        by_cases g0 : 0 < b
        · have i0 : decide ((0 : Int) < (b : Int)) = true := by simp; omega
          have i4 : 0 < b := g0
          by_cases g2 : n ≤ 160
          · have i3 : decide ((n : Int) ≤ 160) = true := by simp; omega
            obtain rfl : y = true := by rw [hy, decide_eq_true g0, decide_eq_true g2]; rfl
            clear g0 g1 hy g2
            go_wp2
            go_ret
            exact ⟨rfl, HB.out⟩
          · have i3 : decide ((n : Int) ≤ 160) = false := by simp; omega
            obtain rfl : y = false := by rw [hy, decide_eq_false g2, Bool.and_false]
            clear g0 g1 hy g2
            go_wp2
            go_ret
            exact ⟨rfl, HB.out⟩
        · have i0 : decide ((0 : Int) < (b : Int)) = false := by simp; omega
          obtain rfl : y = false := by rw [hy, decide_eq_false g0, Bool.false_and]
          have i4 : ¬ 0 < b := g0
          clear g0 g1 hy
          go_wp2
          go_ret
          exact ⟨rfl, HB.out⟩
theorem get6 (A : Option Addr) (l : List UInt8) (n c j : Nat) (hn : l.length = n) (hj : 6 * j + 6 ≤ n) (hc : n ≤ c) (h1 : n ≤ 1000) (w : World) (hr : BytesAt w w.heap.size A l) :
    Calls Tryd.prog 68 #[.slice A n c, .int .i64 ((6 * j : Nat) : Int), .int .i64 6] w fun e w' => e = .returned (.tuple #[.int .i64 (Ss.num l j : Int), .int .i64 ((6 * (j + 1) : Nat) : Int), .agg #[.int .i64 0, .int .i64 0]]) ∧ Below w.heap.size w w' := by
  subst hn
  have z := get_any A l c ((6 * j : Nat) : Int) 6 w hc (by omega) hr
  have e1 : isz 6 = true := by decide
  have e2 : inR l.length ((6 * j : Nat) : Int) = true := (inR_iff _ _).2 ⟨by omega, by omega⟩
  have e3 : inN l.length ((6 * j : Nat) : Int) 6 = true := (inN_iff _ _ 6).2 ⟨by omega, by omega, by omega⟩
  simp only [getsN, getsP, getsE, getsA, e1, if_true, getN, getP, getE, getA, show (6 : Int).toNat = 6 from rfl, Int.toNat_natCast, show ((6 : Nat) : Int) = 6 from rfl, e2, e3, flt] at z
  rw [show ((6 * (j + 1) : Nat) : Int) = ((6 * j : Nat) : Int) + 6 by omega]
  exact z
theorem get24 (A : Option Addr) (l : List UInt8) (n c : Nat) (hn : l.length = n) (hj : 32 ≤ n) (hc : n ≤ c) (h1 : n ≤ 1000) (w : World) (hr : BytesAt w w.heap.size A l) :
    Calls Tryd.prog 69 #[.slice A n c, .int .i64 24] w fun e w' => e = .returned (.tuple #[.int .u64 ((le ((l.drop 24).take 8) : Nat) : Int), .int .i64 32, .agg #[.int .i64 0, .int .i64 0]]) ∧ Below w.heap.size w w' := by
  subst hn
  have z := getLong_any A l c 24 w hc (by omega) hr
  have e2 : inR l.length 24 = true := (inR_iff _ _).2 ⟨by omega, by omega⟩
  have e3 : inN l.length 24 8 = true := (inN_iff _ _ 8).2 ⟨by omega, by omega, by omega⟩
  simp only [getN, getP, getE, getA, show (24 : Int).toNat = 24 from rfl, show ((8 : Nat) : Int) = 8 from rfl, e2, e3, if_true, flt] at z
  exact z
/-- a datagram of which so many numbers are read -/
def dC (l : List UInt8) (j : Nat) : List Value := [.int .i64 ((if 0 < j then Ss.num l 0 else 0 : Nat) : Int), .int .i64 ((if 1 < j then Ss.num l 1 else 0 : Nat) : Int), .int .i64 ((if 2 < j then Ss.num l 2 else 0 : Nat) : Int), .int .i64 ((if 3 < j then Ss.num l 3 else 0 : Nat) : Int), .int .u64 0, .slice none 0 0]
theorem dC_set (l : List UInt8) (j : Nat) (hj : j < 4) : (dC l j).set j (.int .i64 (Ss.num l j : Int)) = dC l (j + 1) := by
  obtain rfl | rfl | rfl | rfl : j = 0 ∨ j = 1 ∨ j = 2 ∨ j = 3 := by omega
  all_goals simp [dC]
theorem dC_done (l : List UInt8) : dC l 4 = [.int .i64 (Ss.num l 0 : Int), .int .i64 (Ss.num l 1 : Int), .int .i64 (Ss.num l 2 : Int), .int .i64 (Ss.num l 3 : Int), .int .u64 0, .slice none 0 0] := rfl
theorem dC_cell (l : List UInt8) (j : Nat) (hj : j < 4) : ∃ v, (dC l j)[j]? = some v := by
  obtain rfl | rfl | rfl | rfl : j = 0 ∨ j = 1 ∨ j = 2 ∨ j = 3 := by omega
  all_goals exact ⟨_, rfl⟩
def ReadPost (l : List UInt8) (w : World) (e : Ending) (w' : World) : Prop :=
  ∃ A c, e = .returned (.tuple #[.agg #[.int .i64 ((Ss.readD l).boot : Int), .int .i64 ((Ss.readD l).num : Int), .int .i64 ((Ss.readD l).o.boot : Int), .int .i64 ((Ss.readD l).o.top : Int), .int .u64 ((Ss.readD l).o.came : Int), .slice A (Ss.readD l).pay.length c], .int .i64 (Ss.readE l)]) ∧ c ≤ 9223372036854775807 ∧ Mid w' w.heap.size A c (Ss.readD l).pay ∧ Below w.heap.size w w'
theorem readPost_no {l : List UInt8} {w w' : World} {x : Int} (h : Ss.readE l = x) (hx : x ≠ 0) (B : Below w.heap.size w w') : ReadPost l w (.returned (.tuple #[.agg #[.int .i64 0, .int .i64 0, .int .i64 0, .int .i64 0, .int .u64 0, .slice none 0 0], .int .i64 x])) w' := by
  have e : Ss.readD l = ⟨0, 0, ⟨0, 0, 0⟩, []⟩ := by unfold Ss.readD; rw [if_neg (by rw [h]; exact hx)]
  refine ⟨none, 0, ?_, by decide, ?_, B⟩
  · rw [e, h]; rfl
  · rw [e]; exact Mid.none_
/-- a new datagram -/
abbrev dz : Obj := .cells #[.int .i64 0, .int .i64 0, .int .i64 0, .int .i64 0, .int .u64 0, .slice none 0 0] 101
theorem dz_at (w w2 : World) (B : Below (w.alloc dz).heap.size (w.alloc dz) w2) : BlkR 101 w2 w.heap.size [.int .i64 0, .int .i64 0, .int .i64 0, .int .i64 0, .int .u64 0, .slice none 0 0] ∧ Below w.heap.size w w2 ∧ w.heap.size < w2.heap.size := by
  refine ⟨BlkR.below (BlkR.new w _ _) B (by simp), ((Below.refl _ w).alloc (Nat.le_refl _) _).trans (B.mono (by simp)), ?_⟩
  have := B.size
  simp at this
  omega
set_option maxRecDepth 100000 in
set_option maxHeartbeats 1000000 in
theorem read_wrong (A : Option Addr) (l : List UInt8) (n c : Nat) (hn : l.length = n) (hc : n ≤ c) (h1 : n ≤ 1000) (w : World) (ht : TabAt w) (hr : BytesAt w w.heap.size A l) (h : Frm.wrongE l ≠ 0) :
    Calls Tryd.prog 46 #[.slice A n c] w (ReadPost l w) := by
  have z := frget_any A l n c hn hc h1 (w.alloc dz) (ht.alloc _) (hr.stepA dz)
  unfold FrGetPost flt at z
  have eb : Frm.getB l = [] := by unfold Frm.getB; rw [if_neg h]
  rw [eb] at z
  have HP := Lib.hid (fun (w' : World) (B : Below w.heap.size w w') => readPost_no (show Ss.readE l = Frm.wrongE l by unfold Ss.readE; rw [if_pos h]) h B)
  obtain ⟨x, hx⟩ : ∃ x, x = Frm.wrongE l := ⟨_, rfl⟩
  obtain ⟨a, ha⟩ : ∃ a, a = Frm.wrongA l := ⟨_, rfl⟩
  rw [← hx, ← ha] at z
  rw [← hx] at HP h
  have hne : (x != 0) = true := by simpa using h
  clear hx ha h hn hc h1 ht hr eb
  go_enter Tryd.func46, Tryd.ntmps46
  go_wp2_with (go_at_call 67; refine z.mono ?_; (rintro e w2 ⟨A2, c2, rfl, hc2, o2, B2⟩; obtain ⟨x0, x1⟩ := flt_at w2 x a _ (Below.refl _ _)))
  obtain ⟨b2, BB, s2⟩ := dz_at w _ (step_alloc B2 (.cells #[.int .i64 x, .int .i64 a] 111))
  have d0 := b2.cell (k := 0) rfl
  have d1 := b2.cell (k := 1) rfl
  have d2 := b2.cell (k := 2) rfl
  have d3 := b2.cell (k := 3) rfl
  have d4 := b2.cell (k := 4) rfl
  have d5 := b2.cell (k := 5) rfl
  have f0 := b2.frozen 0
  have f1 := b2.frozen 1
  have f2 := b2.frozen 2
  have f3 := b2.frozen 3
  have f4 := b2.frozen 4
  have f5 := b2.frozen 5
  obtain ⟨g, hg⟩ : ∃ g, g = w2.heap.size := ⟨_, rfl⟩
  obtain ⟨w3, hw3⟩ : ∃ v, v = w2.alloc (.cells #[.int .i64 x, .int .i64 a] 111) := ⟨_, rfl⟩
  obtain ⟨q, hq⟩ : ∃ q, q = w.heap.size := ⟨_, rfl⟩
  rw [← hw3] at x0 d0 d1 d2 d3 d4 d5 f0 f1 f2 f3 f4 f5 BB ⊢
  rw [← hg] at x0 ⊢
  rw [← hq] at d0 d1 d2 d3 d4 d5 f0 f1 f2 f3 f4 f5 ⊢
  have HQ := Lib.hid (And.intro hq BB)
  have n1 : ¬ g = q := by have := B2.size; simp at this; omega
  have n2 : ¬ q = g := fun e => n1 e.symm
  clear hq hw3 hg BB B2 z b2 s2 o2 x1
  go_region
  go_wp2
  refine bodyPost_ret (v := .tuple #[.agg #[.int .i64 0, .int .i64 0, .int .i64 0, .int .i64 0, .int .u64 0, .slice none 0 0], .int .i64 x]) (by simp [results, Tryd.results46, go_sem, d0, d1, d2, d3, d4, d5]) rfl (HP.out _ ?_)
  obtain ⟨hq, BB⟩ := HQ.out
  refine Below.drew (Below.setCell (Below.setCell (Below.setCell (Below.setCell (Below.setCell (Below.setCell BB ?_ _) ?_ _) ?_ _) ?_ _) ?_ _) ?_ _) <;> exact Nat.le_of_eq hq.symm
set_option maxRecDepth 100000 in
set_option maxHeartbeats 1000000 in
theorem read_short (A : Option Addr) (l : List UInt8) (n c : Nat) (hn : l.length = n) (hc : n ≤ c) (h1 : n ≤ 1000) (w : World) (ht : TabAt w) (hr : BytesAt w w.heap.size A l) (h : Frm.wrongE l = 0) (hs : (Frm.pay l).length < 32) :
    Calls Tryd.prog 46 #[.slice A n c] w (ReadPost l w) := by
  have z := frget_any A l n c hn hc h1 (w.alloc dz) (ht.alloc _) (hr.stepA dz)
  unfold FrGetPost flt at z
  have eb : Frm.getB l = Frm.pay l := by unfold Frm.getB; rw [if_pos h]
  rw [eb, h, Frm.right_A h] at z
  have HP := Lib.hid (fun (w' : World) (B : Below w.heap.size w w') => readPost_no (show Ss.readE l = 4 by unfold Ss.readE; rw [if_neg (by rw [h]; simp), if_pos hs]) (by decide) B)
  obtain ⟨p, hp⟩ : ∃ p, p = Frm.pay l := ⟨_, rfl⟩
  rw [← hp] at z hs
  have hlt : (p.length : Int) < 32 := by omega
  clear hp hs h hn hc h1 ht hr eb
  go_enter Tryd.func46, Tryd.ntmps46
  go_wp2_with (go_at_call 67; refine z.mono ?_; (rintro e w2 ⟨A2, c2, rfl, hc2, o2, B2⟩; obtain ⟨x0, x1⟩ := flt_at w2 0 0 _ (Below.refl _ _); obtain ⟨b2, BB, s2⟩ := dz_at w _ (step_alloc B2 (.cells #[.int .i64 0, .int .i64 0] 111)); have d0 := b2.cell (k := 0) rfl; have d1 := b2.cell (k := 1) rfl; have d2 := b2.cell (k := 2) rfl; have d3 := b2.cell (k := 3) rfl; have d4 := b2.cell (k := 4) rfl; have d5 := b2.cell (k := 5) rfl; have f0 := b2.frozen 0; have f1 := b2.frozen 1; have f2 := b2.frozen 2; have f3 := b2.frozen 3; have f4 := b2.frozen 4; have f5 := b2.frozen 5; have BB := Lib.hid BB; clear b2 s2 B2 o2))
  refine bodyPost_ret (v := .tuple #[.agg #[.int .i64 0, .int .i64 0, .int .i64 0, .int .i64 0, .int .u64 0, .slice none 0 0], .int .i64 4]) (by simp [results, Tryd.results46, go_sem, d0, d1, d2, d3, d4, d5]) rfl (HP.out _ ?_)
  have BB := BB.out
  refine Below.setCell (Below.setCell (Below.setCell (Below.setCell (Below.setCell (Below.setCell BB ?_ _) ?_ _) ?_ _) ?_ _) ?_ _) ?_ _ <;> exact Nat.le_refl _
set_option maxRecDepth 100000 in
set_option maxHeartbeats 1000000 in
theorem read_long (A : Option Addr) (l : List UInt8) (n c : Nat) (hn : l.length = n) (hc : n ≤ c) (h1 : n ≤ 1000) (w : World) (ht : TabAt w) (hr : BytesAt w w.heap.size A l) (h : Frm.wrongE l = 0) (hs : ¬ (Frm.pay l).length < 32) :
    Calls Tryd.prog 46 #[.slice A n c] w (ReadPost l w) := by
  have z := frget_any A l n c hn hc h1 (w.alloc dz) (ht.alloc _) (hr.stepA dz)
  unfold FrGetPost flt at z
  have eb : Frm.getB l = Frm.pay l := by unfold Frm.getB; rw [if_pos h]
  rw [eb, h, Frm.right_A h] at z
  have hp9 := (Frm.put_get l h).2.2
  have he : Ss.readE l = if Ss.okB (Ss.rd (Frm.pay l)) = true then 0 else 5 := by unfold Ss.readE; rw [if_neg (by rw [h]; simp), if_neg hs]
  have hd : Ss.okB (Ss.rd (Frm.pay l)) = true → Ss.readD l = Ss.rd (Frm.pay l) := fun ho => by unfold Ss.readD; rw [if_pos (by rw [he, if_pos ho])]
  obtain ⟨p, hp⟩ : ∃ p, p = Frm.pay l := ⟨_, rfl⟩
  rw [← hp] at z hs he hd hp9
  obtain ⟨m, hm⟩ : ∃ m, m = p.length := ⟨_, rfl⟩
  rw [← hm] at z hs
  have hlt : ¬ (m : Int) < 32 := by omega
  have HX := Lib.hid (And.intro hm (And.intro (show 32 ≤ m by omega) (And.intro (show m ≤ 1000 by omega) (And.intro he hd))))
  clear hp hs h hn hc h1 ht hr eb hm hp9 he hd
  go_enter Tryd.func46, Tryd.ntmps46
  go_wp2_with (first
    | (go_at_call 67; refine z.mono ?_; (rintro e w2 ⟨A2, c2, rfl, hc2, o2, B2⟩; obtain ⟨x0, x1⟩ := flt_at w2 0 0 _ (Below.refl _ _)))
    | (go_at_call 63; refine (numbers_any _ _).mono ?_; (rintro e w4 ⟨rfl, B4⟩)))
  obtain ⟨b2, BB, s2⟩ := dz_at w w2 B2
  have b3 : BlkR 101 ((w2.alloc (.cells #[.int .i64 0, .int .i64 0] 111)).alloc dz) (w2.heap.size + 1) (dC p 0) := by
    have := BlkR.new (w2.alloc (.cells #[.int .i64 0, .int .i64 0] 111)) [.int .i64 0, .int .i64 0, .int .i64 0, .int .i64 0, .int .u64 0, .slice none 0 0] 101
    rw [World.size_alloc] at this
    exact this
  have B3 : Below w2.heap.size w2 ((w2.alloc (.cells #[.int .i64 0, .int .i64 0] 111)).alloc dz) := step_alloc (step_alloc (Below.refl _ w2) _) _
  have B24 := step_trans B3 B4
  have g4 := BlkR.below b3 B4 b3.lt
  have q4 := BlkR.below b2 B24 b2.lt
  have o4 := o2.step B24
  have B04 := step_trans BB B24
  have hs2 : w.heap.size < w2.heap.size := s2
  have hs4 := g4.lt
  obtain ⟨g, hg⟩ : ∃ g, g = w2.heap.size + 1 := ⟨_, rfl⟩
  rw [← hg] at g4 hs4 ⊢
  have hqg : w.heap.size < g := by omega
  have o4 := o4.less (show w.heap.size + 1 ≤ (w.alloc dz).heap.size by simp)
  have hgA : ∀ ad, A2 = some ad → ad.block < g := fun ad e => by
    rcases o2 with ⟨e2, e3⟩ | ⟨gg, t, E, e2, _, hb, _⟩
    · exfalso; have h1 := HX.out.1; have h2 := HX.out.2.1; rw [e2] at h1; simp at h1; omega
    · rw [e2] at e; cases e; have := hb.lt; show gg < g; omega
  have HW := Lib.hid (And.intro g4 (And.intro q4 (And.intro o4 (And.intro B04 (And.intro hqg (And.intro hs4 hgA))))))
  clear b2 BB s2 b3 B3 B24 g4 q4 o4 B04 hs2 hs4 hg hqg hgA B4 o2 B2 x0 x1 z hlt
  go_loopw [7, 26] (fun v i wr => ∃ j : Nat, j ≤ 4 ∧ v = .int .i64 ((6 * j : Nat) : Int) ∧ i = .int .i64 (j : Int) ∧ BlkR 101 wr g (dC p j) ∧ Frame (fun k => k = g) w4 wr) (fun _ i _ => 4 - (intOf i).toNat)
  case atStart => exact ⟨0, Nat.zero_le _, rfl, rfl, HW.out.1, Frame.refl _ _⟩
  case round =>
    obtain ⟨j, hj, rfl, rfl, hb, hfr⟩ := hrel
    have hbA : BytesAt wr wr.heap.size A2 p := hfr.bytes HW.out.2.2.1.bytes (fun ad e => by have := HW.out.2.2.2.2.2.2 ad e; omega)
    by_cases hjn : j < 4
    · have hix := pArr_at g j hjn
      have hi : (j : Int) < 4 := by omega
      have zg := get6 A2 p m c2 j HX.out.1.symm (by have := HX.out.2.1; omega) (by have := HW.out.2.2.1.cap; have := HX.out.1; omega) HX.out.2.2.1 wr hbA
      obtain ⟨v0, hv0⟩ := dC_cell p j hjn
      have HJ := Lib.hid (And.intro hjn (And.intro hb hfr))
      have e6 : ((6 * (j + 1) : Nat) : Int) = ((6 * j : Nat) : Int) + 6 := by omega
      obtain ⟨x, hx⟩ : ∃ x, x = Ss.num p j := ⟨_, rfl⟩
      rw [← hx] at zg
      have HN := Lib.hid hx
      clear hj hjn hb hfr hbA e6 hx
      obtain ⟨at_, hat⟩ : ∃ at_ : Int, at_ = ((6 * j : Nat) : Int) := ⟨_, rfl⟩
      obtain ⟨at2, hat2⟩ : ∃ at_ : Int, at_ = ((6 * (j + 1) : Nat) : Int) := ⟨_, rfl⟩
      rw [← hat, ← hat2] at zg
      rw [← hat]
      have HA := Lib.hid hat2
      clear hat hat2
      go_wp2_with (go_at_call 68; refine zg.mono ?_; (rintro e w5 ⟨rfl, B5⟩; have b5 := BlkR.below HJ.out.2.1 B5 HJ.out.2.1.lt; have c5 := b5.cell hv0; have f5 := b5.frozen j))
      go_roundw
      case rel =>
        refine ⟨j + 1, HJ.out.1, by rw [HA.out], by go_num, ?_, ?_⟩
        · rw [HN.out, ← dC_set p j HJ.out.1]
          exact b5.set_ j _
        · exact (HJ.out.2.2.trans (Frame.of_below (F := fun _ => False) B5) fun _ x => x.elim).setAt ⟨g, j, none⟩ _ rfl
      case measure => have := HJ.out.1; simp [intOf]; omega
    · obtain rfl : j = 4 := by omega
      rw [dC_done] at hb
      have hm := HX.out.1
      have hm32 := HX.out.2.1
      have hcap := HW.out.2.2.1.cap
      have zl := get24 A2 p m c2 hm.symm hm32 (by omega) HX.out.2.2.1 wr hbA
      have qc := cut_from A2 m c2 32 hm32
      obtain ⟨X, hX⟩ : ∃ X : Int, X = 32 := ⟨_, rfl⟩
      rw [show ((32 : Nat) : Int) = 32 from rfl, ← hX] at qc
      rw [← hX] at zl
      clear hX
      have hmid := HW.out.2.2.1.cut 32 (by omega)
      have hdl : (Ss.rd p).pay.length = m - 32 := by show (p.drop 32).length = _; rw [List.length_drop, hm]
      have zm := fun A' c' w => mayBe_any (Ss.rd p) A' (m - 32) c' hdl w
      simp only [Ss.rd] at zm
      obtain ⟨x, hx⟩ : ∃ x, x = le ((p.drop 24).take 8) := ⟨_, rfl⟩
      rw [← hx] at zl zm
      obtain ⟨y, hy⟩ : ∃ y, y = Ss.okB (Ss.rd p) := ⟨_, rfl⟩
      have hy' : Ss.okB ⟨Ss.num p 0, Ss.num p 1, ⟨Ss.num p 2, Ss.num p 3, x⟩, p.drop 32⟩ = y := by rw [hy, hx]; rfl
      rw [hy'] at zm
      obtain ⟨A3, hA3⟩ : ∃ A3, A3 = cutA A2 32 c2 := ⟨_, rfl⟩
      obtain ⟨k, hk⟩ : ∃ k, k = m - 32 := ⟨_, rfl⟩
      obtain ⟨c3, hc3⟩ : ∃ c3, c3 = c2 - 32 := ⟨_, rfl⟩
      rw [← hA3, ← hk, ← hc3] at qc
      rw [← hk] at zm
      rw [← hA3, ← hc3] at hmid
      have hc3m : c3 ≤ 9223372036854775807 := by omega
      obtain ⟨n0, h0⟩ : ∃ v, v = Ss.num p 0 := ⟨_, rfl⟩
      obtain ⟨n1, h1⟩ : ∃ v, v = Ss.num p 1 := ⟨_, rfl⟩
      obtain ⟨n2, h2⟩ : ∃ v, v = Ss.num p 2 := ⟨_, rfl⟩
      obtain ⟨n3, h3⟩ : ∃ v, v = Ss.num p 3 := ⟨_, rfl⟩
      rw [← h0, ← h1, ← h2, ← h3] at zm hb
      have hpay : (p.drop 32).length = k := by rw [hk]; exact hdl
      have hrd : Ss.rd p = ⟨n0, n1, ⟨n2, n3, x⟩, p.drop 32⟩ := by rw [h0, h1, h2, h3, hx]; rfl
      have FX : Hid (∀ w5, Below wr.heap.size wr w5 → BlkR 101 w5 g [.int .i64 (n0 : Int), .int .i64 (n1 : Int), .int .i64 (n2 : Int), .int .i64 (n3 : Int), .int .u64 0, .slice none 0 0] ∧
          ∀ w6, Below ((w5.setCell ⟨g, 4, none⟩ (.int .u64 (x : Int))).setCell ⟨g, 5, none⟩ (.slice A3 k c3)).heap.size ((w5.setCell ⟨g, 4, none⟩ (.int .u64 (x : Int))).setCell ⟨g, 5, none⟩ (.slice A3 k c3)) w6 →
            BlkR 101 w6 g [.int .i64 (n0 : Int), .int .i64 (n1 : Int), .int .i64 (n2 : Int), .int .i64 (n3 : Int), .int .u64 (x : Int), .slice A3 k c3] ∧
            BlkR 101 w6 w.heap.size [.int .i64 0, .int .i64 0, .int .i64 0, .int .i64 0, .int .u64 0, .slice none 0 0] ∧ Below w.heap.size w w6 ∧ Mid w6 (w.heap.size + 1) A3 c3 (p.drop 32)) := Lib.hid fun w5 B5 => by
        have b5 := BlkR.below hb B5 hb.lt
        refine ⟨b5, fun w6 B6 => ?_⟩
        have s5 := (b5.set_ 4 (.int .u64 (x : Int))).set_ 5 (.slice A3 k c3)
        have f5 : Frame (fun j => j = g) w4 ((w5.setCell ⟨g, 4, none⟩ (.int .u64 (x : Int))).setCell ⟨g, 5, none⟩ (.slice A3 k c3)) := ((hfr.trans (Frame.of_below (F := fun _ => False) B5) fun _ x => x.elim).setAt ⟨g, 4, none⟩ _ rfl).setAt ⟨g, 5, none⟩ _ rfl
        have f6 := f5.trans (Frame.of_below (F := fun _ => False) B6) fun _ x => x.elim
        refine ⟨BlkR.below s5 B6 s5.lt, (f6.block _ HW.out.2.1.lt (by have := HW.out.2.2.2.2.1; omega)).trans HW.out.2.1, HW.out.2.2.2.1.trans (f6.below (B := w.heap.size) (fun j e => by have := HW.out.2.2.2.2.1; omega) HW.out.2.2.2.1.size), ?_⟩
        rcases hmid with h | ⟨gg, pp, E, mm, e1, hgg, hbb, hh⟩
        · exact .inl h
        · refine .inr ⟨gg, pp, E, mm, e1, hgg, (f6.block gg hbb.lt fun e => ?_).trans hbb, hh⟩
          subst e
          have hne : A2 ≠ none := fun e => by rw [hA3, e] at e1; unfold cutA at e1; split at e1 <;> simp at e1
          obtain ⟨ad, had⟩ := Option.ne_none_iff_exists'.1 hne
          have := HW.out.2.2.2.2.2.2 ad had
          rw [hA3, had] at e1
          unfold cutA at e1
          split at e1
          · cases e1; simp at this
          · simp at e1; have e2 := congrArg Addr.block e1; rw [block_add] at e2; simp at e2; omega
      have HZ := Lib.hid (And.intro HX.out.2.2.2.1 (And.intro HX.out.2.2.2.2 (And.intro hrd (And.intro hpay (And.intro hc3m hy)))))
      clear hj hjn hfr hb hm hm32 hcap hmid hdl hx hy hy' hA3 hk hc3 h0 h1 h2 h3 hpay hrd hbA hc3m HW HX hc2
      cases y
      all_goals (go_wp2_with (first
                | (go_at_call 69; refine zl.mono ?_; (rintro e w5 ⟨rfl, B5⟩; obtain ⟨b5, hnx⟩ := FX.out w5 B5; have NX := Lib.hid hnx; clear hnx; have c0 := b5.cell (k := 0) rfl; have c1 := b5.cell (k := 1) rfl; have z2 := b5.cell (k := 2) rfl; have z3 := b5.cell (k := 3) rfl; have z4 := b5.cell (k := 4) rfl; have z5 := b5.cell (k := 5) rfl; have f4 := b5.frozen 4; have f5 := b5.frozen 5; have b5 := Lib.hid b5))
                | (go_at_call 70; (with_reducible refine (zm A3 c3 _).mono ?_); (rintro e w6 ⟨rfl, B6⟩; obtain ⟨b6, q6, B06, m6⟩ := NX.out w6 B6; have d0 := b6.cell (k := 0) rfl; have d1 := b6.cell (k := 1) rfl; have d2 := b6.cell (k := 2) rfl; have d3 := b6.cell (k := 3) rfl; have d4 := b6.cell (k := 4) rfl; have d5 := b6.cell (k := 5) rfl; have e0 := q6.cell (k := 0) rfl; have e1 := q6.cell (k := 1) rfl; have e2 := q6.cell (k := 2) rfl; have e3 := q6.cell (k := 3) rfl; have e4 := q6.cell (k := 4) rfl; have e5 := q6.cell (k := 5) rfl; have g0 := q6.frozen 0; have g1 := q6.frozen 1; have g2 := q6.frozen 2; have g3 := q6.frozen 3; have g4 := q6.frozen 4; have g5 := q6.frozen 5; have H6 := Lib.hid (And.intro B06 m6)))))
      · refine bodyPost_ret (v := .tuple #[.agg #[.int .i64 0, .int .i64 0, .int .i64 0, .int .i64 0, .int .u64 0, .slice none 0 0], .int .i64 5]) (by simp [results, Tryd.results46, go_sem, e0, e1, e2, e3, e4, e5]) rfl ?_
        obtain ⟨he, _, _, _, _, hy⟩ := HZ.out
        rw [← hy] at he
        refine readPost_no he (by decide) ?_
        have BB := H6.out.1
        refine Below.setCell (Below.setCell (Below.setCell (Below.setCell (Below.setCell (Below.setCell BB ?_ _) ?_ _) ?_ _) ?_ _) ?_ _) ?_ _ <;> exact Nat.le_refl _
      · refine bodyPost_ret (v := .tuple #[.agg #[.int .i64 (n0 : Int), .int .i64 (n1 : Int), .int .i64 (n2 : Int), .int .i64 (n3 : Int), .int .u64 (x : Int), .slice A3 k c3], .int .i64 0]) (by simp [results, Tryd.results46, go_sem, e0, e1, e2, e3, e4, e5]) rfl ?_
        obtain ⟨he, hd, hrd, hpay, hc3, hy⟩ := HZ.out
        rw [← hy, if_pos rfl] at he
        have hd := hd hy.symm
        rw [hrd] at hd
        refine ⟨A3, c3, ?_, hc3, ?_, ?_⟩
        · rw [hd, he]; dsimp only; rw [hpay]
        · rw [hd]
          have hF : Frame (fun j => j = w.heap.size) w6 _ := ((((((Frame.refl (fun j => j = w.heap.size) w6).setAt ⟨w.heap.size, 0, none⟩ (.int .i64 (n0 : Int)) rfl).setAt ⟨w.heap.size, 1, none⟩ (.int .i64 (n1 : Int)) rfl).setAt ⟨w.heap.size, 2, none⟩ (.int .i64 (n2 : Int)) rfl).setAt ⟨w.heap.size, 3, none⟩ (.int .i64 (n3 : Int)) rfl).setAt ⟨w.heap.size, 4, none⟩ (.int .u64 (x : Int)) rfl).setAt ⟨w.heap.size, 5, none⟩ (.slice A3 k c3) rfl
          exact (H6.out.2.frame hF (fun j e => by omega)).less (Nat.le_succ _)
        · have BB := H6.out.1
          refine Below.setCell (Below.setCell (Below.setCell (Below.setCell (Below.setCell (Below.setCell BB ?_ _) ?_ _) ?_ _) ?_ _) ?_ _) ?_ _ <;> exact Nat.le_refl _
/-- whatever bytes -/
theorem read_any (A : Option Addr) (l : List UInt8) (n c : Nat) (hn : l.length = n) (hc : n ≤ c) (h1 : n ≤ 1000) (w : World) (ht : TabAt w) (hr : BytesAt w w.heap.size A l) :
    Calls Tryd.prog 46 #[.slice A n c] w (ReadPost l w) := by
  by_cases h : Frm.wrongE l = 0
  · by_cases hs : (Frm.pay l).length < 32
    · exact read_short A l n c hn hc h1 w ht hr h hs
    · exact read_long A l n c hn hc h1 w ht hr h hs
  · exact read_wrong A l n c hn hc h1 w ht hr h
end Go.Proofs.YtfopjilncfndnaaDoor
