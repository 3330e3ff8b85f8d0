/-
  Clocks: what the program's own calls do. Conditions: none.
-/
import Derived.Test.YtfopjilncfndnaaCkMath
import Derived.Test.YtfopjilncfndnaaRowK
import Derived.Test.YtfopjilncfndnaaBa
import Derived.Test.YtfopjilncfndnaaRowStep
import Derived.Test.YtfopjilncfndnaaFrame
import Derived.Test.YtfopjilncfndnaaRegTail
import Derived.StillTailTactics
import Derived.Deep.RegionHeld3
import Derived.LaidEqlPtr
import Derived.ChangeKeysEq
import Derived.Lib.Hide
namespace Go.Proofs.Ytfopjilncfndnaa
open Go.RowKit Ck

set_option maxRecDepth 100000 in
theorem info_t3 : RowTy Try.prog 22 [.int .i64 0, .int .i64 0, .int .i64 0] := ⟨fun w => by kernel_rfl, by kernel_rfl, _, Try.underlying22, rfl⟩
set_option maxRecDepth 100000 in
theorem info_times : RowTy Try.prog 38 [.int .i64 0, .int .i64 0, .int .i64 0] := ⟨fun w => by kernel_rfl, by kernel_rfl, _, Try.underlying38, rfl⟩
/-- both arrays are the same -/
theorem eql3 {P : Program} {t e : TypeId} (hu : P.underlying t = some (.array 3 e)) (he : P.underlying e = some (.int .i64)) (hi : (P.info? e).isSome = true) (hc : P.cellsOf e = 1) (x y : T3) (w : World) :
    (binOp .eql t (.agg (t3Cells x).toArray) (.agg (t3Cells y).toArray)).run P w = .ok (.bool (decide (x = y))) w := by
  obtain ⟨i, hi⟩ := Option.isSome_iff_exists.1 hi
  rw [run_eql_struct, run_equalIn_array w 9999 _ _ hu hi, hc]
  obtain ⟨a, b, c⟩ := x
  obtain ⟨a', b', c'⟩ := y
  have p : ∀ (z : T3) (k : Nat) (v : Int), (t3Cells z)[k]? = some (.int .i64 v) → (part e (t3Cells z).toArray k).run P w = .ok (.int .i64 v) w := fun z k v h => by
    simp [part, isAgg, run_underlying he, h]
  have q : ∀ u v : Int, (Op.equalIn 9999 e (.int .i64 u) (.int .i64 v)).run P w = .ok (u == v) w := fun u v => run_equalIn_int w 9998 e .i64 .i64 u v he
  show ((Op.eqItems 9999 e 1 _ _ [0, 1, 2]).run P w).andThen _ = _
  have p0 := p ⟨a, b, c⟩ 0 a rfl
  have p1 := p ⟨a, b, c⟩ 1 b rfl
  have p2 := p ⟨a, b, c⟩ 2 c rfl
  have q0 := p ⟨a', b', c'⟩ 0 a' rfl
  have q1 := p ⟨a', b', c'⟩ 1 b' rfl
  have q2 := p ⟨a', b', c'⟩ 2 c' rfl
  by_cases h0 : a = a'
  · by_cases h1 : b = b'
    · by_cases h2 : c = c'
      · subst h0; subst h1; subst h2
        simp [Op.eqItems, p0, p1, p2, q]
      · subst h0; subst h1
        simp [Op.eqItems, p0, p1, p2, q0, q1, q2, q, h2]
    · subst h0
      simp [Op.eqItems, p0, p1, q0, q1, q, h1]
  · simp [Op.eqItems, p0, q0, q, h0]
/-- one of three -/
theorem idx3 {P : Program} {t e : TypeId} (hu : P.underlying t = some (.array 3 e)) (he : P.underlying e = some (.int .i64)) (hs : ∀ w, (sizeOf e).run P w = .ok 1 w) (x : T3) (k : Nat) (v : Int) (hk : (t3Cells x)[k]? = some (.int .i64 v)) (i : Int) (hi : i = k) (w : World) :
    (Instr.index t (.agg (t3Cells x).toArray) (.int .i64 i)).run P w = .ok (.int .i64 v) w := by
  subst hi
  have h3 : k < 3 := by
    have := (List.getElem?_eq_some_iff.1 hk).1
    simpa [t3Cells] using this
  have h0 : (0 : Int) ≤ (k : Int) ∧ (k : Int) < ((3 : Nat) : Int) := by omega
  simp [Instr.index, run_underlying hu, asIntOf, h0, hs, part, isAgg, run_underlying he, hk, go_sem]
  omega
/-- the nearest one that is -/
def near (lo hi x : Int) : Int := if (if x < lo then lo else x) > hi then hi else (if x < lo then lo else x)
def nr (lo hi : Int) (t : T3) (k : Int) : T3 := ⟨if 0 < k then near lo hi t.a else t.a, if 1 < k then near lo hi t.b else t.b, if 2 < k then near lo hi t.c else t.c⟩
theorem nr_all {lo hi : Int} (h : lo ≤ hi) (t : T3) : (nr lo hi t 3 = t) ↔ Btw lo hi t := by
  obtain ⟨a, b, c⟩ := t
  unfold Btw nr near
  simp only [T3.mk.injEq, if_pos (show (0 : Int) < 3 by decide), if_pos (show (1 : Int) < 3 by decide), if_pos (show (2 : Int) < 3 by decide)]
  constructor
  · rintro ⟨h1, h2, h3⟩
    refine ⟨?_, ?_, ?_⟩ <;> (repeat' split at h1) <;> (repeat' split at h2) <;> (repeat' split at h3) <;> omega
  · rintro ⟨h1, h2, h3⟩
    refine ⟨?_, ?_, ?_⟩ <;> (repeat' split) <;> omega
def vI : Value → Nat
  | .int _ q => q.toNat
  | _ => 0
theorem nr_set {lo hi : Int} {t : T3} {k : Nat} {j : Int} (hj : j = k) (v : Int) (hv : (t3Cells t)[k]? = some (.int .i64 v)) : (t3Cells (nr lo hi t j)).set k (.int .i64 (near lo hi v)) = t3Cells (nr lo hi t (j + 1)) := by
  subst hj
  match k with
  | 0 => simp [t3Cells] at hv; subst hv; rfl
  | 1 => simp [t3Cells] at hv; subst hv; rfl
  | 2 => simp [t3Cells] at hv; subst hv; rfl
  | k + 3 => simp [t3Cells] at hv
theorem nr_0 (lo hi : Int) (t : T3) : nr lo hi t 0 = t := rfl
set_option maxRecDepth 100000 in
theorem areFrom_any (t : T3) (lo hi : Int) (h : lo ≤ hi) (w : World) : Calls Try.prog 18 #[.agg (t3Cells t).toArray, .int .i64 lo, .int .i64 hi] w fun e w' => e = .returned (.bool (decide (Btw lo hi t))) ∧ Below w.heap.size w w' := by
  obtain ⟨w1, hw1⟩ : ∃ w1, w1 = w.alloc (.cells (t3Cells t).toArray 38) := ⟨_, rfl⟩
  have B1 : Below w.heap.size w w1 := by rw [hw1]; exact step_alloc (Below.refl _ w) _
  have b1 : BlkR 38 w1 w.heap.size (t3Cells t) := by rw [hw1]; exact BlkR.new w _ _
  have s1 : w1.heap.size = w.heap.size + 1 := by rw [hw1]; simp
  have HS := Lib.hid (And.intro s1 b1)
  have BB := Lib.hid B1
  have HR := Lib.hid (nr_all h t)
  have HT := Lib.hid (show (t3Cells t).toArray = (t3Cells t).toArray from rfl)
  obtain ⟨xs, hxs⟩ : ∃ xs, xs = t3Cells t := ⟨_, rfl⟩
  have HX := Lib.hid hxs
  have he : ∀ W, (binOp .eql 38 (.agg (t3Cells (nr lo hi t 3)).toArray) (.agg xs.toArray)).run Try.prog W = .ok (.bool (decide (nr lo hi t 3 = t))) W := fun W => by
    rw [hxs]
    exact eql3 Try.underlying38 Try.underlying3 (by kernel_rfl) (by kernel_rfl) _ _ W
  obtain ⟨ys, hys⟩ : ∃ ys, ys = t3Cells (nr lo hi t 3) := ⟨_, rfl⟩
  rw [← hys] at he
  have HY := Lib.hid hys
  rw [← hxs] at hw1 ⊢
  clear hxs hys b1 s1 B1
  go_enter Try.func18, Try.ntmps18
  go_wp2_with (first
    | ((with_reducible refine atWorld (w.alloc (.cells xs.toArray 38)) ?_); rw [← hw1]; refine wpList_loadRow (w := w1) info_times rfl (.tmp 3) rfl w.heap.size 0 xs rfl (by rw [HX.out]; rfl) (rangeOf (by rw [HX.out]; exact HS.out.2)) ?_)
    | ((with_reducible refine atWorld w1 ?_); refine wpList_allocRow (w := w1) info_times rfl rfl ?_; (intro w2 b2 B2 s2; have b2 := Lib.hid b2; replace s2 := Lib.hid s2))
    | ((with_reducible refine atWorld w2 ?_); refine wpList_storeRow (w := w2) info_times rfl (.tmp 7) (.tmp 10) rfl w1.heap.size xs _ rfl rfl (by rw [HX.out]; rfl) rfl (by rw [HX.out]; exact t3_one _) b2.out ?_; (intro w3 b3 B3 s3 k3; have b3 := Lib.hid b3; have D3 := B2.trans B3; have C3 := Lib.hid (BB.out.trans (D3.mono BB.out.size)); have b4 := Lib.hid (HS.out.2.below (B2.trans B3) HS.out.2.lt); replace s3 := Lib.hid s3; clear k3))
    | ((with_reducible refine atWorld w3 ?_); refine wpList_loadRow (w := w3) info_times rfl (.tmp 3) rfl w.heap.size 0 xs rfl (by rw [HX.out]; rfl) (rangeOf (by rw [HX.out]; exact b4.out)) ?_))
  obtain ⟨g, hg⟩ : ∃ g, g = w.heap.size + 1 := ⟨_, rfl⟩
  have b3 := b3.out
  rw [HS.out.1, ← hg] at b3
  have b3 := Lib.hid b3
  rw [← hg]
  have HG := Lib.hid (show w.heap.size < g by rw [hg]; exact Nat.lt_succ_self _)
  have hs : ∀ w, (sizeOf 3).run Try.prog w = .ok 1 w := fun w => by kernel_rfl
  have i0 := idx3 Try.underlying38 Try.underlying3 hs t 0 t.a rfl 0 rfl
  have i1 := idx3 Try.underlying38 Try.underlying3 hs t 1 t.b rfl 1 rfl
  have i2 := idx3 Try.underlying38 Try.underlying3 hs t 2 t.c rfl 2 rfl
  rw [← HX.out] at i0 i1 i2
  clear hw1 hg B2 B3 D3 b2 hs
  go_loopw [12] (fun ix wr => ∃ x : Int, (x = 0 ∨ x = 1 ∨ x = 2 ∨ x = 3) ∧ ix = .int .i64 x ∧ Below g w3 wr ∧ BlkR 38 wr g (t3Cells (nr lo hi t x))) (fun ix _ => 3 - vI ix)
  case atStart => exact ⟨0, .inl rfl, rfl, Below.refl _ _, by rw [nr_0, ← HX.out]; exact b3.out⟩
  case round =>
    obtain ⟨x, hx, rfl, C, r⟩ := hrel
    have HC := Lib.hid C
    have HB := Lib.hid r
    rcases hx with rfl | rfl | rfl | rfl
    · have y := r.cell (k := 0) rfl
      have z := r.frozen 0
      have n2 := r.set_ 0 (.int .i64 (near lo hi t.a))
      rw [nr_set (j := 0) rfl t.a rfl] at n2
      have n2 := Lib.hid n2
      clear r C
      go_wp2
      exact ⟨⟨1, .inr (.inl rfl), rfl, HC.out.setCell (Nat.le_refl _) _, n2.out⟩, by decide⟩
    · have y := r.cell (k := 1) rfl
      have z := r.frozen 1
      have n2 := r.set_ 1 (.int .i64 (near lo hi t.b))
      rw [nr_set (j := 1) rfl t.b rfl] at n2
      have n2 := Lib.hid n2
      clear r C
      go_wp2
      exact ⟨⟨2, .inr (.inr (.inl rfl)), rfl, HC.out.setCell (Nat.le_refl _) _, n2.out⟩, by decide⟩
    · have y := r.cell (k := 2) rfl
      have z := r.frozen 2
      have n2 := r.set_ 2 (.int .i64 (near lo hi t.c))
      rw [nr_set (j := 2) rfl t.c rfl] at n2
      have n2 := Lib.hid n2
      clear r C
      go_wp2
      exact ⟨⟨3, .inr (.inr (.inr rfl)), rfl, HC.out.setCell (Nat.le_refl _) _, n2.out⟩, by decide⟩
    · rw [← HY.out] at r
      have hr := Lib.hid r
      have hb := Lib.hid (b4.out.below C HG.out)
      have hC := Lib.hid ((C3.out).trans (C.mono (Nat.le_of_lt HG.out)))
      clear r C
      go_wp2_with (first
        | ((with_reducible refine atWorld wr ?_); first
          | refine wpList_loadRow (w := wr) info_times rfl (.tmp 7) rfl g 0 ys rfl (by rw [HY.out]; rfl) (rangeOf hr.out) ?_
          | refine wpList_loadRow (w := wr) info_times rfl (.tmp 3) rfl w.heap.size 0 xs rfl (by rw [HX.out]; rfl) (rangeOf (by rw [HX.out]; exact hb.out)) ?_))
      go_ret
      exact ⟨show Ending.returned (.bool (decide (nr lo hi t 3 = t))) = _ by rw [decide_eq_decide.2 HR.out], hC.out⟩
end Go.Proofs.Ytfopjilncfndnaa
