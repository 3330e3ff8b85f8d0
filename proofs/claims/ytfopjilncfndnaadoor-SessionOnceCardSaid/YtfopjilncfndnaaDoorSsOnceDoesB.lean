/-
  SessionOnce: does, of what is on its way. Conditions: none.
-/
import Derived.Test.YtfopjilncfndnaaDoorSsOnceDoes
namespace Go.Proofs.YtfopjilncfndnaaDoor
open Go.RowKit Fix

section
variable {w0 w w' : World} {q a b mT mL : Nat}
set_option maxRecDepth 100000 in
set_option maxHeartbeats 4000000 in
theorem does_other (H : PrX w0 w q a b mT mL) (m : MvM) (hw : -9223372036854775808 ≤ m.who ∧ m.who ≤ 9223372036854775807) (hn : -9223372036854775808 ≤ m.n ∧ m.n ≤ 9223372036854775807) (hmL : mL ≤ 3900) (hk : m.kind ≠ 0 ∧ m.kind ≠ 1 ∧ m.kind ≠ 2) (hN : ∀ V T D X L, Pr w0 w q a b V T D X L → 0 < L.length) (hk2 : m.kind ≠ 3 ∧ m.kind ≠ 4) :
    Calls Tryd.prog 14 #[.pointer (some ⟨q, 0, none⟩), .agg #[.int .i64 m.who, .int .i64 m.kind, .int .i64 m.n, .slice m.A m.b.length m.cb]] w (DoTo w0 q a b (mT + 1) (mL + 17)) := by
  obtain ⟨V, T, D, X, L, h, hT, hL⟩ := H
  obtain ⟨i, hi0⟩ : ∃ i : Nat, (i : Int) = m.who % 2 := ⟨(m.who % 2).toNat, by omega⟩
  have hi : i < 2 := by omega
  have zp := fun wy => pick_any m.who 2 wy hw.1 hw.2 (by decide) (by decide)
  rw [← hi0] at zp
  obtain ⟨w1, hw1⟩ : ∃ w1, w1 = w.alloc (.cells #[.int .i64 m.who, .int .i64 m.kind, .int .i64 m.n, .slice m.A m.b.length m.cb] 51) := ⟨_, rfl⟩
  have b1 : BlkR 51 w1 w.heap.size (mvCells m) := by rw [hw1]; exact BlkR.new w (mvCells m) _
  have B1 : Below w.heap.size w w1 := by rw [hw1]; exact step_alloc (Below.refl _ w) _
  have h1 := h.step B1
  have y0 := b1.cell (k := 0) rfl
  have y1 := b1.cell (k := 1) rfl
  have y2 := b1.cell (k := 2) rfl
  have y3 := b1.cell (k := 3) rfl
  have zp1 := zp w1
  obtain ⟨Aw, cw, hVw, hcw, _, _, _⟩ := h.way.form
  obtain ⟨N2, hN2⟩ : ∃ N2, N2 = L.length := ⟨_, rfl⟩
  rw [← hN2] at hVw hcw
  have hpos : 0 < L.length := hN V T D X L h
  have u2 : ∀ N, (w1.drewN N).cell? ⟨q, 2, none⟩ = some (.slice Aw N2 cw) := fun N => by rw [← hVw]; exact (h1.step (belowN (Below.refl _ w1) N)).pm.row (by decide) (by decide)
  have u20 : w1.cell? ⟨q, 2, none⟩ = some (.slice Aw N2 cw) := u2 0
  have k0 : (m.kind == 0) = false := by simp [hk.1]
  have k1 : (m.kind == 1) = false := by simp [hk.2.1]
  have k2 : (m.kind == 2) = false := by simp [hk.2.2]
  have n0 : ((N2 : Int) == 0) = false := by simp; omega
  obtain ⟨p, hp⟩ : ∃ p : Nat, (p : Int) = m.n % (N2 : Int) := ⟨(m.n % (N2 : Int)).toNat, by have := Int.emod_nonneg m.n (b := (N2 : Int)) (by omega); omega⟩
  have hpN : p < N2 := by have := Int.emod_lt_of_pos m.n (b := (N2 : Int)) (by omega); omega
  have zn := fun wy => pick_any m.n N2 wy hn.1 hn.2 (by omega) (by omega)
  rw [← hp] at zn
  have y1N : ∀ N, (w1.drewN N).cell? ⟨w.heap.size, 1, none⟩ = some (.int .i64 m.kind) := fun N => y1
  have k3 : (m.kind == 3) = false := by simp [hk2.1]
  have k4 : (m.kind == 4) = false := by simp [hk2.2]
  have FIN : Hid (∀ N, PrX w0 (w1.drewN N) q a b (mT + 1) (mL + 17)) := Lib.hid fun N => ⟨V, T, D, X, L, h1.step (belowN (Below.refl _ w1) N), fun j hj => Nat.le_succ_of_le (hT j hj), by omega⟩
  obtain ⟨M, hM⟩ : ∃ M, M = m.b.length := ⟨_, rfl⟩
  rw [← hM] at hw1 y3 ⊢
  have HH := Lib.hid (And.intro hpN (And.intro hN2 (And.intro hL hmL)))
  clear h h1 hi0 hi zp b1 B1 hT hL hM hmL hk hk2 hw hVw hN hN2 hpos hpN hp hn hcw
  go_enter Tryd.func14, Tryd.ntmps14
  go_wp2_with fail
  rw [← hw1]
  clear hw1
  go_upto_region 13 with (go_at_call 19; (with_reducible refine zp1.mono ?_); (rintro e w2 ⟨rfl, rfl⟩))
  go_quiet ((go_at_call 19; with_reducible first | exact quietN (zn _) | exact quietA (zn _)))
  go_wp2
  go_ret
  exact ⟨rfl, FIN.out _⟩
set_option maxRecDepth 100000 in
set_option maxHeartbeats 4000000 in
theorem does_3 (H : PrX w0 w q a b mT mL) (m : MvM) (hw : -9223372036854775808 ≤ m.who ∧ m.who ≤ 9223372036854775807) (hn : -9223372036854775808 ≤ m.n ∧ m.n ≤ 9223372036854775807) (hmL : mL ≤ 3900) (hk : m.kind ≠ 0 ∧ m.kind ≠ 1 ∧ m.kind ≠ 2) (hN : ∀ V T D X L, Pr w0 w q a b V T D X L → 0 < L.length) (hmT : mT < 100) (hk2 : m.kind = 3) :
    Calls Tryd.prog 14 #[.pointer (some ⟨q, 0, none⟩), .agg #[.int .i64 m.who, .int .i64 m.kind, .int .i64 m.n, .slice m.A m.b.length m.cb]] w (DoTo w0 q a b (mT + 1) (mL + 17)) := by
  obtain ⟨V, T, D, X, L, h, hT, hL⟩ := H
  obtain ⟨i, hi0⟩ : ∃ i : Nat, (i : Int) = m.who % 2 := ⟨(m.who % 2).toNat, by omega⟩
  have hi : i < 2 := by omega
  have zp := fun wy => pick_any m.who 2 wy hw.1 hw.2 (by decide) (by decide)
  rw [← hi0] at zp
  obtain ⟨w1, hw1⟩ : ∃ w1, w1 = w.alloc (.cells #[.int .i64 m.who, .int .i64 m.kind, .int .i64 m.n, .slice m.A m.b.length m.cb] 51) := ⟨_, rfl⟩
  have b1 : BlkR 51 w1 w.heap.size (mvCells m) := by rw [hw1]; exact BlkR.new w (mvCells m) _
  have B1 : Below w.heap.size w w1 := by rw [hw1]; exact step_alloc (Below.refl _ w) _
  have h1 := h.step B1
  have y0 := b1.cell (k := 0) rfl
  have y1 := b1.cell (k := 1) rfl
  have y2 := b1.cell (k := 2) rfl
  have y3 := b1.cell (k := 3) rfl
  have zp1 := zp w1
  obtain ⟨Aw, cw, hVw, hcw, _, _, _⟩ := h.way.form
  obtain ⟨N2, hN2⟩ : ∃ N2, N2 = L.length := ⟨_, rfl⟩
  rw [← hN2] at hVw hcw
  have hpos : 0 < L.length := hN V T D X L h
  have u2 : ∀ N, (w1.drewN N).cell? ⟨q, 2, none⟩ = some (.slice Aw N2 cw) := fun N => by rw [← hVw]; exact (h1.step (belowN (Below.refl _ w1) N)).pm.row (by decide) (by decide)
  have u20 : w1.cell? ⟨q, 2, none⟩ = some (.slice Aw N2 cw) := u2 0
  have k0 : (m.kind == 0) = false := by simp [hk.1]
  have k1 : (m.kind == 1) = false := by simp [hk.2.1]
  have k2 : (m.kind == 2) = false := by simp [hk.2.2]
  have n0 : ((N2 : Int) == 0) = false := by simp; omega
  obtain ⟨p, hp⟩ : ∃ p : Nat, (p : Int) = m.n % (N2 : Int) := ⟨(m.n % (N2 : Int)).toNat, by have := Int.emod_nonneg m.n (b := (N2 : Int)) (by omega); omega⟩
  have hpN : p < N2 := by have := Int.emod_lt_of_pos m.n (b := (N2 : Int)) (by omega); omega
  have zn := fun wy => pick_any m.n N2 wy hn.1 hn.2 (by omega) (by omega)
  rw [← hp] at zn
  have y1N : ∀ N, (w1.drewN N).cell? ⟨w.heap.size, 1, none⟩ = some (.int .i64 m.kind) := fun N => y1
  have k3 : (m.kind == 3) = true := by simp [hk2]
  obtain ⟨lt, hlt⟩ : ∃ lt, L[p]? = some lt := ⟨_, List.getElem?_eq_getElem (show p < L.length by omega)⟩
  have hmem := List.mem_of_getElem? hlt
  obtain ⟨gw, hgw⟩ : ∃ gw, Aw = some ⟨gw, 0, none⟩ := by
    have o := h1.way
    rw [hVw, hN2] at o
    obtain ⟨g, hg, _, _⟩ := o.at_g hpos
    exact ⟨g, hg⟩
  subst hgw
  have CL : ∀ N j v, (ltC lt)[j]? = some v → (w1.drewN N).cell? ⟨gw, p * 2 + j, none⟩ = some v := fun N j v hv => by
    have o := (h1.step (belowN (Below.refl _ w1) N)).way
    rw [hVw, hN2] at o
    exact o.cell rfl (flk_at lt_len L p lt hlt j v hv)
  have c0 : ∀ N, (w1.drewN N).cell? ⟨gw, p * 2, none⟩ = some (.int .i64 (lt.dst : Int)) := fun N => CL N 0 _ rfl
  have c1 : ∀ N, (w1.drewN N).cell? ⟨gw, p * 2 + 1, none⟩ = some (.slice lt.A (lt.d.pay.length + 41) lt.c) := fun N => CL N 1 _ rfl
  have ZA : ∀ N, Calls Tryd.prog 34 #[.pointer (some ⟨q, 0, none⟩), .agg #[.int .i64 (lt.dst : Int), .slice lt.A (lt.d.pay.length + 41) lt.c]] (w1.drewN N) (ArTo w0 q a b V T D X L (fun _ _ => True)) := fun N => by
    have hx := h1.step (belowN (Below.refl _ w1) N)
    exact pr_arrives hx.e lt (hx.lts lt hmem) (fun j hj => by have := hT j hj; omega) (fun _ _ _ => trivial) (fun _ _ => trivial)
  have FIN : Hid (∀ e w', ArTo w0 q a b V T D X L (fun _ _ => True) e w' → DoTo w0 q a b (mT + 1) (mL + 17) e w') := Lib.hid fun e w' ⟨g1, D', g2, _⟩ => ⟨g1, V, T, D', X, L, g2.pr, fun j hj => Nat.le_succ_of_le (hT j hj), by omega⟩
  obtain ⟨M, hM⟩ : ∃ M, M = m.b.length := ⟨_, rfl⟩
  rw [← hM] at hw1 y3 ⊢
  obtain ⟨n1, hn1⟩ : ∃ n1, n1 = lt.d.pay.length + 41 := ⟨_, rfl⟩
  rw [← hn1] at c1 ZA
  obtain ⟨ds, hds⟩ : ∃ ds : Int, ds = (lt.dst : Int) := ⟨_, rfl⟩
  rw [← hds] at c0 ZA
  clear h h1 hi0 hi zp b1 B1 hT hL hM hmL hk hk2 hw hVw hN hN2 hpos hp hn hmT hcw CL hlt hmem hn1 hds
  go_enter Tryd.func14, Tryd.ntmps14
  go_wp2_with fail
  rw [← hw1]
  clear hw1
  go_upto_region 13 with (go_at_call 19; (with_reducible refine zp1.mono ?_); (rintro e w2 ⟨rfl, rfl⟩))
  go_quiet ((go_at_call 19; with_reducible first | exact quietN (zn _) | exact quietA (zn _)))
  go_wp2_with (go_at_call 34; (with_reducible refine (ZA _).mono ?_); (rintro e w3 k1; obtain ⟨e1, F1⟩ := FIN.out e w3 k1; subst e1; have F1 := Lib.hid F1; clear k1))
  go_ret
  exact ⟨rfl, F1.out⟩
end
end Go.Proofs.YtfopjilncfndnaaDoor
