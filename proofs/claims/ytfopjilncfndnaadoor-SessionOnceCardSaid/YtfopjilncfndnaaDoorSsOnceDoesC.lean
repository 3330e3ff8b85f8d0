/-
  SessionOnce: does, a datagram is lost. Conditions: none.
-/
import Derived.Test.YtfopjilncfndnaaDoorSsOnceDoesB
namespace Go.Proofs.YtfopjilncfndnaaDoor
open Go.RowKit Fix

section
variable {w0 w w' : World} {q a b mT mL : Nat}

/-- but for new blocks, nothing is touched -/
def NoB (_ : Nat) : Prop := False
def ltP (g k c : Nat) : Addr := if c = k then ⟨g, 0, none⟩ else ⟨g, k * 2, none⟩
theorem ltElem : Tryd.prog.underlying 78 = some (.slice (Tryd.prog.elem 78)) := by kernel_rfl
theorem ltSize : ∀ w, (sizeOf (Tryd.prog.elem 78)).run Tryd.prog w = .ok 2 w := fun w => by kernel_rfl
theorem lt_to (g n c k : Nat) (hk : k ≤ c) (W : World) : (Instr.slice 78 (.slice (some ⟨g, 0, none⟩) n c) none (some (.int .i64 (k : Int))) none).run Tryd.prog W = .ok (.slice (some ⟨g, 0, none⟩) k c) W := by
  rw [run_slice_h W _ _ n c ltElem .i64 (k : Int) (by omega) (by omega), ltSize]
  simp only [Result.andThen, sliced, Int.toNat_natCast, Nat.zero_mul, Nat.sub_zero, Option.map_some, addr_zero_add, ite_self]
theorem lt_from (g n c k : Nat) (hk : k ≤ n) (W : World) : (Instr.slice 78 (.slice (some ⟨g, 0, none⟩) n c) (some (.int .i64 (k : Int))) none none).run Tryd.prog W = .ok (.slice (some (ltP g k c)) (n - k) (c - k)) W := by
  rw [run_slice_l W _ _ n c ltElem .i64 (k : Int) (by omega) (by omega), ltSize]
  simp only [Result.andThen, sliced, Int.toNat_natCast, Option.map_some, addr_zero_add]
  unfold ltP
  split <;> rfl
/-- one datagram is taken off its way -/
theorem way_cut {V : Nat → Value} {T : Nat → List (List UInt8)} {D : Nat → Nat → Bool} {X : Nat → List Tx} {L L2 : List Lt} {E : Nat → Ss.S → Prop} {wa w9 w8 : World} {v9 v8 : Value} {g1 n8 : Nat} {xs8 : List Value} (h : PrE w0 w q a b V T D X L E) (hL2 : ∀ m ∈ L2, m ∈ L) (B5 : Below w.heap.size w wa) (hg1 : wa.grownBy w9 (some g1)) (hg : w.heap.size ≤ g1) (k9 : v9.ownBlock = some g1 ∨ v9.ownBlock = some wa.heap.size)
    (o8 : OwnK 86 2 w8 w.heap.size v8 n8 xs8) (en : n8 = L2.length) (ex : xs8 = L2.flatMap ltC) (hg2 : w9.grownBy w8 v9.ownBlock) :
    w8.frozen? ⟨q, 2, none⟩ = false ∧ w8.cell? ⟨q, 2, none⟩ = some (V 2) ∧ PrE w0 (w8.setCell ⟨q, 2, none⟩ v8) q a b (On.upf V 2 v8) T D X L2 E := by
  have F1 : Frame NoB w w9 := (Frame.of_below B5).trans (Frame.of_grown hg1) fun k e => .inr (by injection e with e; omega)
  have F2 : Frame NoB w w8 := F1.trans (Frame.of_grown hg2) fun k e => .inr (by
    have := B5.size
    rcases k9 with y | y <;> rw [y] at e <;> injection e with e <;> omega)
  have fr : Frame (fun g => (V 2).ownBlock = some g) w w8 := F2.mono fun _ e => e.elim
  have hbq : BlkR 83 w8 q (prC a b V) := (F2.block q (h.pm.wp (g := q) (.inl rfl)).1 (fun e => e.elim)).trans h.pm.blk
  have hat : ∀ g, v8.ownBlock = some g → (V 2).ownBlock = some g ∨ (w.heap.size ≤ g ∧ g < w8.heap.size) := fun g e => .inr (o8.lt g e)
  have P := h.pm.put 2 (by decide) v8 n8 xs8 (o8.less h.pm.fr.size) fr hat
  refine ⟨hbq.frozen 2, hbq.cell (pr_cell a b V (by decide) (by decide)), P.congr fun k k2 k6 => ?_, fun x hx => ?_, fun i hi => ⟨(h.txs i hi).1, fun t ht => ?_⟩, h.shp⟩
  · by_cases e : k = 2
    · subst e
      rw [On.upf_at, On.upf_at]
      exact ⟨en, ex⟩
    · rw [On.upf_ne _ _ e, On.upf_ne _ _ e]
      unfold prN prX
      rw [if_neg e, if_neg e, if_neg e, if_neg e]
      exact ⟨rfl, rfl⟩
  · obtain ⟨g1, g2, g3, g4, g5⟩ := h.lts x (hL2 x hx)
    exact ⟨g1, g2, g3, g4, g5.put 2 (by decide) v8 fr hat⟩
  · obtain ⟨g1, g2⟩ := (h.txs i hi).2 t ht
    exact ⟨g1, g2.put 2 (by decide) v8 fr hat⟩
set_option maxRecDepth 100000 in
set_option maxHeartbeats 4000000 in
theorem does_4 (H : PrX w0 w q a b mT mL) (m : MvM) (hw : -9223372036854775808 ≤ m.who ∧ m.who ≤ 9223372036854775807) (hn : -9223372036854775808 ≤ m.n ∧ m.n ≤ 9223372036854775807) (hmL : mL ≤ 3900) (hk : m.kind ≠ 0 ∧ m.kind ≠ 1 ∧ m.kind ≠ 2) (hN : ∀ V T D X L, Pr w0 w q a b V T D X L → 0 < L.length) (hk2 : m.kind = 4) :
    Calls Tryd.prog 14 #[.pointer (some ⟨q, 0, none⟩), .agg #[.int .i64 m.who, .int .i64 m.kind, .int .i64 m.n, .slice m.A m.b.length m.cb]] w (DoTo w0 q a b (mT + 1) (mL + 17)) := by
  obtain ⟨V, T, D, X, L, h, hT, hL⟩ := H
  obtain ⟨i, hi0⟩ : ∃ i : Nat, (i : Int) = m.who % 2 := ⟨(m.who % 2).toNat, by omega⟩
  have hi : i < 2 := by omega
  have zp := fun wy => pick_any m.who 2 wy hw.1 hw.2 (by decide) (by decide)
  rw [← hi0] at zp
  obtain ⟨w1, hw1⟩ : ∃ w1, w1 = w.alloc (.cells #[.int .i64 m.who, .int .i64 m.kind, .int .i64 m.n, .slice m.A m.b.length m.cb] 51) := ⟨_, rfl⟩
  have b1 : BlkR 51 w1 w.heap.size (mvCells m) := by rw [hw1]; exact BlkR.new w (mvCells m) _
  have B1 : Below w.heap.size w w1 := by rw [hw1]; exact step_alloc (Below.refl _ w) _
  have h1 := h.step B1
  have y0 := b1.cell (k := 0) rfl
  have y1 := b1.cell (k := 1) rfl
  have y2 := b1.cell (k := 2) rfl
  have y3 := b1.cell (k := 3) rfl
  have zp1 := zp w1
  obtain ⟨Aw, cw, hVw, hcw, _, _, _⟩ := h.way.form
  obtain ⟨N2, hN2⟩ : ∃ N2, N2 = L.length := ⟨_, rfl⟩
  rw [← hN2] at hVw hcw
  have hpos : 0 < L.length := hN V T D X L h
  have u2 : ∀ N, (w1.drewN N).cell? ⟨q, 2, none⟩ = some (.slice Aw N2 cw) := fun N => by rw [← hVw]; exact (h1.step (belowN (Below.refl _ w1) N)).pm.row (by decide) (by decide)
  have u20 : w1.cell? ⟨q, 2, none⟩ = some (.slice Aw N2 cw) := u2 0
  have k0 : (m.kind == 0) = false := by simp [hk.1]
  have k1 : (m.kind == 1) = false := by simp [hk.2.1]
  have k2 : (m.kind == 2) = false := by simp [hk.2.2]
  have n0 : ((N2 : Int) == 0) = false := by simp; omega
  obtain ⟨p, hp⟩ : ∃ p : Nat, (p : Int) = m.n % (N2 : Int) := ⟨(m.n % (N2 : Int)).toNat, by have := Int.emod_nonneg m.n (b := (N2 : Int)) (by omega); omega⟩
  have hpN : p < N2 := by have := Int.emod_lt_of_pos m.n (b := (N2 : Int)) (by omega); omega
  have zn := fun wy => pick_any m.n N2 wy hn.1 hn.2 (by omega) (by omega)
  rw [← hp] at zn
  have y1N : ∀ N, (w1.drewN N).cell? ⟨w.heap.size, 1, none⟩ = some (.int .i64 m.kind) := fun N => y1
  have k3 : (m.kind == 3) = false := by simp [hk2]
  have k4 : (m.kind == 4) = true := by simp [hk2]
  obtain ⟨gw, hgw⟩ : ∃ gw, Aw = some ⟨gw, 0, none⟩ := by
    have o := h1.way
    rw [hVw, hN2] at o
    obtain ⟨g, hg, _, _⟩ := o.at_g hpos
    exact ⟨g, hg⟩
  subst hgw
  obtain ⟨p1, hp1⟩ : ∃ p1, p1 = p + 1 := ⟨_, rfl⟩
  have q1 := lt_to gw N2 cw p (by omega)
  have q2 := lt_from gw N2 cw p1 (by omega)
  obtain ⟨PA, hPA⟩ : ∃ PA, PA = ltP gw p1 cw := ⟨_, rfl⟩
  obtain ⟨N3, hN3⟩ : ∃ N3, N3 = N2 - p1 := ⟨_, rfl⟩
  obtain ⟨C3, hC3⟩ : ∃ C3, C3 = cw - p1 := ⟨_, rfl⟩
  rw [← hPA, ← hN3, ← hC3] at q2
  have hwp : IntKind.i64.wrap ((p : Int) + 1) = (p1 : Int) := by rw [IntWalk.i64_in _ (by omega)]; omega
  obtain ⟨L1, hL1⟩ : ∃ L1, L1 = L.take p := ⟨_, rfl⟩
  obtain ⟨L3, hL3⟩ : ∃ L3, L3 = L.drop p1 := ⟨_, rfl⟩
  have eL1 : L1.length = p := by rw [hL1, List.length_take]; omega
  have eL3 : L3.length = N3 := by rw [hL3, List.length_drop]; omega
  have hLm : ∀ m ∈ L1 ++ L3, m ∈ L := fun m hm => by
    rcases List.mem_append.1 hm with hm | hm
    · rw [hL1] at hm; exact List.mem_of_mem_take hm
    · rw [hL3] at hm; exact List.mem_of_mem_drop hm
  obtain ⟨ys1, hys1⟩ : ∃ ys, ys = L1.flatMap ltC := ⟨_, rfl⟩
  obtain ⟨ys2, hys2⟩ : ∃ ys, ys = L3.flatMap ltC := ⟨_, rfl⟩
  have Y1 : Hid (ys1.length = p * 2 ∧ ∀ u ∈ ys1, u.oneCell' = true) := Lib.hid ⟨by rw [hys1, flk_len lt_len, eL1], by rw [hys1]; exact flk_one lt_one _⟩
  have Y2 : Hid (ys2.length = N3 * 2 ∧ ∀ u ∈ ys2, u.oneCell' = true) := Lib.hid ⟨by rw [hys2, flk_len lt_len, eL3], by rw [hys2]; exact flk_one lt_one _⟩
  have AT : Hid (∀ (N : Nat) (wx : World), Frame NoB (w1.drewN N) wx → wx.cell? ⟨q, 2, none⟩ = some (.slice (some ⟨gw, 0, none⟩) N2 cw) ∧ (∀ j u, ys1[j]? = some u → wx.cell? ((⟨gw, 0, none⟩ : Addr).add j) = some u) ∧ ∀ j u, ys2[j]? = some u → wx.cell? (PA.add j) = some u) := Lib.hid fun N wx F => by
    have hx := h1.step (belowN (Below.refl _ w1) N)
    have B := F.below0 fun _ e => e.elim
    have hy := hx.step B
    have o := hy.way
    rw [hVw, hN2] at o
    refine ⟨by rw [← hVw]; exact hy.pm.row (by decide) (by decide), fun j u hu => ?_, fun j u hu => ?_⟩
    · rw [addr_zero_add]
      refine o.cell rfl ?_
      have e : ys1 = (L.flatMap ltC).take (p * 2) := by rw [hys1, hL1, flk_take lt_len]
      rw [e, List.getElem?_take] at hu
      split at hu
      · exact hu
      · cases hu
    · have hj := (List.getElem?_eq_some_iff.1 hu).1
      have e : ys2 = (L.flatMap ltC).drop (p1 * 2) := by rw [hys2, hL3, flk_drop lt_len]
      have hpa : PA = ⟨gw, p1 * 2, none⟩ := by
        rw [hPA]; unfold ltP
        rw [if_neg fun e => by rw [Y2.out.1] at hj; omega]
      rw [hpa, show (⟨gw, p1 * 2, none⟩ : Addr).add j = ⟨gw, p1 * 2 + j, none⟩ by simp [Addr.add]]
      refine o.cell rfl ?_
      rw [e, List.getElem?_drop] at hu
      exact hu
  have POST : Hid (∀ (N : Nat) (wa w9 w8 : World) (v9 v8 : Value) (g1 n8 : Nat) (xs8 : List Value), Below (w1.drewN N).heap.size (w1.drewN N) wa → wa.grownBy w9 (some g1) → (w1.drewN N).heap.size ≤ g1 → (v9.ownBlock = some g1 ∨ v9.ownBlock = some wa.heap.size) → OwnK 86 2 w8 (w1.drewN N).heap.size v8 n8 xs8 → n8 = p + N3 → xs8 = ys1 ++ ys2 → w9.grownBy w8 v9.ownBlock →
      w8.frozen? ⟨q, 2, none⟩ = false ∧ w8.cell? ⟨q, 2, none⟩ = some (.slice (some ⟨gw, 0, none⟩) N2 cw) ∧ PrX w0 (w8.setCell ⟨q, 2, none⟩ v8) q a b (mT + 1) (mL + 17)) := Lib.hid fun N wa w9 w8 v9 v8 g1 n8 xs8 B5 hg1 hg k9 o8 en ex hg2 => by
    obtain ⟨f, x, P⟩ := way_cut (L2 := L1 ++ L3) (h1.step (belowN (Below.refl _ w1) N)).e hLm B5 hg1 hg k9 o8 (by rw [en, List.length_append, eL1, eL3]) (by rw [ex, List.flatMap_append, hys1, hys2]) hg2
    exact ⟨f, by rw [← hVw]; exact x, _, T, D, X, _, P.pr, fun j hj => Nat.le_succ_of_le (hT j hj), by rw [List.length_append, eL1, eL3]; omega⟩
  have HN := Lib.hid (show p + N3 ≤ 3900 by omega)
  obtain ⟨M, hM⟩ : ∃ M, M = m.b.length := ⟨_, rfl⟩
  rw [← hM] at hw1 y3 ⊢
  have hpc : (p : Int) ≤ (cw : Int) := by omega
  have hpn : (p1 : Int) ≤ (N2 : Int) := by omega
  clear h h1 hi0 hi zp b1 B1 hT hL hM hmL hk hk2 hw hVw hN hN2 hpos hp hn hcw hpN eL1 eL3 hLm hys1 hys2 hL1 hL3 hN3 hC3 hPA hp1
  go_enter Tryd.func14, Tryd.ntmps14
  go_wp2_with fail
  rw [← hw1]
  clear hw1
  go_upto_region 13 with (go_at_call 19; (with_reducible refine zp1.mono ?_); (rintro e w2 ⟨rfl, rfl⟩))
  go_quiet ((go_at_call 19; with_reducible first | exact quietN (zn _) | exact quietA (zn _)))
  go_upto_region 17 with fail
  obtain ⟨wf, hwf⟩ : ∃ wf, wf = w1.drewN nq := ⟨_, rfl⟩
  have POST := Lib.hid (POST.out nq)
  have AT := Lib.hid (AT.out nq)
  rw [← hwf] at POST AT ⊢
  clear hwf u2 u20 y0 y1 y2 y3 y1N
  have a0 := (AT.out wf (Frame.refl _ _)).1
  have a1 := fun o => (AT.out (wf.alloc o) (Frame.of_below (step_alloc (Below.refl _ wf) o))).1
  obtain ⟨wa, hwa⟩ : ∃ wa, wa = (wf.alloc (.cells #[] 86)).drew := ⟨_, rfl⟩
  have BA : Below wf.heap.size wf wa := by rw [hwa]; exact (step_alloc (Below.refl _ wf) _).drew
  have R0 : OwnK 86 2 wa wf.heap.size (.slice (some ⟨wf.heap.size, 0, none⟩) 0 0) 0 [] := OwnK.of_blk (cur := []) (by rw [hwa]; exact BlkR.new wf [] _) (Nat.le_refl _) (Nat.le_refl _) (by unfold maxLen; omega) rfl rfl
  have G1 := (AT.out wa (Frame.of_below BA)).2.1
  have SZ := BA.size
  go_region_law (first
    | (refine step_appendK rfl (.tmp 91) (.tmp 97) elLt rfl (by simp [Act.eval, Act.put]) (w := (wf.alloc (.cells #[] 86)).drew) (base := wf.heap.size) (n := 0) (v := .slice (some ⟨wf.heap.size, 0, none⟩) 0 0) (xs := []) (by rw [← hwa]; exact R0) ⟨gw, 0, none⟩ cw (by simp [Act.eval, Act.put]) (ys := ys1) (m := p) Y1.out.1 (by rw [← hwa]; exact G1) Y1.out.2 (by have := HN.out; unfold maxLen; omega) (by have := HN.out; omega) (by rw [← hwa]; exact SZ) ?_; (intro v9 w9 o9 gr9 k9; rw [← hwa] at gr9 k9; rw [Nat.zero_add, List.nil_append] at o9; have FR9 : Frame NoB wf w9 := (Frame.of_below BA).trans (Frame.of_grown gr9) (fun k e => .inr (by cases (show some wf.heap.size = some k from e); exact Nat.le_refl _)); obtain ⟨x9, _, G2⟩ := AT.out w9 FR9; have SZ9 := FR9.size; have W9 := Lib.hid (fun w8 v8 n8 xs8 => POST.out wa w9 w8 v9 v8 wf.heap.size n8 xs8 BA gr9 (Nat.le_refl _) k9); obtain ⟨A9, c9, e9, _⟩ := o9.form; subst e9; clear FR9 gr9 k9))
    | (refine step_appendK rfl (.tmp 98) (.tmp 105) elLt rfl (by simp [Act.eval, Act.put]) o9 PA C3 (by simp [Act.eval, Act.put]) (ys := ys2) (m := N3) Y2.out.1 G2 Y2.out.2 (by have := HN.out; unfold maxLen; omega) (by have := HN.out; omega) SZ9 ?_; (intro v8 w8 o8 gr8 k8; obtain ⟨f8, x8, T8⟩ := W9.out w8 v8 _ _ o8 rfl rfl gr8; obtain ⟨A8, c8, e8, _⟩ := o8.form; subst e8; have T8 := Lib.hid T8; clear o8 gr8 k8)))
  all_goals go_wp2
  all_goals go_ret
  all_goals exact ⟨rfl, T8.out⟩
end
end Go.Proofs.YtfopjilncfndnaaDoor
