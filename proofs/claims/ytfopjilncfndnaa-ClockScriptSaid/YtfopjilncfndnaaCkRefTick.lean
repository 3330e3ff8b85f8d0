/-
  The document's clocks (tandemref15): Tick. Conditions: none.
-/
import Derived.Test.YtfopjilncfndnaaCkRef
import Derived.Test.YtfopjilncfndnaaCkSums
import Derived.Shelf.RegionOpen
namespace Go.Proofs.Ytfopjilncfndnaa
open Go.RowKit Ck

/-- what a tick of the document's clocks leaves -/
def RfTo (w : World) (c : Nat) (E : Int) (s2 : S) (e : Ending) (w' : World) : Prop := e = .returned (.int .i64 E) ∧ (∃ good, RkAt w' c s2 good) ∧ Frame (OneB c) w w'
theorem pk_get {t u : T3} {k : Nat} (h : k < 3) : (pt t u (k : Int)).get k = t.get k := by
  rcases (show k = 0 ∨ k = 1 ∨ k = 2 by omega) with rfl | rfl | rfl <;> rfl
theorem pk_set {t u : T3} {n good k : Nat} {v : Int} (h : k < 3) (hv : v = t.get k + u.get k) : (rkC (pt t u (k : Int)) n good).set k (.int .i64 v) = rkC (pt t u ((k + 1 : Nat) : Int)) n good := by
  subst hv
  rcases (show k = 0 ∨ k = 1 ∨ k = 2 by omega) with rfl | rfl | rfl <;> rfl
theorem rk_set {w : World} {c : Nat} {xs : List Value} (r : BlkR 35 w c xs) (k : Nat) (v : Value) : BlkR 35 (w.setCell ⟨c, k, none⟩ v) c (xs.set k v) ∧ Frame (OneB c) w (w.setCell ⟨c, k, none⟩ v) :=
  ⟨r.set_ k v, ⟨rfl, rfl, rfl, by simp, fun j _ hj => Below.heap_setCell w ⟨c, k, none⟩ v j hj⟩⟩
theorem rk_end {w : World} {c : Nat} {p : T3} {n good : Nat} {x y : Int} {n2 g2 : Nat} (hx : x = (n2 : Int)) (hy : y = (g2 : Int)) (r : BlkR 35 w c (rkC p n good)) : BlkR 35 ((w.setCell ⟨c, 3, none⟩ (.int .i64 x)).setCell ⟨c, 4, none⟩ (.int .i64 y)) c (rkC p n2 g2) ∧ Frame (OneB c) w ((w.setCell ⟨c, 3, none⟩ (.int .i64 x)).setCell ⟨c, 4, none⟩ (.int .i64 y)) := by
  subst hx; subst hy
  have h := (r.set_ 3 (.int .i64 (n2 : Int))).set_ 4 (.int .i64 (g2 : Int))
  refine ⟨h, ⟨rfl, rfl, rfl, by simp, fun j _ hj => ?_⟩⟩
  rw [Below.heap_setCell _ ⟨c, 4, none⟩ _ j hj, Below.heap_setCell w ⟨c, 3, none⟩ _ j hj]
section
variable {w w' : World} {c good : Nat} {s : S}
theorem RkAt.same (h : RkAt w c s good) {t : T3} (he : s.tickE t ≠ 0) (B : Below w.heap.size w w') {E : Int} (hE : s.tickE t = E) : RfTo w c (s.tickE t) (s.tick t) (.returned (.int .i64 E)) w' := by
  subst hE
  rw [kb_no he]
  exact ⟨rfl, ⟨good, h.step B⟩, Frame.of_below B⟩
set_option maxRecDepth 100000 in
theorem rfTick_neg (h : RkAt w c s good) (t : T3) (he : Ck.Neg t) : Calls Try.prog 12 #[.pointer (some ⟨c, 0, none⟩), .agg (t3Cells t).toArray] w (RfTo w c (s.tickE t) (s.tick t)) := by
  obtain ⟨w1, hw1⟩ : ∃ w1, w1 = w.alloc (.cells (t3Cells t).toArray 22) := ⟨_, rfl⟩
  have B1 : Below w.heap.size w w1 := by rw [hw1]; exact step_alloc (Below.refl _ w) _
  have b1 : BlkR 22 w1 w.heap.size (t3Cells t) := by rw [hw1]; exact BlkR.new w _ _
  have HS := Lib.hid b1
  have BB := Lib.hid B1
  have HE := Lib.hid (neg_get.1 he)
  have h5 := tickE_neg (s := s) he
  have HR := Lib.hid (show RfTo w c (s.tickE t) (s.tick t) (.returned (.int .i64 5)) w1 from h.same (by rw [h5]; decide) B1 h5)
  obtain ⟨xs, hxs⟩ : ∃ xs, xs = t3Cells t := ⟨_, rfl⟩
  rw [← hxs] at hw1 ⊢
  clear hxs b1 B1 he h5 h
  go_enter Try.func12, Try.ntmps12
  go_wp2
  rw [← hw1]
  clear hw1
  go_loop [5] (fun ix => ∃ k : Nat, k ≤ 3 ∧ ix = .int .i64 (k : Int) ∧ ∀ j, j < k → 0 ≤ t.get j) (fun ix => 3 - vI ix)
  case atStart => exact ⟨0, by decide, rfl, fun j hj => by omega⟩
  case round =>
    obtain ⟨k, hk, rfl, hg⟩ := hrel
    by_cases hk3 : (k : Int) < 3
    · have y := HS.out.cell (get_cell (t := t) (k := k) (by omega))
      obtain ⟨v, hv⟩ : ∃ v, v = t.get k := ⟨_, rfl⟩
      have HV := Lib.hid hv
      have HG := Lib.hid (And.intro hg hk3)
      rw [← hv] at y
      clear hv hg hk
      by_cases h0 : v < 0
      · go_wp2
        go_ret
        exact HR.out
      · have HN := Lib.hid h0
        go_wp2
        exact ⟨⟨k + 1, by have := HG.out.2; omega, by go_num, fun j hj => (by
          by_cases e : j = k
          · rw [e, ← HV.out]
            have := HN.out
            omega
          · exact HG.out.1 j (by omega))⟩, by have := HG.out.2; simp [vI]; omega⟩
    · obtain ⟨j, hj, h0⟩ := HE.out
      exact absurd (hg j (by omega)) (by omega)
set_option maxRecDepth 100000 in
set_option maxHeartbeats 1000000 in
theorem rfTick_full (h : RkAt w c s good) (t : T3) (hn : ¬ Ck.Neg t) (he : Full s t) : Calls Try.prog 12 #[.pointer (some ⟨c, 0, none⟩), .agg (t3Cells t).toArray] w (RfTo w c (s.tickE t) (s.tick t)) := by
  obtain ⟨w1, hw1⟩ : ∃ w1, w1 = w.alloc (.cells (t3Cells t).toArray 22) := ⟨_, rfl⟩
  have B1 : Below w.heap.size w w1 := by rw [hw1]; exact step_alloc (Below.refl _ w) _
  have b1 : BlkR 22 w1 w.heap.size (t3Cells t) := by rw [hw1]; exact BlkR.new w _ _
  have h1 := h.step B1
  have HS := Lib.hid b1
  have BB := Lib.hid B1
  have HC := Lib.hid h1.blk
  have HO := Lib.hid (btw_get.1 h1.ok)
  have HE := Lib.hid (full_get.1 he)
  have HP := Lib.hid (show ∀ k, k < 3 → 0 ≤ t.get k from fun k hk => by
    have := mt neg_get.2 hn
    by_cases e : t.get k < 0
    · exact absurd ⟨k, hk, e⟩ this
    · omega)
  have h8 : s.tickE t = 8 := by unfold S.tickE; rw [if_neg hn, if_pos he]
  have HR := Lib.hid (fun w' (B : Below w.heap.size w w') => (show RfTo w c (s.tickE t) (s.tick t) (.returned (.int .i64 8)) w' from h.same (by rw [h8]; decide) B h8))
  obtain ⟨xs, hxs⟩ : ∃ xs, xs = t3Cells t := ⟨_, rfl⟩
  rw [← hxs] at hw1 ⊢
  clear hxs b1 B1 he h8 h h1 hn
  go_enter Try.func12, Try.ntmps12
  go_wp2
  rw [← hw1]
  clear hw1
  go_loop [5] (fun ix => ∃ k : Nat, k ≤ 3 ∧ ix = .int .i64 (k : Int)) (fun ix => 3 - vI ix)
  case atStart => exact ⟨0, by decide, rfl⟩
  case round =>
    obtain ⟨k, hk, rfl⟩ := hrel
    by_cases hk3 : (k : Int) < 3
    · have y := HS.out.cell (get_cell (t := t) (k := k) (by omega))
      have h0 := HP.out k (by omega)
      obtain ⟨v, hv⟩ : ∃ v, v = t.get k := ⟨_, rfl⟩
      rw [← hv] at y h0
      have h0' : ¬ v < 0 := by omega
      have HG := Lib.hid hk3
      clear hv hk h0
      go_wp2
      exact ⟨⟨k + 1, by have := HG.out; omega, by go_num⟩, by have := HG.out; simp [vI]; omega⟩
    · clear hk
      go_wp2
      go_loopw [6, 7] (fun gv ix wr => ∃ (x : Int) (k : Nat), k ≤ 3 ∧ gv = .int .i64 x ∧ ix = .int .i64 (k : Int) ∧ (∀ j, j < k → t.get j ≤ M - s.t.get j) ∧ Below w1.heap.size w1 wr) (fun _ ix _ => 3 - vI ix)
      case atStart => exact ⟨1, 0, by decide, rfl, rfl, (fun j hj => by omega), Below.refl _ _⟩
      case round =>
        obtain ⟨x, k, hk, rfl, rfl, hg, B⟩ := hrel
        by_cases hk4 : (k : Int) < 3
        · have y := (HS.out.below B HS.out.lt).cell (get_cell (t := t) (k := k) (by omega))
          have z := (HC.out.below B HC.out.lt).cell (rk_get (t := s.t) (n := s.n) (good := good) (k := k) (by omega))
          obtain ⟨o1, o2⟩ := HO.out k (by omega)
          obtain ⟨v, hv⟩ : ∃ v, v = t.get k := ⟨_, rfl⟩
          obtain ⟨a, ha⟩ : ∃ a, a = s.t.get k := ⟨_, rfl⟩
          rw [← hv] at y
          rw [← ha] at z o1 o2
          unfold M at o2
          have hw : IntKind.i64.wrap (1099511627776 - a) = 1099511627776 - a := IntWalk.i64_in _ (by omega)
          have HV := Lib.hid (And.intro hv ha)
          have HG := Lib.hid (And.intro hg hk4)
          have HB := Lib.hid B
          clear hv ha hg hk B
          by_cases h0 : 1099511627776 - a < v
          · have h0d : decide (1099511627776 - a < v) = true := by simpa using h0
            go_wp2_with fail
            go_quiet (fail)
            go_wp2
            go_ret
            exact HR.out _ (BB.out.trans ((step_trans HB.out (belowN (Below.refl _ wr) nq)).mono BB.out.size))
          · have h0d : decide (1099511627776 - a < v) = false := by simpa using h0
            have HN := Lib.hid h0
            have NX : Hid (∀ j, j < k + 1 → t.get j ≤ M - s.t.get j) := Lib.hid fun j hj => by
              by_cases e : j = k
              · rw [e, ← HV.out.1, ← HV.out.2]
                have := HN.out
                unfold M
                omega
              · exact HG.out.1 j (by omega)
            have y' : ∀ N, (wr.drewN N).cell? ⟨w.heap.size, k, none⟩ = some (.int .i64 v) := fun N => y
            by_cases h90 : v < 90
            · go_wp2_with fail
              go_quiet (fail)
              go_wp2
              exact ⟨⟨0, k + 1, by have := HG.out.2; omega, rfl, by go_num, NX.out, step_trans HB.out (belowN (Below.refl _ wr) nq)⟩, by have := HG.out.2; simp [vI]; omega⟩
            · by_cases h110 : 110 < v
              · go_wp2_with fail
                go_quiet (fail)
                go_wp2
                exact ⟨⟨0, k + 1, by have := HG.out.2; omega, rfl, by go_num, NX.out, step_trans HB.out (belowN (Below.refl _ wr) nq)⟩, by have := HG.out.2; simp [vI]; omega⟩
              · go_wp2_with fail
                go_quiet (fail)
                go_wp2
                exact ⟨⟨x, k + 1, by have := HG.out.2; omega, rfl, by go_num, NX.out, step_trans HB.out (belowN (Below.refl _ wr) nq)⟩, by have := HG.out.2; simp [vI]; omega⟩
        · obtain ⟨j, hj, h0⟩ := HE.out
          exact absurd (hg j (by omega)) (by omega)
/-- how many of one tick kept the bound, while the first k parts were looked at -/
def GdIs (t : T3) (k : Nat) (x : Int) : Prop := (x = 1 ∧ ∀ j, j < k → 90 ≤ t.get j ∧ t.get j ≤ 110) ∨ (x = 0 ∧ ¬ ∀ j, j < k → 90 ≤ t.get j ∧ t.get j ≤ 110)
theorem GdIs.in_ {t : T3} {k : Nat} {x : Int} (h : GdIs t k x) (hv : 90 ≤ t.get k ∧ t.get k ≤ 110) : GdIs t (k + 1) x := by
  have e : (∀ j, j < k + 1 → 90 ≤ t.get j ∧ t.get j ≤ 110) ↔ ∀ j, j < k → 90 ≤ t.get j ∧ t.get j ≤ 110 := ⟨fun h j hj => h j (by omega), fun h j hj => by
    by_cases e : j = k
    · rw [e]; exact hv
    · exact h j (by omega)⟩
  unfold GdIs at h ⊢
  rw [e]
  exact h
theorem GdIs.out_ {t : T3} {k : Nat} (hv : ¬ (90 ≤ t.get k ∧ t.get k ≤ 110)) : GdIs t (k + 1) 0 := .inr ⟨rfl, fun h => hv (h k (Nat.lt_succ_self k))⟩
set_option maxRecDepth 100000 in
set_option maxHeartbeats 2000000 in
theorem rfTick_ok (h : RkAt w c s good) (t : T3) (he : s.tickE t = 0) (hn : s.n ≤ 4611686018427387904) : Calls Try.prog 12 #[.pointer (some ⟨c, 0, none⟩), .agg (t3Cells t).toArray] w (RfTo w c (s.tickE t) (s.tick t)) := by
  obtain ⟨hn0, hf0⟩ := tickE_0.1 he
  have hclt := h.blk.lt
  obtain ⟨w1, hw1⟩ : ∃ w1, w1 = w.alloc (.cells (t3Cells t).toArray 22) := ⟨_, rfl⟩
  have B1 : Below w.heap.size w w1 := by rw [hw1]; exact step_alloc (Below.refl _ w) _
  have b1 : BlkR 22 w1 w.heap.size (t3Cells t) := by rw [hw1]; exact BlkR.new w _ _
  have h1 := h.step B1
  have HS := Lib.hid b1
  have BB := Lib.hid B1
  have HC := Lib.hid h1.blk
  have HO := Lib.hid (btw_get.1 h1.ok)
  have HP := Lib.hid (show ∀ k, k < 3 → 0 ≤ t.get k ∧ t.get k ≤ M - s.t.get k from fun k hk => by
    have e1 := mt neg_get.2 hn0
    have e2 := mt full_get.2 hf0
    constructor
    · by_cases e : t.get k < 0
      · exact absurd ⟨k, hk, e⟩ e1
      · omega
    · by_cases e : M - s.t.get k < t.get k
      · exact absurd ⟨k, hk, e⟩ e2
      · omega)
  have HR := Lib.hid (fun (x : Int) (w' : World) (hg : GdIs t 3 x) (b : BlkR 35 w' c (rkC (pt s.t t ((3 : Nat) : Int)) (s.n + 1) (good + x.toNat))) (F : Frame (OneB c) w w') => (show RfTo w c (s.tickE t) (s.tick t) (.returned (.int .i64 0)) w' from by
    have hst : s.tick t = s.go t := by unfold S.tick; rw [if_pos he]
    have hok := S.tick_ok h.ok (b := t)
    rw [he]
    refine ⟨rfl, ⟨good + x.toNat, ?_, hok, ?_, ?_⟩, F⟩
    · rw [hst]; exact b
    · rw [hst]
      show good + x.toNat ≤ s.n + 1
      have := h.le
      rcases hg with ⟨rfl, _⟩ | ⟨rfl, _⟩ <;> simp <;> omega
    · rw [hst]
      show (s.kept && decide (Btw 90 110 t)) = true ↔ good + x.toNat = s.n + 1
      have hk := h.kept
      have hl := h.le
      rw [Bool.and_eq_true, decide_eq_true_eq, btw_get, hk]
      rcases hg with ⟨rfl, hg⟩ | ⟨rfl, hg⟩
      · exact ⟨fun ⟨e, _⟩ => by rw [e]; rfl, fun e => ⟨by rw [show (1 : Int).toNat = 1 from rfl] at e; omega, hg⟩⟩
      · exact ⟨fun ⟨_, e⟩ => absurd e hg, fun e => by rw [show (0 : Int).toNat = 0 from rfl] at e; omega⟩))
  have HCS := Lib.hid (show w.heap.size ≠ c by omega)
  have HL := Lib.hid (And.intro hn h.le)
  obtain ⟨xs, hxs⟩ : ∃ xs, xs = t3Cells t := ⟨_, rfl⟩
  rw [← hxs] at hw1 ⊢
  obtain ⟨ps, hps⟩ : ∃ ps : T3, ps = s.t := ⟨_, rfl⟩
  rw [← hps] at HR HC HP HO
  have n1 : IntKind.i64.wrap ((s.n : Int) + 1) = (s.n : Int) + 1 := IntWalk.i64_in _ (by omega)
  clear hxs b1 B1 he h h1 hn hn0 hf0 hclt hps
  go_enter Try.func12, Try.ntmps12
  go_wp2
  rw [← hw1]
  clear hw1
  go_loop [5] (fun ix => ∃ k : Nat, k ≤ 3 ∧ ix = .int .i64 (k : Int)) (fun ix => 3 - vI ix)
  case atStart => exact ⟨0, by decide, rfl⟩
  case round =>
    obtain ⟨k, hk, rfl⟩ := hrel
    by_cases hk3 : (k : Int) < 3
    · have y := HS.out.cell (get_cell (t := t) (k := k) (by omega))
      have h0 := (HP.out k (by omega)).1
      obtain ⟨v, hv⟩ : ∃ v, v = t.get k := ⟨_, rfl⟩
      rw [← hv] at y h0
      have h0' : ¬ v < 0 := by omega
      have HG := Lib.hid hk3
      clear hv hk h0
      go_wp2
      exact ⟨⟨k + 1, by have := HG.out; omega, by go_num⟩, by have := HG.out; simp [vI]; omega⟩
    · clear hk
      go_wp2
      go_loopw [6, 7] (fun gv ix wr => ∃ (x : Int) (k : Nat), k ≤ 3 ∧ gv = .int .i64 x ∧ ix = .int .i64 (k : Int) ∧ GdIs t k x ∧ Below w1.heap.size w1 wr) (fun _ ix _ => 3 - vI ix)
      case atStart => exact ⟨1, 0, by decide, rfl, rfl, .inl ⟨rfl, fun j hj => by omega⟩, Below.refl _ _⟩
      case round =>
        obtain ⟨x, k, hk, rfl, rfl, hg, B⟩ := hrel
        by_cases hk4 : (k : Int) < 3
        · have y := (HS.out.below B HS.out.lt).cell (get_cell (t := t) (k := k) (by omega))
          have z := (HC.out.below B HC.out.lt).cell (rk_get (t := ps) (n := s.n) (good := good) (k := k) (by omega))
          obtain ⟨o1, o2⟩ := HO.out k (by omega)
          have o3 := (HP.out k (by omega)).2
          obtain ⟨v, hv⟩ : ∃ v, v = t.get k := ⟨_, rfl⟩
          obtain ⟨a, ha⟩ : ∃ a, a = ps.get k := ⟨_, rfl⟩
          rw [← hv] at y o3
          rw [← ha] at z o1 o2 o3
          unfold M at o2 o3
          have hw : IntKind.i64.wrap (1099511627776 - a) = 1099511627776 - a := IntWalk.i64_in _ (by omega)
          have HV := Lib.hid hv
          have HG := Lib.hid (And.intro hg hk4)
          have HB := Lib.hid B
          have h0 : ¬ 1099511627776 - a < v := by omega
          have h0d : decide (1099511627776 - a < v) = false := by simpa using h0
          have y' : ∀ N, (wr.drewN N).cell? ⟨w.heap.size, k, none⟩ = some (.int .i64 v) := fun N => y
          clear hv ha hg hk B o1 o2 o3
          by_cases h90 : v < 90
          · have HN := Lib.hid h90
            go_wp2_with fail
            go_quiet (fail)
            go_wp2
            exact ⟨⟨0, k + 1, by have := HG.out.2; omega, rfl, by go_num, GdIs.out_ (by have := HN.out; rw [HV.out] at this; omega), step_trans HB.out (belowN (Below.refl _ wr) nq)⟩, by have := HG.out.2; simp [vI]; omega⟩
          · by_cases h110 : 110 < v
            · have HN := Lib.hid h110
              go_wp2_with fail
              go_quiet (fail)
              go_wp2
              exact ⟨⟨0, k + 1, by have := HG.out.2; omega, rfl, by go_num, GdIs.out_ (by have := HN.out; rw [HV.out] at this; omega), step_trans HB.out (belowN (Below.refl _ wr) nq)⟩, by have := HG.out.2; simp [vI]; omega⟩
            · have HN := Lib.hid (And.intro h90 h110)
              go_wp2_with fail
              go_quiet (fail)
              go_wp2
              exact ⟨⟨x, k + 1, by have := HG.out.2; omega, rfl, by go_num, HG.out.1.in_ (by have := HN.out; rw [HV.out] at this; omega), step_trans HB.out (belowN (Below.refl _ wr) nq)⟩, by have := HG.out.2; simp [vI]; omega⟩
        · have hg : GdIs t 3 x := by have hk5 : k = 3 := by omega
                                     rw [← hk5]; exact hg
          have HG := Lib.hid hg
          have HB := Lib.hid B
          have hx01 : x = 0 ∨ x = 1 := by rcases hg with ⟨e, _⟩ | ⟨e, _⟩ <;> omega
          have hwg : IntKind.i64.wrap ((good : Int) + x) = (good : Int) + x := IntWalk.i64_in _ (by have := HL.out; omega)
          have HX := Lib.hid hx01
          clear hg hk hx01 B
          go_wp2
          clear hk4
          go_loopw [8] (fun ix wx => ∃ k : Nat, k ≤ 3 ∧ ix = .int .i64 (k : Int) ∧ BlkR 35 wx c (rkC (pt ps t (k : Int)) s.n good) ∧ Frame (OneB c) w wx ∧ BlkR 22 wx w.heap.size (t3Cells t)) (fun ix _ => 3 - vI ix)
          case atStart => exact ⟨0, by decide, rfl, HC.out.below HB.out HC.out.lt, Frame.of_below (BB.out.trans (HB.out.mono BB.out.size)), HS.out.below HB.out HS.out.lt⟩
          case round =>
            obtain ⟨k, hk, rfl, r, F, g2⟩ := hrel
            by_cases hk4 : (k : Int) < 3
            · obtain ⟨wd, hwd⟩ : ∃ wd, wd = { wr with drawn := wr.drawn + 1 } := ⟨_, rfl⟩
              have FD : Frame (OneB c) w wd := by rw [hwd]; exact ⟨F.os, F.tape, F.output, F.size, F.block⟩
              have rd : BlkR 35 wd c (rkC (pt ps t (k : Int)) s.n good) := by rw [hwd]; exact r
              have gd : BlkR 22 wd w.heap.size (t3Cells t) := by rw [hwd]; exact g2
              have glt := gd.lt
              have y := gd.cell (get_cell (t := t) (k := k) (by omega))
              have z := rd.cell (rk_get (k := k) (by omega))
              rw [pk_get (by omega)] at z
              have f := rd.frozen k
              obtain ⟨o1, o2⟩ := HO.out k (by omega)
              obtain ⟨o3, o4⟩ := HP.out k (by omega)
              obtain ⟨v, hv⟩ : ∃ v, v = t.get k := ⟨_, rfl⟩
              obtain ⟨a, ha⟩ : ∃ a, a = ps.get k := ⟨_, rfl⟩
              obtain ⟨q1, q2⟩ := rk_set rd k (.int .i64 (a + v))
              rw [pk_set (v := a + v) (by omega) (by rw [hv, ha])] at q1
              rw [← hv] at y o3 o4
              rw [← ha] at z o1 o2 o4
              unfold M at o2 o4
              have hw : IntKind.i64.wrap (a + v) = a + v := IntWalk.i64_in _ (by omega)
              have Q1 := Lib.hid q1
              have Q2 := Lib.hid (FD.trans q2 fun j e => .inl e)
              have Q3 := Lib.hid (((q2.block _ (by omega) HCS.out).trans gd : BlkR 22 _ w.heap.size (t3Cells t)))
              have HK := Lib.hid hk4
              clear rd gd q1 q2 r g2 F FD hk hv ha o1 o2 o3 o4 glt
              go_wp2
              refine region_tail 15 (by kernel_rfl) (by kernel_rfl) wd hwd ?_
              clear hwd
              simp only [List.take_succ_cons, List.take_zero, List.drop_succ_cons, List.drop_zero]
              repeat still_step
              refine wpStill_nil ?_
              go_wp2
              exact ⟨⟨k + 1, by have := HK.out; omega, by go_num, Q1.out, Q2.out, Q3.out⟩, by have := HK.out; simp [vI]; omega⟩
            · have hk5 : k = 3 := by omega
              rw [hk5] at r
              clear hk5
              have c3 := r.cell (k := 3) rfl
              have c4 := r.cell (k := 4) rfl
              have f3 := r.frozen 3
              have f4 := r.frozen 4
              have e := rk_end (x := (s.n : Int) + 1) (y := (good : Int) + x) (n2 := s.n + 1) (g2 := good + x.toNat) (by omega) (by have := HX.out; omega) r
              have HE := Lib.hid (And.intro e.1 (F.trans e.2 fun j e => .inl e))
              clear r F g2 e hk
              go_wp2
              go_ret
              exact HR.out x _ HG.out HE.out.1 HE.out.2
/-- a tick of the document's clocks -/
theorem rfTick_any (h : RkAt w c s good) (t : T3) (hn : s.n ≤ 4611686018427387904) : Calls Try.prog 12 #[.pointer (some ⟨c, 0, none⟩), .agg (t3Cells t).toArray] w (RfTo w c (s.tickE t) (s.tick t)) := by
  by_cases h1 : Ck.Neg t
  · exact rfTick_neg h t h1
  · by_cases h2 : Full s t
    · exact rfTick_full h t h1 h2
    · exact rfTick_ok h t (tickE_0.2 ⟨h1, h2⟩) hn
end
end Go.Proofs.Ytfopjilncfndnaa
