/-
  SessionOnce: does. Conditions: none.
-/
import Derived.Test.YtfopjilncfndnaaDoorSsOnceAgain
import Derived.Test.YtfopjilncfndnaaDoorMvMem
import Derived.Test.YtfopjilncfndnaaDoorBa
namespace Go.Proofs.YtfopjilncfndnaaDoor
open Go.RowKit Fix

/-- the pair between two moves: at most mT texts of each, mL datagrams on their way -/
def PrX (w0 w : World) (q a b mT mL : Nat) : Prop := ∃ V T D X L, Pr w0 w q a b V T D X L ∧ (∀ i, i < 2 → (T i).length ≤ mT) ∧ L.length ≤ mL
def DoTo (w0 : World) (q a b mT mL : Nat) (e : Ending) (w' : World) : Prop := e = .returned (.bool true) ∧ PrX w0 w' q a b mT mL
section
variable {w0 w w' : World} {q a b mT mL : Nat}
theorem PrX.more {mT2 mL2 : Nat} (h : PrX w0 w q a b mT mL) (h1 : mT ≤ mT2) (h2 : mL ≤ mL2) : PrX w0 w q a b mT2 mL2 := by
  obtain ⟨V, T, D, X, L, h, hT, hL⟩ := h
  exact ⟨V, T, D, X, L, h, fun i hi => Nat.le_trans (hT i hi) h1, Nat.le_trans hL h2⟩
theorem PrX.step (h : PrX w0 w q a b mT mL) (B : Below w.heap.size w w') : PrX w0 w' q a b mT mL := by
  obtain ⟨V, T, D, X, L, h, hT, hL⟩ := h
  exact ⟨V, T, D, X, L, h.step B, hT, hL⟩
set_option maxRecDepth 100000 in
set_option maxHeartbeats 4000000 in
theorem does_0 (H : PrX w0 w q a b mT mL) (m : MvM) (hw : -9223372036854775808 ≤ m.who ∧ m.who ≤ 9223372036854775807) (hmL : mL ≤ 3900) (hB : BytesAt w0 w0.heap.size m.A m.b) (h150 : m.b.length ≤ 150) (hmT : mT < 100) (hk : m.kind = 0) :
    Calls Tryd.prog 14 #[.pointer (some ⟨q, 0, none⟩), .agg #[.int .i64 m.who, .int .i64 m.kind, .int .i64 m.n, .slice m.A m.b.length m.cb]] w (DoTo w0 q a b (mT + 1) (mL + 17)) := by
  obtain ⟨V, T, D, X, L, h, hT, hL⟩ := H
  obtain ⟨i, hi0⟩ : ∃ i : Nat, (i : Int) = m.who % 2 := ⟨(m.who % 2).toNat, by omega⟩
  have hi : i < 2 := by omega
  have zp := fun wy => pick_any m.who 2 wy hw.1 hw.2 (by decide) (by decide)
  rw [← hi0] at zp
  obtain ⟨w1, hw1⟩ : ∃ w1, w1 = w.alloc (.cells #[.int .i64 m.who, .int .i64 m.kind, .int .i64 m.n, .slice m.A m.b.length m.cb] 51) := ⟨_, rfl⟩
  have b1 : BlkR 51 w1 w.heap.size (mvCells m) := by rw [hw1]; exact BlkR.new w (mvCells m) _
  have B1 : Below w.heap.size w w1 := by rw [hw1]; exact step_alloc (Below.refl _ w) _
  have h1 := h.step B1
  have y0 := b1.cell (k := 0) rfl
  have y1 := b1.cell (k := 1) rfl
  have y2 := b1.cell (k := 2) rfl
  have y3 := b1.cell (k := 3) rfl
  have zp1 := zp w1
  have zs := pr_sends h1 i hi m.A m.b m.b.length m.cb rfl h150 hB (Nat.lt_of_le_of_lt (hT i hi) hmT) (by omega)
  have FIN : Hid (∀ w', (∃ V' X' L', Pr w0 w' q a b V' (On.upf T i (T i ++ [txt (T i).length m.b])) D X' L' ∧ L'.length = L.length + 1) → PrX w0 w' q a b (mT + 1) (mL + 17)) := Lib.hid fun w' ⟨V', X', L', g1, g2⟩ => by
    refine ⟨V', _, D, X', L', g1, fun j hj => ?_, by omega⟩
    by_cases e : j = i
    · subst e; rw [On.upf_at, List.length_append]; have := hT j hj; simp; omega
    · rw [On.upf_ne _ _ e]; exact Nat.le_succ_of_le (hT j hj)
  rw [hk] at hw1 y1 ⊢
  obtain ⟨M, hM⟩ : ∃ M, M = m.b.length := ⟨_, rfl⟩
  rw [← hM] at hw1 y3 zs ⊢
  clear h h1 hi0 hi zp b1 B1 hT hL hM hB h150 hmT hmL hk hw
  go_enter Tryd.func14, Tryd.ntmps14
  go_wp2_with fail
  rw [← hw1]
  clear hw1
  go_wp2_with (first
    | (go_at_call 19; (with_reducible refine zp1.mono ?_); (rintro e w2 ⟨rfl, rfl⟩))
    | (go_at_call 32; (with_reducible refine zs.mono ?_); (rintro e w3 ⟨rfl, k1⟩; have K1 := Lib.hid (FIN.out w3 k1); clear k1)))
  go_ret
  exact ⟨rfl, K1.out⟩
set_option maxRecDepth 100000 in
set_option maxHeartbeats 4000000 in
theorem does_1 (H : PrX w0 w q a b mT mL) (m : MvM) (hw : -9223372036854775808 ≤ m.who ∧ m.who ≤ 9223372036854775807) (hmL : mL ≤ 3900) (hk : m.kind = 1) :
    Calls Tryd.prog 14 #[.pointer (some ⟨q, 0, none⟩), .agg #[.int .i64 m.who, .int .i64 m.kind, .int .i64 m.n, .slice m.A m.b.length m.cb]] w (DoTo w0 q a b (mT + 1) (mL + 17)) := by
  obtain ⟨V, T, D, X, L, h, hT, hL⟩ := H
  obtain ⟨i, hi0⟩ : ∃ i : Nat, (i : Int) = m.who % 2 := ⟨(m.who % 2).toNat, by omega⟩
  have hi : i < 2 := by omega
  have zp := fun wy => pick_any m.who 2 wy hw.1 hw.2 (by decide) (by decide)
  rw [← hi0] at zp
  obtain ⟨w1, hw1⟩ : ∃ w1, w1 = w.alloc (.cells #[.int .i64 m.who, .int .i64 m.kind, .int .i64 m.n, .slice m.A m.b.length m.cb] 51) := ⟨_, rfl⟩
  have b1 : BlkR 51 w1 w.heap.size (mvCells m) := by rw [hw1]; exact BlkR.new w (mvCells m) _
  have B1 : Below w.heap.size w w1 := by rw [hw1]; exact step_alloc (Below.refl _ w) _
  have h1 := h.step B1
  have y0 := b1.cell (k := 0) rfl
  have y1 := b1.cell (k := 1) rfl
  have y2 := b1.cell (k := 2) rfl
  have y3 := b1.cell (k := 3) rfl
  have zp1 := zp w1
  obtain ⟨s, hs, bt⟩ := pin (h1.e.bti hi)
  have he : PrE w0 w1 q a b V T D X L (fun j t => j = i → t = s) := ⟨h1.pm.sess (of_bti (P := fun j t => SideI T D j t ∧ (j = i → t = s)) hi (show BtI w0 w1 a b i _ _ _ from Bt.weak bt (fun t e => by subst e; exact ⟨hs.1, fun _ => rfl⟩) fun t e => ⟨e.1, fun y => by omega⟩)) (Frame.refl _ _), h1.lts, h1.txs, h1.shp⟩
  have z16 : s.wait.length ≤ 16 := hs.1.sends.many
  have za := pr_again he i hi s (fun t e => e rfl) (by omega)
  obtain ⟨M, hM⟩ : ∃ M, M = s.wait.length := ⟨_, rfl⟩
  have FIN : Hid (∀ w', (∃ V' Ls, PrE w0 w' q a b V' T D X (L ++ Ls) (fun j t => j = i → t = s) ∧ Ls.length = M ∧ AgL s (1 - i) Ls) → PrX w0 w' q a b (mT + 1) (mL + 17) ∧ w'.cell? ⟨q, i, none⟩ = some (.pointer (some ⟨ab a b i, 0, none⟩)) ∧
      ∀ N, Calls Tryd.prog 12 #[.pointer (some ⟨ab a b i, 0, none⟩)] (w'.drewN N) fun e w'' => e = .returned (.int .i64 (M : Int)) ∧ w'.drewN N = w'') := Lib.hid fun w' ⟨V', Ls, g1, g2, _⟩ => by
    refine ⟨⟨V', T, D, X, L ++ Ls, g1.pr, fun j hj => Nat.le_succ_of_le (hT j hj), by rw [List.length_append]; omega⟩, g1.pm.ses hi, fun N => bt_waiting ((g1.step (belowN (Below.refl _ w') N)).bti hi) M fun t k => ?_⟩
    rw [k.2 rfl, hM]
  have c0 := h1.pm.ses hi
  have hi2 : (i : Int) < 2 := by omega
  rw [← hM] at za
  rw [hk] at hw1 y1 ⊢
  obtain ⟨M3, hM3⟩ : ∃ M3, M3 = m.b.length := ⟨_, rfl⟩
  rw [← hM3] at hw1 y3 ⊢
  have eM : ((M : Int) == (M : Int)) = true := by simp
  have STP := Lib.hid (fun wd (B : Below w1.heap.size w1 wd) (e : wd = w1) => e)
  have zd : Calls Tryd.prog 33 #[.pointer (some ⟨q, 0, none⟩), .int .i64 (i : Int)] w1.drew fun e w' => e = .returned (.int .i64 (M : Int)) ∧ ∃ V' Ls, PrE w0 w' q a b V' T D X (L ++ Ls) (fun j t => j = i → t = s) ∧ Ls.length = M ∧ AgL s (1 - i) Ls := by
    have := pr_again (he.step (Below.refl _ w1).drew) i hi s (fun t e => e rfl) (by omega)
    rwa [← hM] at this
  clear h h1 hi0 zp b1 B1 hT hL hmL hk hw hs bt he z16 za hM hM3 STP hi
  go_enter Tryd.func14, Tryd.ntmps14
  go_wp2_with fail
  rw [← hw1]
  clear hw1
  go_upto_region 6 with (go_at_call 19; (with_reducible refine zp1.mono ?_); (rintro e w2 ⟨rfl, rfl⟩))
  refine wp_region_held_drew (S := fun w' => w'.cell? ⟨q, i, none⟩ = some (.pointer (some ⟨ab a b i, 0, none⟩))) (by kernel_rfl) c0 (fun hHeld => ?_)
  refine wpAnyH_take (i := 0) (v := ?_) rfl (by kernel_rfl) (by kernel_rfl) (by kernel_rfl) (fun _ _ _ h => h) (Or.inl ⟨by rfl, ?_⟩) (by assumption) ?_
  rotate_left
  · intro w hSw
    obtain s0 := hSw
    go_simp <;> with_reducible rfl
  refine wpAnyH_take (i := 1) (v := ?_) rfl (by kernel_rfl) (by kernel_rfl) (by kernel_rfl) (fun _ _ _ h => h) (Or.inl ⟨by rfl, ?_⟩) (by assumption) ?_
  rotate_left
  · intro w hSw
    obtain s0 := hSw
    go_simp <;> with_reducible rfl
  refine wpAnyH_take (i := 3) (v := ?_) rfl (by kernel_rfl) (by kernel_rfl) (by kernel_rfl) (fun _ _ _ h => h) (Or.inl ⟨by rfl, ?_⟩) (by assumption) ?_
  rotate_left
  · intro w hSw
    obtain s0 := hSw
    go_simp <;> with_reducible rfl
  refine wpAnyH_take (i := 4) (v := ?_) rfl (by kernel_rfl) (by kernel_rfl) (by kernel_rfl) (fun _ _ _ h => h) (Or.inl ⟨by rfl, ?_⟩) (by assumption) ?_
  rotate_left
  · intro w hSw
    obtain s0 := hSw
    go_simp <;> with_reducible rfl
  refine wpAnyH_take (i := 5) (v := ?_) rfl (by kernel_rfl) (by kernel_rfl) (by kernel_rfl) (fun _ _ _ h => h) (Or.inl ⟨by rfl, ?_⟩) (by assumption) ?_
  rotate_left
  · intro w hSw
    obtain s0 := hSw
    go_simp <;> with_reducible rfl
  refine wpAnyH_take (i := 6) (v := ?_) rfl (by kernel_rfl) (by kernel_rfl) (by kernel_rfl) (fun _ _ _ h => h) (Or.inl ⟨by rfl, ?_⟩) (by assumption) ?_
  rotate_left
  · intro w hSw
    obtain s0 := hSw
    go_simp <;> with_reducible rfl
  refine wpAnyH_take (i := 7) (v := ?_) rfl (by kernel_rfl) (by kernel_rfl) (by kernel_rfl) (fun _ _ _ h => h) (Or.inl ⟨by rfl, ?_⟩) (by assumption) ?_
  rotate_left
  · intro w hSw
    obtain s0 := hSw
    go_simp <;> with_reducible rfl
  refine wpAnyH_take (i := 8) (v := ?_) rfl (by kernel_rfl) (by kernel_rfl) (by kernel_rfl) (fun _ _ _ h => h) (Or.inl ⟨by rfl, ?_⟩) (by assumption) ?_
  rotate_left
  · intro w hSw
    obtain s0 := hSw
    go_simp <;> with_reducible rfl
  simp only [Act.put, List.setIfInBounds_toArray]
  refine wpAnyH_ready (rs := [2]) (by kernel_rfl) (by simp) (AllReadyH.cons rfl (fun K hK => ?_) AllReadyH.nil)
  go_simp
  (go_at_call 33; (with_reducible refine zd.mono ?_); (rintro e w3 ⟨rfl, k1⟩))
  dsimp only
  obtain ⟨f1, f2, f3⟩ := FIN.out w3 k1
  refine hK.out _ _ f2 (fun hHeld => ?_)
  have F1 := Lib.hid f1
  have F2 : Hid (∀ N, (w3.drewN N).cell? ⟨q, i, none⟩ = some (.pointer (some ⟨ab a b i, 0, none⟩))) := Lib.hid fun N => f2
  clear hHeld hK K zd f1 f2 k1 c0
  refine wpAnyH_rest 9 rfl (by kernel_rfl) (by kernel_rfl) F2.out ?_
  simp only [List.drop_succ_cons, List.drop_zero]
  repeat (go_big_quiet_step ((go_at_call 12; with_reducible first | exact quietN (f3 _) | exact quietA (f3 _))))
  refine wpQuiet_nil ?_
  intro _ hw'
  obtain ⟨nq, hw''⟩ := hw'
  subst hw''
  go_wp2
  go_ret
  exact ⟨rfl, F1.out.step (belowN (Below.refl _ w3) nq)⟩
set_option maxRecDepth 100000 in
set_option maxHeartbeats 4000000 in
theorem does_2 (H : PrX w0 w q a b mT mL) (m : MvM) (hw : -9223372036854775808 ≤ m.who ∧ m.who ≤ 9223372036854775807) (hmL : mL ≤ 3900) (hk : m.kind = 2) :
    Calls Tryd.prog 14 #[.pointer (some ⟨q, 0, none⟩), .agg #[.int .i64 m.who, .int .i64 m.kind, .int .i64 m.n, .slice m.A m.b.length m.cb]] w (DoTo w0 q a b (mT + 1) (mL + 17)) := by
  obtain ⟨V, T, D, X, L, h, hT, hL⟩ := H
  obtain ⟨i, hi0⟩ : ∃ i : Nat, (i : Int) = m.who % 2 := ⟨(m.who % 2).toNat, by omega⟩
  have hi : i < 2 := by omega
  have zp := fun wy => pick_any m.who 2 wy hw.1 hw.2 (by decide) (by decide)
  rw [← hi0] at zp
  obtain ⟨w1, hw1⟩ : ∃ w1, w1 = w.alloc (.cells #[.int .i64 m.who, .int .i64 m.kind, .int .i64 m.n, .slice m.A m.b.length m.cb] 51) := ⟨_, rfl⟩
  have b1 : BlkR 51 w1 w.heap.size (mvCells m) := by rw [hw1]; exact BlkR.new w (mvCells m) _
  have B1 : Below w.heap.size w w1 := by rw [hw1]; exact step_alloc (Below.refl _ w) _
  have h1 := h.step B1
  have y0 := b1.cell (k := 0) rfl
  have y1 := b1.cell (k := 1) rfl
  have y2 := b1.cell (k := 2) rfl
  have y3 := b1.cell (k := 3) rfl
  have zp1 := zp w1
  have za := bt_ack (h1.bti hi)
  have c0 := h1.pm.ses hi
  have hi2 : (i : Int) < 2 := by omega
  obtain ⟨Aw, cw, hVw, _⟩ := h.way.form
  obtain ⟨N2, hN2⟩ : ∃ N2, N2 = L.length := ⟨_, rfl⟩
  rw [← hN2] at hVw
  have hwj : IntKind.i64.wrap (1 - (i : Int)) = ((1 - i : Nat) : Int) := by rw [IntWalk.i64_in _ (by omega)]; omega
  obtain ⟨J, hJ⟩ : ∃ J, J = ((1 - i : Nat) : Int) := ⟨_, rfl⟩
  rw [← hJ] at hwj
  have FIN : Hid (∀ (w3 : World) (A : Option Addr) (c : Nat) (s : Ss.S), SideI T D i s → s.Ok → Bt w0 w3 (ab a b i) (ab a b (1 - i)) (SideI T D i) (SideI T D (1 - i)) (Wp q V) → BytesAt w3 w3.heap.size A (s.dat (0, [])).enc → (∀ ad, A = some ad → w1.heap.size ≤ ad.block) → 41 ≤ c → Frame (AB (ab a b i) (ab a b (1 - i))) w1 w3 →
      (∀ w5, Below w3.heap.size w3 w5 → w5.cell? ⟨q, 2, none⟩ = some (.slice Aw N2 cw) ∧ OwnK 86 2 w5 w0.heap.size (.slice Aw N2 cw) N2 (L.flatMap ltC)) ∧ w0.heap.size ≤ w3.heap.size ∧
      ∀ w5 w9 v9, Below w3.heap.size w3 w5 → OwnK 86 2 w9 w0.heap.size v9 (N2 + 1) (L.flatMap ltC ++ [.int .i64 J, .slice A 41 c]) → w5.grownBy w9 (Value.slice Aw N2 cw).ownBlock → (v9.ownBlock = (Value.slice Aw N2 cw).ownBlock ∨ v9.ownBlock = some w5.heap.size) →
        w9.frozen? ⟨q, 2, none⟩ = false ∧ w9.cell? ⟨q, 2, none⟩ = some (.slice Aw N2 cw) ∧ PrX w0 (w9.setCell ⟨q, 2, none⟩ v9) q a b (mT + 1) (mL + 17)) := Lib.hid fun w3 A c s k3 k4 k5 k6 k7 k8 k9 => by
    have F := abi_frame hi k9
    have h3 : PrE w0 w3 q a b V T D X L (fun _ _ => True) := ⟨h1.e.pm.sess (of_bti (P := fun j t => SideI T D j t ∧ True) hi (show BtI w0 w3 a b i _ _ _ from Bt.weak k5 (fun _ e => ⟨e, trivial⟩) fun _ e => ⟨e, trivial⟩)) F, fun m hm => (h1.lts m hm).sess F, fun j hj => ⟨(h1.txs j hj).1, fun t ht => ((h1.txs j hj).2 t ht).sess F⟩, h1.shp⟩
    have hlt : LtOk a b q V w3 T D ⟨1 - i, A, c, s.dat (0, [])⟩ := ⟨by show 1 - i < 2; omega, by show On.Goes T D (1 - (1 - i)) (1 - i) _; rw [show 1 - (1 - i) = i by omega]; exact On.Side.ack k3, Ss.dat_ok k4 _ (.inl ⟨rfl, rfl⟩), k8, h1.pm.far k6 k7⟩
    refine ⟨fun w5 B => ⟨by rw [← hVw]; exact (h3.step B).pm.row (by decide) (by decide), ?_⟩, h3.pm.fr.size, fun w5 w9 v9 B5 o1 o2 o3 => ?_⟩
    · have := (h3.step B).pr.way
      rwa [hVw, ← hN2] at this
    · rw [hJ, hN2] at o1
      rw [← hVw] at o2 o3 ⊢
      obtain ⟨f, x, P⟩ := way_push h3 hlt B5 o1 o2 o3
      exact ⟨f, x, _, T, D, X, _, P.pr, fun j hj => Nat.le_succ_of_le (hT j hj), by rw [List.length_append]; show L.length + 1 ≤ _; omega⟩
  have HN := Lib.hid (show N2 ≤ 3900 by omega)
  rw [hk] at hw1 y1 ⊢
  obtain ⟨M, hM⟩ : ∃ M, M = m.b.length := ⟨_, rfl⟩
  rw [← hM] at hw1 y3 ⊢
  obtain ⟨xs, hxs⟩ : ∃ xs, xs = L.flatMap ltC := ⟨_, rfl⟩
  rw [← hxs] at FIN
  clear h h1 hi0 hi zp b1 B1 hT hL hM hmL hk hw hVw hN2 hJ hxs
  go_enter Tryd.func14, Tryd.ntmps14
  go_wp2_with fail
  rw [← hw1]
  clear hw1
  go_wp2_with (first
    | (go_at_call 19; (with_reducible refine zp1.mono ?_); (rintro e w2 ⟨rfl, rfl⟩))
    | (go_at_call 25; (with_reducible refine za.mono ?_); (rintro e w3 ⟨A, c', s, rfl, k2, k3, k4, k5, k6, k7, k8⟩; obtain ⟨r1, r2, r3⟩ := FIN.out w3 A c' s k3 k4 k5 k6.at_ (fun ad e => (k7 ad e).1) k2 k8; have u2 := (r1 w3 (Below.refl _ w3)).1; have ow := (r1 _ (step_alloc (Below.refl _ w3) (.cells #[.int .i64 J, .slice A 41 c'] 86))).2; have OW := Lib.hid ow; have R3 := Lib.hid r3; have R2 := Lib.hid r2; clear k2 k3 k4 k5 k6 k7 k8 r1 r2 r3 ow))
    | (at_builtin; refine wpList_appendK rfl (.tmp 50) (.tmp 55) elLt rfl (.slice Aw N2 cw) N2 xs [.int .i64 J, .slice A 41 c'] 1 w0.heap.size rfl OW.out ⟨w3.heap.size, 0, none⟩ 1 rfl rfl (fun j u hu => by rw [addr_zero_add]; exact (BlkR.new w3 [.int .i64 J, .slice A 41 c'] 86).cell hu) (by intro u hu; simp only [List.mem_cons, List.not_mem_nil, or_false] at hu; rcases hu with rfl | rfl <;> rfl) (by have := HN.out; unfold maxLen; omega) (by have := HN.out; omega) (by have := R2.out; simp; omega) ?_; (intro v9 w9 o9 gr9 k9; obtain ⟨f9, x9, T9⟩ := R3.out _ _ _ (step_alloc (Below.refl _ w3) _) o9 gr9 k9; obtain ⟨A9, c9, e9, _⟩ := o9.form; subst e9; have T9 := Lib.hid T9; clear o9 gr9 k9)))
  go_ret
  exact ⟨rfl, T9.out⟩
set_option maxRecDepth 100000 in
set_option maxHeartbeats 4000000 in
theorem does_none (H : PrX w0 w q a b mT mL) (m : MvM) (hw : -9223372036854775808 ≤ m.who ∧ m.who ≤ 9223372036854775807) (hk : m.kind ≠ 0 ∧ m.kind ≠ 1 ∧ m.kind ≠ 2) (hN : ∀ V T D X L, Pr w0 w q a b V T D X L → L.length = 0) :
    Calls Tryd.prog 14 #[.pointer (some ⟨q, 0, none⟩), .agg #[.int .i64 m.who, .int .i64 m.kind, .int .i64 m.n, .slice m.A m.b.length m.cb]] w (DoTo w0 q a b (mT + 1) (mL + 17)) := by
  obtain ⟨V, T, D, X, L, h, hT, hL⟩ := H
  obtain ⟨i, hi0⟩ : ∃ i : Nat, (i : Int) = m.who % 2 := ⟨(m.who % 2).toNat, by omega⟩
  have hi : i < 2 := by omega
  have zp := fun wy => pick_any m.who 2 wy hw.1 hw.2 (by decide) (by decide)
  rw [← hi0] at zp
  obtain ⟨w1, hw1⟩ : ∃ w1, w1 = w.alloc (.cells #[.int .i64 m.who, .int .i64 m.kind, .int .i64 m.n, .slice m.A m.b.length m.cb] 51) := ⟨_, rfl⟩
  have b1 : BlkR 51 w1 w.heap.size (mvCells m) := by rw [hw1]; exact BlkR.new w (mvCells m) _
  have B1 : Below w.heap.size w w1 := by rw [hw1]; exact step_alloc (Below.refl _ w) _
  have h1 := h.step B1
  have y0 := b1.cell (k := 0) rfl
  have y1 := b1.cell (k := 1) rfl
  have y2 := b1.cell (k := 2) rfl
  have y3 := b1.cell (k := 3) rfl
  have zp1 := zp w1
  have hl := hN V T D X L h
  obtain ⟨Aw, cw, hVw, _⟩ := h.way.form
  rw [hl] at hVw
  have u2 : w1.cell? ⟨q, 2, none⟩ = some (.slice Aw 0 cw) := by rw [← hVw]; exact h1.pm.row (by decide) (by decide)
  have FIN := Lib.hid (show PrX w0 w1 q a b (mT + 1) (mL + 17) from ⟨V, T, D, X, L, h1, fun j hj => Nat.le_succ_of_le (hT j hj), by omega⟩)
  have k0 : (m.kind == 0) = false := by simp [hk.1]
  have k1 : (m.kind == 1) = false := by simp [hk.2.1]
  have k2 : (m.kind == 2) = false := by simp [hk.2.2]
  obtain ⟨M, hM⟩ : ∃ M, M = m.b.length := ⟨_, rfl⟩
  rw [← hM] at hw1 y3 ⊢
  clear h h1 hi0 hi zp b1 B1 hT hL hM hk hw hVw hN hl
  go_enter Tryd.func14, Tryd.ntmps14
  go_wp2_with fail
  rw [← hw1]
  clear hw1
  go_wp2_with (go_at_call 19; (with_reducible refine zp1.mono ?_); (rintro e w2 ⟨rfl, rfl⟩))
  go_ret
  exact ⟨rfl, FIN.out⟩
end
end Go.Proofs.YtfopjilncfndnaaDoor
