/-
  SessionOnce: arrives. Conditions: none.
-/
import Derived.Test.YtfopjilncfndnaaDoorSsOnceSend
import Derived.Test.YtfopjilncfndnaaDoorRegPhase
namespace Go.Proofs.YtfopjilncfndnaaDoor
open Go.RowKit Fix

/-- the pair between two moves, of whose sessions more is known -/
structure PrE (w0 w : World) (q a b : Nat) (V : Nat → Value) (T : Nat → List (List UInt8)) (D : Nat → Nat → Bool) (X : Nat → List Tx) (L : List Lt) (E : Nat → Ss.S → Prop) : Prop where
  pm : Pm w0 w q a b (fun s => SideI T D 0 s ∧ E 0 s) (fun s => SideI T D 1 s ∧ E 1 s) V (prN T X L) (prX T D X L)
  lts : ∀ m ∈ L, LtOk a b q V w T D m
  txs : ∀ i, i < 2 → (X i).map (·.l) = T i ∧ ∀ t ∈ X i, TxOk a b q V w t
  shp : ∀ i, i < 2 → ∀ n t, (T i)[n]? = some t → Shp n t
theorem Pm.weak {w0 w : World} {q a b : Nat} {Pa Pb Qa Qb : Ss.S → Prop} {V : Nat → Value} {n : Nat → Nat} {xs : Nat → List Value} (h : Pm w0 w q a b Pa Pb V n xs) (ha : ∀ s, Pa s → Qa s) (hb : ∀ s, Pb s → Qb s) : Pm w0 w q a b Qa Qb V n xs :=
  ⟨h.bt.weak ha hb, h.blk, h.apart, h.offq, h.rows⟩
section
variable {w0 w w' : World} {q a b : Nat} {V : Nat → Value} {T : Nat → List (List UInt8)} {D : Nat → Nat → Bool} {X : Nat → List Tx} {L : List Lt} {E : Nat → Ss.S → Prop}
theorem Pr.e (h : Pr w0 w q a b V T D X L) : PrE w0 w q a b V T D X L (fun _ _ => True) := ⟨h.pm.weak (fun _ k => ⟨k, trivial⟩) (fun _ k => ⟨k, trivial⟩), h.lts, h.txs, h.shp⟩
theorem PrE.pr (h : PrE w0 w q a b V T D X L E) : Pr w0 w q a b V T D X L := ⟨h.pm.weak (fun _ k => k.1) (fun _ k => k.1), h.lts, h.txs, h.shp⟩
theorem PrE.bti (h : PrE w0 w q a b V T D X L E) {i : Nat} (hi : i < 2) : BtI w0 w a b i (fun s => SideI T D i s ∧ E i s) (fun s => SideI T D (1 - i) s ∧ E (1 - i) s) (Wp q V) := bti_of (P := fun i s => SideI T D i s ∧ E i s) hi h.pm.bt
theorem PrE.step (h : PrE w0 w q a b V T D X L E) (B : Below w.heap.size w w') : PrE w0 w' q a b V T D X L E :=
  ⟨h.pm.step B, (h.pr.step B).lts, (h.pr.step B).txs, h.shp⟩
theorem LtOk.sess {m : Lt} (h : LtOk a b q V w T D m) (F : Frame (AB a b) w w') : LtOk a b q V w' T D m := ⟨h.dst, h.goes, h.ok, h.cap, h.far.sess F⟩
theorem TxOk.sess {t : Tx} (h : TxOk a b q V w t) (F : Frame (AB a b) w w') : TxOk a b q V w' t := ⟨h.cap, h.far.sess F⟩
/-- a datagram comes: what j has then -/
def ArTo (w0 : World) (q a b : Nat) (V : Nat → Value) (T : Nat → List (List UInt8)) (D : Nat → Nat → Bool) (X : Nat → List Tx) (L : List Lt) (E : Nat → Ss.S → Prop) (e : Ending) (w' : World) : Prop :=
  e = .returned (.bool true) ∧ ∃ D', PrE w0 w' q a b V T D' X L E ∧ ∀ k m, D k m = true → D' k m = true
theorem more_lt {D' : Nat → Nat → Bool} (hD : ∀ k m, D k m = true → D' k m = true) {m : Lt} (h : LtOk a b q V w T D m) : LtOk a b q V w T D' m := ⟨h.dst, h.goes.more fun _ e => hD _ _ e, h.ok, h.cap, h.far⟩
/-- nothing new came -/
theorem ar_old (h : PrE w0 w q a b V T D X L E) {E' : Nat → Ss.S → Prop} {j : Nat} (hj : j < 2) {Qb : Ss.S → Prop} (bt : Bt w0 w' (ab a b j) (ab a b (1 - j)) (fun s => SideI T D j s ∧ E' j s) Qb (Wp q V)) (hb : ∀ s, Qb s → SideI T D (1 - j) s ∧ E' (1 - j) s) (F : Frame (AB (ab a b j) (ab a b (1 - j))) w w') : PrE w0 w' q a b V T D X L E' := by
  have F2 := abi_frame hj F
  exact ⟨pm_ses h.pm hj (Q := fun i s => SideI T D i s ∧ E' i s) (bt.weak (fun _ h => h) hb) F, fun m hm => (h.lts m hm).sess F2, fun i hi => ⟨(h.txs i hi).1, fun t ht => ((h.txs i hi).2 t ht).sess F2⟩, h.shp⟩
theorem upC {n : Nat} {C : Nat → Bool} (D : Nat → Nat → Bool) (i N : Nat) (hC : C = fun m => D i (m + 1)) : (rdC n C).set N (.bool true) = rdC n fun m => On.upf D i (On.tell (D i) (N + 1)) i (m + 1) := by
  rw [rdC_set]
  congr 1
  funext m
  rw [On.upf_at]
  unfold upd On.tell
  by_cases e : m = N
  · rw [if_pos e, if_pos (by omega)]
  · rw [if_neg e, if_neg (by omega), hC]
theorem ltb (w : World) (m : Lt) : BlkR 86 (w.alloc (.cells #[.int .i64 (m.dst : Int), .slice m.A (m.d.pay.length + 41) m.c] 86)) w.heap.size (ltC m) := BlkR.new w (ltC m) _
/-- the very session of j -/
theorem pin {Wy : Nat → Prop} {x y : Nat} {Pa Pb : Ss.S → Prop} (h : Bt w0 w x y Pa Pb Wy) : ∃ s, Pa s ∧ Bt w0 w x y (fun t => t = s) Pb Wy := by
  obtain ⟨Fa, Fb, sa, sb, T, h1, h2, h3⟩ := h
  exact ⟨sa, h1, ⟨Fa, Fb, sa, sb, T, rfl, h2, h3⟩⟩
set_option maxRecDepth 100000 in
set_option maxHeartbeats 4000000 in
/-- nothing new comes -/
theorem ar_no (h : PrE w0 w q a b V T D X L E) {E' : Nat → Ss.S → Prop} (m : Lt) (hm : LtOk a b q V w T D m) (hE : ∀ s, SideI T D m.dst s → E m.dst s → E' m.dst (s.recv m.d)) (hE2 : ∀ s, E (1 - m.dst) s → E' (1 - m.dst) s) (s : Ss.S) (hs : SideI T D m.dst s ∧ E m.dst s) (hnw : s.news m.d = false)
    (bt : Bt w0 w (ab a b m.dst) (ab a b (1 - m.dst)) (fun t => t = s) (fun s => SideI T D (1 - m.dst) s ∧ E (1 - m.dst) s) (Wp q V)) :
    Calls Tryd.prog 34 #[.pointer (some ⟨q, 0, none⟩), .agg #[.int .i64 (m.dst : Int), .slice m.A (m.d.pay.length + 41) m.c]] w (ArTo w0 q a b V T D X L E') := by
  have hj := hm.dst
  obtain ⟨w1, hw1⟩ : ∃ w1, w1 = w.alloc (.cells #[.int .i64 (m.dst : Int), .slice m.A (m.d.pay.length + 41) m.c] 86) := ⟨_, rfl⟩
  have b1 : BlkR 86 w1 w.heap.size (ltC m) := by rw [hw1]; exact ltb w m
  have B1 : Below w.heap.size w w1 := by rw [hw1]; exact step_alloc (Below.refl _ w) _
  obtain ⟨wd, hwd⟩ : ∃ wd, wd = { w1 with drawn := w1.drawn + 1 } := ⟨_, rfl⟩
  have BD : Below w.heap.size w wd := by rw [hwd]; exact B1.drew
  have bd : BlkR 86 wd w.heap.size (ltC m) := by rw [hwd]; exact b1
  have y0 := bd.cell (k := 0) rfl
  have y1 := bd.cell (k := 1) rfl
  have y2 := (h.step BD).pm.ses hj
  have hd := On.Side.recv (i := m.dst) (j := 1 - m.dst) hs.1 (by omega) hm.goes
  have et : On.told D (1 - m.dst) s m.d = D := by unfold On.told; rw [hnw]; exact if_neg (by decide)
  have z := bt_recv (bt.step BD) (Qa := fun t => SideI T D m.dst t ∧ E' m.dst t) m.A m.d (m.d.pay.length + 41) m.c false rfl hm.cap hm.ok (abi_txt hj (hm.far.step BD).txt) fun t e => by
    subst e
    exact ⟨hnw, by have := hd.2.1; rw [et] at this; exact this, hE _ hs.1 hs.2⟩
  rw [if_neg (by decide), List.length_nil] at z
  have POST := Lib.hid (fun w' (bt' : Bt w0 w' (ab a b m.dst) (ab a b (1 - m.dst)) (fun t => SideI T D m.dst t ∧ E' m.dst t) (fun s => SideI T D (1 - m.dst) s ∧ E (1 - m.dst) s) (Wp q V)) (F : Frame (AB (ab a b m.dst) (ab a b (1 - m.dst))) wd w') => ar_old (h.step BD) hj bt' (fun s k => ⟨k.1, hE2 s k.2⟩) F)
  have hlow := h.pm.low
  have BOX : Hid (∀ w', Frame (AB (ab a b m.dst) (ab a b (1 - m.dst))) wd w' → Pm w0 w' q a b (fun s => SideI T D 0 s ∧ E' 0 s) (fun s => SideI T D 1 s ∧ E' 1 s) V (prN T X L) (prX T D X L) → w'.cell? ⟨w.heap.size, 0, none⟩ = some (.int .i64 (m.dst : Int)) ∧ w'.cell? ⟨w.heap.size, 1, none⟩ = some (.slice m.A (m.d.pay.length + 41) m.c) ∧ w'.cell? ⟨q, m.dst, none⟩ = some (.pointer (some ⟨ab a b m.dst, 0, none⟩))) := Lib.hid fun w' F P => by
    have bx : BlkR 86 w' w.heap.size (ltC m) := ((abi_frame hj F).block _ bd.lt fun e => by rcases e with e | e <;> omega).trans bd
    exact ⟨bx.cell rfl, bx.cell rfl, P.ses hj⟩
  obtain ⟨j, hj0⟩ : ∃ j, j = m.dst := ⟨_, rfl⟩
  obtain ⟨n, hn⟩ : ∃ n, n = m.d.pay.length + 41 := ⟨_, rfl⟩
  rw [← hj0] at hw1 y0 y2 z POST hj BOX ⊢
  rw [← hn] at hw1 y1 z BOX ⊢
  have hj2 : (j : Int) < 2 := by omega
  clear h hm hE hE2 hs hnw bt b1 B1 BD bd hd et hj0 hn hlow
  go_enter Tryd.func34, Tryd.ntmps34
  go_wp2
  rw [← hw1]
  clear hw1
  refine wp_region_held_drew (S := fun w' => w'.cell? ⟨w.heap.size, 0, none⟩ = some (.int .i64 (j : Int)) ∧ w'.cell? ⟨w.heap.size, 1, none⟩ = some (.slice m.A n m.c) ∧ w'.cell? ⟨q, j, none⟩ = some (.pointer (some ⟨ab a b j, 0, none⟩))) (by kernel_rfl) (by rw [show w1.drew = wd from hwd.symm]; exact ⟨y0, y1, y2⟩) (fun hHeld => ?_)
  rw [show w1.drew = wd from hwd.symm] at hHeld ⊢
  clear hwd
  refine wpAnyH_take (i := 0) (v := ?_) rfl (by kernel_rfl) (by kernel_rfl) (by kernel_rfl) (fun _ _ _ h => h) (Or.inl ⟨by rfl, ?_⟩) (by assumption) ?_
  rotate_left
  · intro w hSw
    obtain ⟨s0, s1, s2⟩ := hSw
    go_simp <;> with_reducible rfl
  refine wpAnyH_take (i := 1) (v := ?_) rfl (by kernel_rfl) (by kernel_rfl) (by kernel_rfl) (fun _ _ _ h => h) (Or.inl ⟨by rfl, ?_⟩) (by assumption) ?_
  rotate_left
  · intro w hSw
    obtain ⟨s0, s1, s2⟩ := hSw
    go_simp <;> with_reducible rfl
  refine wpAnyH_take (i := 2) (v := ?_) rfl (by kernel_rfl) (by kernel_rfl) (by kernel_rfl) (fun _ _ _ h => h) (Or.inl ⟨by rfl, ?_⟩) (by assumption) ?_
  rotate_left
  · intro w hSw
    obtain ⟨s0, s1, s2⟩ := hSw
    go_simp <;> with_reducible rfl
  refine wpAnyH_take (i := 3) (v := ?_) rfl (by kernel_rfl) (by kernel_rfl) (by kernel_rfl) (fun _ _ _ h => h) (Or.inl ⟨by rfl, ?_⟩) (by assumption) ?_
  rotate_left
  · intro w hSw
    obtain ⟨s0, s1, s2⟩ := hSw
    go_simp <;> with_reducible rfl
  refine wpAnyH_take (i := 4) (v := ?_) rfl (by kernel_rfl) (by kernel_rfl) (by kernel_rfl) (fun _ _ _ h => h) (Or.inl ⟨by rfl, ?_⟩) (by assumption) ?_
  rotate_left
  · intro w hSw
    obtain ⟨s0, s1, s2⟩ := hSw
    go_simp <;> with_reducible rfl
  refine wpAnyH_take (i := 5) (v := ?_) rfl (by kernel_rfl) (by kernel_rfl) (by kernel_rfl) (fun _ _ _ h => h) (Or.inl ⟨by rfl, ?_⟩) (by assumption) ?_
  rotate_left
  · intro w hSw
    obtain ⟨s0, s1, s2⟩ := hSw
    go_simp <;> with_reducible rfl
  refine wpAnyH_take (i := 6) (v := ?_) rfl (by kernel_rfl) (by kernel_rfl) (by kernel_rfl) (fun _ _ _ h => h) (Or.inl ⟨by rfl, ?_⟩) (by assumption) ?_
  rotate_left
  · intro w hSw
    obtain ⟨s0, s1, s2⟩ := hSw
    go_simp <;> with_reducible rfl
  refine wpAnyH_take (i := 7) (v := ?_) rfl (by kernel_rfl) (by kernel_rfl) (by kernel_rfl) (fun _ _ _ h => h) (Or.inl ⟨by rfl, ?_⟩) (by assumption) ?_
  rotate_left
  · intro w hSw
    obtain ⟨s0, s1, s2⟩ := hSw
    go_simp <;> with_reducible rfl
  refine wpAnyH_take (i := 8) (v := ?_) rfl (by kernel_rfl) (by kernel_rfl) (by kernel_rfl) (fun _ _ _ h => h) (Or.inl ⟨by rfl, ?_⟩) (by assumption) ?_
  rotate_left
  · intro w hSw
    obtain ⟨s0, s1, s2⟩ := hSw
    go_simp <;> with_reducible rfl
  simp only [Act.put, List.setIfInBounds_toArray]
  refine wpAnyH_ready (rs := [9]) (by kernel_rfl) (by simp) (AllReadyH.cons rfl (fun K hK => ?_) AllReadyH.nil)
  go_simp
  (go_at_call 38; (with_reducible refine z.mono ?_); (rintro e w3 ⟨A3, c3, rfl, k1, _, _, k4⟩))
  dsimp only
  have R := POST.out w3 k1 k4
  have SS : ∀ N, (w3.drewN N).cell? ⟨w.heap.size, 0, none⟩ = some (.int .i64 (j : Int)) ∧ (w3.drewN N).cell? ⟨w.heap.size, 1, none⟩ = some (.slice m.A n m.c) ∧ (w3.drewN N).cell? ⟨q, j, none⟩ = some (.pointer (some ⟨ab a b j, 0, none⟩)) := fun N => BOX.out _ (k4.trans (Frame.of_below (F := AB (ab a b j) (ab a b (1 - j))) (belowN (Below.refl _ w3) N)) fun _ e => .inl e) (R.step (belowN (Below.refl _ w3) N)).pm
  refine hK.out _ _ (SS 0) (fun hHeld => ?_)
  have R := Lib.hid R
  have SS := Lib.hid SS
  clear hHeld hK K z k1 k4
  refine wpAnyH_rest 10 rfl (by kernel_rfl) (by kernel_rfl) SS.out ?_
  simp only [List.drop_succ_cons, List.drop_zero]
  repeat (go_big_quiet_step (fail))
  refine wpQuiet_nil ?_
  intro _ hw'
  obtain ⟨nq, hw''⟩ := hw'
  subst hw''
  go_wp2
  go_ret
  exact ⟨rfl, D, R.out.step (belowN (Below.refl _ w3) nq), fun _ _ e => e⟩
/-- what is told is noted -/
theorem ar_note {D' : Nat → Nat → Bool} {i N g : Nat} {At : Option Addr} {ct TN : Nat} (hi : i < 2) (hD' : D' = On.upf D i (On.tell (D i) (N + 1))) (hTN : TN = (T i).length) (hV : V (5 + i) = .slice At TN ct) (hg : At = some ⟨g, 0, none⟩)
    (pm : Pm w0 w q a b (fun s => SideI T D' 0 s ∧ E 0 s) (fun s => SideI T D' 1 s ∧ E 1 s) V (prN T X L) (prX T D X L)) (lts : ∀ m ∈ L, LtOk a b q V w T D m) (txs : ∀ i, i < 2 → (X i).map (·.l) = T i ∧ ∀ t ∈ X i, TxOk a b q V w t) (shp : ∀ i, i < 2 → ∀ n t, (T i)[n]? = some t → Shp n t) :
    PrE w0 (w.setCell ⟨g, N, none⟩ (.bool true)) q a b V T D' X L E := by
  have hb : (V (5 + i)).ownBlock = some g := by rw [hV, hg]; rfl
  have hl : (rdC (T i).length fun m => D i (m + 1)).length = TN := by simp [rdC, hTN]
  have row := pm.rows (5 + i) (by omega) (by omega)
  rw [prN_t _ _ _ hi, prX_t _ _ _ _ hi, ← hTN, hV, hg] at row
  have own := (of_t hi row (by rw [hTN]; simp [rdC])).store N (.bool true)
  rw [hTN, upC D i N rfl, ← hD', ← hTN] at own
  have hdd : ∀ k m, D k m = true → D' k m = true := fun k m e => by
    rw [hD']
    unfold On.upf
    split
    · rename_i e2; subst e2; exact On.tell_le e
    · exact e
  have own2 := own_t hi own (N := TN) (by rw [hTN]; simp [rdC])
  have st := pm.store (5 + i) (by omega) g N (.bool true) hb (rdC TN fun m => D' i (m + 1)) (by rw [prN_t _ _ _ hi, ← hTN, hV, hg]; exact own2)
  refine ⟨st.congr fun k k2 k6 => ⟨rfl, ?_⟩, fun m hm => ?_, fun k hk => ⟨(txs k hk).1, fun t ht => ?_⟩, shp⟩
  · by_cases e : k = 5 + i
    · subst e
      rw [On.upf_at, prX_t _ _ _ _ hi, hTN]
    · rw [On.upf_ne _ _ e]
      by_cases e4 : k ≤ 4
      · unfold prX
        by_cases e2 : k = 2
        · rw [if_pos e2, if_pos e2]
        · rw [if_neg e2, if_neg e2, if_pos e4, if_pos e4]
      · have : k = 5 + (1 - i) := by omega
        rw [this, prX_t _ _ _ _ (by omega), prX_t _ _ _ _ (by omega)]
        rw [hD', On.upf_ne _ _ (show 1 - i ≠ i by omega)]
  · obtain ⟨g1, g2, g3, g4, g5⟩ := more_lt hdd (lts m hm)
    exact ⟨g1, g2, g3, g4, g5.store (5 + i) (by omega) g N _ hb⟩
  · obtain ⟨g1, g2⟩ := (txs k hk).2 t ht
    exact ⟨g1, g2.store (5 + i) (by omega) g N _ hb⟩
set_option maxRecDepth 100000 in
set_option maxHeartbeats 4000000 in
/-- a payload comes -/
theorem ar_yes (h : PrE w0 w q a b V T D X L E) {E' : Nat → Ss.S → Prop} (m : Lt) (hm : LtOk a b q V w T D m) (hT : ∀ i, i < 2 → (T i).length ≤ 100) (hE : ∀ s, SideI T D m.dst s → E m.dst s → E' m.dst (s.recv m.d)) (hE2 : ∀ s, E (1 - m.dst) s → E' (1 - m.dst) s) (s : Ss.S) (hs : SideI T D m.dst s ∧ E m.dst s) (hnw : s.news m.d = true)
    (bt : Bt w0 w (ab a b m.dst) (ab a b (1 - m.dst)) (fun t => t = s) (fun s => SideI T D (1 - m.dst) s ∧ E (1 - m.dst) s) (Wp q V)) :
    Calls Tryd.prog 34 #[.pointer (some ⟨q, 0, none⟩), .agg #[.int .i64 (m.dst : Int), .slice m.A (m.d.pay.length + 41) m.c]] w (ArTo w0 q a b V T D X L E') := by
  have hj := hm.dst
  obtain ⟨w1, hw1⟩ : ∃ w1, w1 = w.alloc (.cells #[.int .i64 (m.dst : Int), .slice m.A (m.d.pay.length + 41) m.c] 86) := ⟨_, rfl⟩
  have b1 : BlkR 86 w1 w.heap.size (ltC m) := by rw [hw1]; exact ltb w m
  have B1 : Below w.heap.size w w1 := by rw [hw1]; exact step_alloc (Below.refl _ w) _
  obtain ⟨wd, hwd⟩ : ∃ wd, wd = { w1 with drawn := w1.drawn + 1 } := ⟨_, rfl⟩
  have BD : Below w.heap.size w wd := by rw [hwd]; exact B1.drew
  have bd : BlkR 86 wd w.heap.size (ltC m) := by rw [hwd]; exact b1
  have y0 := bd.cell (k := 0) rfl
  have y1 := bd.cell (k := 1) rfl
  have y2 := (h.step BD).pm.ses hj
  obtain ⟨d1, d2, _⟩ := On.Side.recv (i := m.dst) (j := 1 - m.dst) hs.1 (by omega) hm.goes
  obtain ⟨e1, e2, e3, e4⟩ := d1 hnw
  obtain ⟨i, hi0⟩ : ∃ i, i = 1 - m.dst := ⟨_, rfl⟩
  have hi : i < 2 := by omega
  have hij : m.dst = 1 - i := by omega
  rw [← hi0] at e2 e3 e4
  obtain ⟨N, hN⟩ : ∃ N, m.d.num = N + 1 := ⟨m.d.num - 1, by omega⟩
  rw [hN, Nat.add_sub_cancel] at e4
  have e3' : D i (N + 1) = false := by rw [← hN]; exact e3
  obtain ⟨bb, hsh, _⟩ := h.shp i hi N _ e4
  obtain ⟨D', hD'⟩ : ∃ D', D' = On.upf D i (On.tell (D i) (N + 1)) := ⟨_, rfl⟩
  have et : On.told D (1 - m.dst) s m.d = D' := by unfold On.told; rw [hnw, if_pos rfl, hD', hi0, hN]
  rw [et] at d2
  have hdd : ∀ k m, D k m = true → D' k m = true := fun k m e => by
    rw [hD']
    unfold On.upf
    split
    · rename_i e2; subst e2; exact On.tell_le e
    · exact e
  have hT' := hT i hi
  have z := bt_recv (bt.step BD) (Qa := fun t => SideI T D' m.dst t ∧ E' m.dst t) m.A m.d (m.d.pay.length + 41) m.c true rfl hm.cap hm.ok (abi_txt hj (hm.far.step BD).txt) fun t e => by
    subst e
    exact ⟨hnw, d2, hE _ hs.1 hs.2⟩
  rw [if_pos rfl] at z
  have PM : Hid (∀ w' (bt' : Bt w0 w' (ab a b m.dst) (ab a b (1 - m.dst)) (fun t => SideI T D' m.dst t ∧ E' m.dst t) (fun s => SideI T D (1 - m.dst) s ∧ E (1 - m.dst) s) (Wp q V)) (F : Frame (AB (ab a b m.dst) (ab a b (1 - m.dst))) wd w'),
      Pm w0 w' q a b (fun s => SideI T D' 0 s ∧ E' 0 s) (fun s => SideI T D' 1 s ∧ E' 1 s) V (prN T X L) (prX T D X L) ∧ (∀ A l, FarB a b q V w A l → FarB a b q V w' A l) ∧ w'.cell? ⟨w.heap.size, 0, none⟩ = some (.int .i64 (m.dst : Int)) ∧ w'.cell? ⟨w.heap.size, 1, none⟩ = some (.slice m.A (m.d.pay.length + 41) m.c)) := Lib.hid fun w' bt' F => by
    have F2 := abi_frame hj F
    have hlow := h.pm.low
    have bx : BlkR 86 w' w.heap.size (ltC m) := (F2.block _ bd.lt fun e => by rcases e with e | e <;> omega).trans bd
    refine ⟨pm_ses (h.step BD).pm hj (Q := fun i s => SideI T D' i s ∧ E' i s) (Bt.weak bt' (fun _ h => h) fun s k => ⟨?_, hE2 s k.2⟩) F, fun A l hA => (hA.step BD).sess F2, bx.cell rfl, bx.cell rfl⟩
    have k1 : On.Side T D (1 - m.dst) (1 - (1 - m.dst)) s := k.1
    exact On.Side.more k1 (by rw [hD']; exact On.upf_ne _ _ (by omega)) fun k e => hdd _ _ e
  -- the rows of i
  obtain ⟨As, cs, hVs, _⟩ := (h.pr.snt hi).form
  rw [List.length_map, h.pr.xlen hi] at hVs
  obtain ⟨At, ct, hVt, _⟩ := (h.pr.tld hi).form
  rw [show (rdC (T i).length fun m => D i (m + 1)).length = (T i).length by simp [rdC]] at hVt
  obtain ⟨t0, ht0⟩ : ∃ t0, (X i)[N]? = some t0 := ⟨_, List.getElem?_eq_getElem (by rw [h.pr.xlen hi]; omega)⟩
  have ht1 : t0.l = m.d.pay := by
    have := (h.txs i hi).1
    rw [← this, List.getElem?_map, ht0] at e4
    simpa using e4
  have hx0 := ((h.txs i hi).2 t0 (List.mem_of_getElem? ht0)).far
  obtain ⟨TN, hTN⟩ : ∃ TN, TN = (T i).length := ⟨_, rfl⟩
  rw [← hTN] at hVs hVt e2 hT'
  have os := h.pr.snt hi
  rw [hVs] at os
  obtain ⟨gs, hgs, -⟩ := os.at_g (by rw [List.length_map, h.pr.xlen hi]; omega)
  have ot := h.pr.tld hi
  rw [hVt] at ot
  obtain ⟨gt, hgt, -⟩ := ot.at_g (by simp [rdC]; omega)
  obtain ⟨pl, hpl⟩ : ∃ pl, pl = m.d.pay.length := ⟨_, rfl⟩
  have RC : Hid (∀ w' Pa Pb, Pm w0 w' q a b Pa Pb V (prN T X L) (prX T D X L) → w'.cell? ⟨q, 3 + i, none⟩ = some (.slice (some ⟨gs, 0, none⟩) TN cs) ∧ w'.cell? ⟨q, 5 + i, none⟩ = some (.slice (some ⟨gt, 0, none⟩) TN ct) ∧
      w'.cell? ⟨gs, N, none⟩ = some (.slice t0.A pl t0.c) ∧ w'.cell? ⟨gt, N, none⟩ = some (.bool false) ∧ w'.frozen? ⟨gt, N, none⟩ = false) := Lib.hid fun w' Pa Pb P => by
    have r3 := P.rows (3 + i) (by omega) (by omega)
    rw [prN_s _ _ _ hi, prX_s _ _ _ _ hi, hVs, h.pr.xlen hi, hgs] at r3
    have r3 := of_s hi r3 (by rw [List.length_map, h.pr.xlen hi])
    have r5 := P.rows (5 + i) (by omega) (by omega)
    rw [prN_t _ _ _ hi, prX_t _ _ _ _ hi, hVt, hgt] at r5
    have r5 := of_t hi r5 (by simp [rdC])
    refine ⟨by rw [← hgs, ← hVs]; exact P.row (by omega) (by omega), by rw [← hgt, ← hVt]; exact P.row (by omega) (by omega), r3.cell ?_, r5.cell ?_, r5.frozen N⟩
    · rw [List.getElem?_map, ht0]
      show some (txC t0) = _
      rw [txC, ht1, hpl]
    · rw [rdC_get _ (by omega), e3']
  have hlt : m.d.pay.length ≤ 160 := hm.ok.pay160
  have hp2 : 2 ≤ pl := by rw [hpl, hsh]; simp
  have zs := fun (A3 : Option Addr) (c3 : Nat) (wx : World) (g1 : BytesAt wx wx.heap.size A3 m.d.pay) (g2 : BytesAt wx wx.heap.size t0.A t0.l) => same_yes A3 m.d.pay pl c3 hpl.symm t0.A t0.l pl t0.c (by rw [ht1, hpl]) wx g1 g2 (by rw [ht1])
  -- the first two bytes
  have TWO : Hid (∀ (A3 : Option Addr) (wx : World), BytesAt wx wx.heap.size A3 m.d.pay → ∃ ad, A3 = some ad ∧ wx.cell? ad = some (.int .u8 (N : Int)) ∧ wx.cell? ⟨ad.block, ad.off + 1, none⟩ = some (.int .u8 0)) := Lib.hid fun A3 wx g => by
    obtain ⟨ad, e, _, hc⟩ := g (by rw [hsh]; simp)
    have g0 := hc 0 (by rw [hsh]; simp)
    have g1 := hc 1 (by rw [hsh]; simp)
    rw [hsh] at g0 g1
    have hn8 : (UInt8.ofNat N).toNat = N := by rw [UInt8.toNat_ofNat']; omega
    refine ⟨ad, e, ?_, ?_⟩
    · have e0 : ad.add 0 = ad := by simp [Addr.add]
      rw [e0] at g0
      rw [g0]
      show some (Value.int .u8 ((UInt8.ofNat N).toNat : Int)) = _
      rw [hn8]
    · exact g1
  have FIN : Hid (∀ wz, Pm w0 wz q a b (fun s => SideI T D' 0 s ∧ E' 0 s) (fun s => SideI T D' 1 s ∧ E' 1 s) V (prN T X L) (prX T D X L) → (∀ A l, FarB a b q V w A l → FarB a b q V wz A l) → PrE w0 (wz.setCell ⟨gt, N, none⟩ (.bool true)) q a b V T D' X L E') := Lib.hid fun wz P F =>
    ar_note hi hD' hTN hVt hgt P (fun m hm => by obtain ⟨g1, g2, g3, g4, g5⟩ := h.lts m hm; exact ⟨g1, g2, g3, g4, F _ _ g5⟩) (fun k hk => ⟨(h.txs k hk).1, fun t ht => by obtain ⟨g1, g2⟩ := (h.txs k hk).2 t ht; exact ⟨g1, F _ _ g2⟩⟩) h.shp
  have HDD := Lib.hid hdd
  have HX0 := Lib.hid hx0
  have hi2 : (i : Int) < 2 := by omega
  obtain ⟨j, hj0⟩ : ∃ j, j = m.dst := ⟨_, rfl⟩
  obtain ⟨n, hn⟩ : ∃ n, n = m.d.pay.length + 41 := ⟨_, rfl⟩
  have hwj : IntKind.i64.wrap (1 - (j : Int)) = (i : Int) := by rw [IntWalk.i64_in _ (by omega)]; omega
  have hwm : IntKind.i64.wrap ((N : Int) + 0) = (N : Int) := by rw [IntWalk.i64_in _ (by omega)]; omega
  have hwN : IntKind.i64.wrap (N : Int) = (N : Int) := IntWalk.i64_in _ (by omega)
  have l2 : ¬ (pl : Int) < 2 := by omega
  have lN : ¬ (TN : Int) ≤ (N : Int) := by omega
  have lN2 : (N : Int) < (TN : Int) := by omega
  have hN8 : (N : Int) < 256 := by omega
  rw [← hj0] at hw1 y0 y2 z PM hj ⊢
  rw [← hn] at hw1 y1 z PM ⊢
  rw [← hpl] at z
  have hj2 : (j : Int) < 2 := by omega
  obtain ⟨pay, hpay⟩ : ∃ pay, pay = m.d.pay := ⟨_, rfl⟩
  rw [← hpay] at z zs TWO
  clear h hm hT hE hE2 hs hnw bt b1 B1 BD bd d2 d1 e1 e2 e3 e4 e3' hi0 hij hN hsh hD' et hdd hVs hVt ht0 ht1 hx0 hTN os hgs ot hgt hpl hlt hT' hj0 hn hpay
  go_enter Tryd.func34, Tryd.ntmps34
  go_wp2
  rw [← hw1]
  clear hw1
  refine wp_region_held_drew (S := fun w' => w'.cell? ⟨w.heap.size, 0, none⟩ = some (.int .i64 (j : Int)) ∧ w'.cell? ⟨w.heap.size, 1, none⟩ = some (.slice m.A n m.c) ∧ w'.cell? ⟨q, j, none⟩ = some (.pointer (some ⟨ab a b j, 0, none⟩))) (by kernel_rfl) (by rw [show w1.drew = wd from hwd.symm]; exact ⟨y0, y1, y2⟩) (fun hHeld => ?_)
  rw [show w1.drew = wd from hwd.symm] at hHeld ⊢
  clear hwd
  refine wpAnyH_take (i := 0) (v := ?_) rfl (by kernel_rfl) (by kernel_rfl) (by kernel_rfl) (fun _ _ _ h => h) (Or.inl ⟨by rfl, ?_⟩) (by assumption) ?_
  rotate_left
  · intro w hSw
    obtain ⟨s0, s1, s2⟩ := hSw
    go_simp <;> with_reducible rfl
  refine wpAnyH_take (i := 1) (v := ?_) rfl (by kernel_rfl) (by kernel_rfl) (by kernel_rfl) (fun _ _ _ h => h) (Or.inl ⟨by rfl, ?_⟩) (by assumption) ?_
  rotate_left
  · intro w hSw
    obtain ⟨s0, s1, s2⟩ := hSw
    go_simp <;> with_reducible rfl
  refine wpAnyH_take (i := 2) (v := ?_) rfl (by kernel_rfl) (by kernel_rfl) (by kernel_rfl) (fun _ _ _ h => h) (Or.inl ⟨by rfl, ?_⟩) (by assumption) ?_
  rotate_left
  · intro w hSw
    obtain ⟨s0, s1, s2⟩ := hSw
    go_simp <;> with_reducible rfl
  refine wpAnyH_take (i := 3) (v := ?_) rfl (by kernel_rfl) (by kernel_rfl) (by kernel_rfl) (fun _ _ _ h => h) (Or.inl ⟨by rfl, ?_⟩) (by assumption) ?_
  rotate_left
  · intro w hSw
    obtain ⟨s0, s1, s2⟩ := hSw
    go_simp <;> with_reducible rfl
  refine wpAnyH_take (i := 4) (v := ?_) rfl (by kernel_rfl) (by kernel_rfl) (by kernel_rfl) (fun _ _ _ h => h) (Or.inl ⟨by rfl, ?_⟩) (by assumption) ?_
  rotate_left
  · intro w hSw
    obtain ⟨s0, s1, s2⟩ := hSw
    go_simp <;> with_reducible rfl
  refine wpAnyH_take (i := 5) (v := ?_) rfl (by kernel_rfl) (by kernel_rfl) (by kernel_rfl) (fun _ _ _ h => h) (Or.inl ⟨by rfl, ?_⟩) (by assumption) ?_
  rotate_left
  · intro w hSw
    obtain ⟨s0, s1, s2⟩ := hSw
    go_simp <;> with_reducible rfl
  refine wpAnyH_take (i := 6) (v := ?_) rfl (by kernel_rfl) (by kernel_rfl) (by kernel_rfl) (fun _ _ _ h => h) (Or.inl ⟨by rfl, ?_⟩) (by assumption) ?_
  rotate_left
  · intro w hSw
    obtain ⟨s0, s1, s2⟩ := hSw
    go_simp <;> with_reducible rfl
  refine wpAnyH_take (i := 7) (v := ?_) rfl (by kernel_rfl) (by kernel_rfl) (by kernel_rfl) (fun _ _ _ h => h) (Or.inl ⟨by rfl, ?_⟩) (by assumption) ?_
  rotate_left
  · intro w hSw
    obtain ⟨s0, s1, s2⟩ := hSw
    go_simp <;> with_reducible rfl
  refine wpAnyH_take (i := 8) (v := ?_) rfl (by kernel_rfl) (by kernel_rfl) (by kernel_rfl) (fun _ _ _ h => h) (Or.inl ⟨by rfl, ?_⟩) (by assumption) ?_
  rotate_left
  · intro w hSw
    obtain ⟨s0, s1, s2⟩ := hSw
    go_simp <;> with_reducible rfl
  simp only [Act.put, List.setIfInBounds_toArray]
  refine wpAnyH_ready (rs := [9]) (by kernel_rfl) (by simp) (AllReadyH.cons rfl (fun K hK => ?_) AllReadyH.nil)
  go_simp
  (go_at_call 38; (with_reducible refine z.mono ?_); (rintro e w3 ⟨A3, c3, rfl, k1, k2, _, k4⟩))
  dsimp only
  obtain ⟨P3, F3, b30, b31⟩ := PM.out w3 k1 k4
  refine hK.out _ _ ⟨b30, b31, P3.ses hj⟩ (fun hHeld => ?_)
  have SS : Hid (∀ N', (w3.drewN N').cell? ⟨w.heap.size, 0, none⟩ = some (.int .i64 (j : Int)) ∧ (w3.drewN N').cell? ⟨w.heap.size, 1, none⟩ = some (.slice m.A n m.c) ∧ (w3.drewN N').cell? ⟨q, j, none⟩ = some (.pointer (some ⟨ab a b j, 0, none⟩))) := Lib.hid fun N' => ⟨b30, b31, P3.ses hj⟩
  have R3 := Lib.hid (And.intro P3 (And.intro F3 k2.at_))
  have B30 := Lib.hid b30
  clear hHeld hK K z k1 k2 k4 P3 F3 b30 b31 y0 y1 y2 PM
  refine wpAnyH_rest 10 rfl (by kernel_rfl) (by kernel_rfl) SS.out ?_
  simp only [List.drop_succ_cons, List.drop_zero]
  repeat (go_big_quiet_step (fail))
  refine wpQuiet_nil ?_
  intro _ hw'
  obtain ⟨nq, hw''⟩ := hw'
  subst hw''
  clear SS
  obtain ⟨we, hwe⟩ : ∃ we, we = w3.drewN nq := ⟨_, rfl⟩
  have BE : Below w3.heap.size w3 we := by rw [hwe]; exact belowN (Below.refl _ w3) nq
  obtain ⟨P3, F3, g3⟩ := R3.out
  have Pe := P3.step BE
  have ge := g3.step BE
  obtain ⟨ad3, rfl, u0, u1⟩ := TWO.out _ we ge
  have u2 : we.cell? ⟨w.heap.size, 0, none⟩ = some (.int .i64 (j : Int)) := by rw [hwe]; exact B30.out
  have RE := Lib.hid (And.intro Pe (And.intro (fun A l (hA : FarB a b q V w A l) => (F3 A l hA).step BE) ge))
  rw [← hwe]
  clear hwe BE P3 F3 g3 Pe ge R3 B30
  go_wp2
  go_quiet (fail)
  obtain ⟨wf, hwf⟩ : ∃ wf, wf = we.drewN nq := ⟨_, rfl⟩
  have BF : Below we.heap.size we wf := by rw [hwf]; exact belowN (Below.refl _ we) nq
  rw [← hwf]
  obtain ⟨Pe, Fe, ge⟩ := RE.out
  have Pf := Pe.step BF
  have Ff : ∀ A l, FarB a b q V w A l → FarB a b q V wf A l := fun A l hA => (Fe A l hA).step BF
  have zs1 := zs (some ad3) c3 wf (ge.step BF) (Ff _ _ HX0.out).at_
  obtain ⟨v1, v2, v3, v4, v5⟩ := RC.out wf _ _ Pf
  have RF := Lib.hid (FIN.out wf Pf Ff)
  clear hwf BF Pe Fe ge Pf Ff RE u0 u1 u2 zs
  go_wp2_with (go_at_call 39; (with_reducible refine zs1.mono ?_); (rintro e w9 ⟨rfl, rfl⟩))
  go_ret
  exact ⟨rfl, D', RF.out, HDD.out⟩
/-- whatever comes -/
theorem pr_arrives (h : PrE w0 w q a b V T D X L E) {E' : Nat → Ss.S → Prop} (m : Lt) (hm : LtOk a b q V w T D m) (hT : ∀ i, i < 2 → (T i).length ≤ 100) (hE : ∀ s, SideI T D m.dst s → E m.dst s → E' m.dst (s.recv m.d)) (hE2 : ∀ s, E (1 - m.dst) s → E' (1 - m.dst) s) :
    Calls Tryd.prog 34 #[.pointer (some ⟨q, 0, none⟩), .agg #[.int .i64 (m.dst : Int), .slice m.A (m.d.pay.length + 41) m.c]] w (ArTo w0 q a b V T D X L E') := by
  obtain ⟨s, hs, bt⟩ := pin (h.bti hm.dst)
  cases hnw : s.news m.d
  · exact ar_no h m hm hE hE2 s hs hnw bt
  · exact ar_yes h m hm hT hE hE2 s hs hnw bt
end
end Go.Proofs.YtfopjilncfndnaaDoor
