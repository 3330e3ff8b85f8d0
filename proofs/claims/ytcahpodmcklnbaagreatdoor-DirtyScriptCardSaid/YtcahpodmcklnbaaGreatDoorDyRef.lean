/-
  The document's own map of dirty blocks (tandemref10), over the document's own disk. Conditions: at most so many changes.
-/
import Derived.Test.YtcahpodmcklnbaaGreatDoorSlotSave
import Derived.Test.YtcahpodmcklnbaaGreatDoorFixRef
import Derived.Test.YtcahpodmcklnbaaGreatDoorDyProg
namespace Go.Proofs.YtcahpodmcklnbaaGreatDoor
open Go.RowKit Fix

/-- the document's map: its disk at block c, its place, its set -/
def rfL (c : Nat) (p : Int) (s : Nat) : List Value := [.pointer (some ⟨c, 0, none⟩), .int .i64 p, .int .u64 (s : Int)]
structure RfAt (w : World) (h c : Nat) (p : Int) (s : Nat) : Prop where
  blk : BlkR 56 w h (rfL c p s)
  lt : s < 2 ^ 64
section
variable {w w' : World} {h c s : Nat} {p : Int}
theorem RfAt.step (r : RfAt w h c p s) (hb : Below w.heap.size w w') : RfAt w' h c p s := ⟨r.blk.step hb, r.lt⟩
theorem RfAt.frame {F : Nat → Prop} (r : RfAt w h c p s) (hF : Frame F w w') (hg : ¬ F h) : RfAt w' h c p s := ⟨r.blk.frame hF hg, r.lt⟩
theorem RfAt.cells (r : RfAt w h c p s) : w.cell? ⟨h, 0, none⟩ = some (.pointer (some ⟨c, 0, none⟩)) ∧ w.cell? ⟨h, 1, none⟩ = some (.int .i64 p) ∧ w.cell? ⟨h, 2, none⟩ = some (.int .u64 (s : Int)) ∧ w.frozen? ⟨h, 2, none⟩ = false :=
  ⟨r.blk.cell rfl, r.blk.cell rfl, r.blk.cell rfl, r.blk.frozen 2⟩
theorem RfAt.set_ (r : RfAt w h c p s) {n : Nat} (hn : n < 2 ^ 64) : RfAt (w.setCell ⟨h, 2, none⟩ (.int .u64 (n : Int))) h c p n := ⟨r.blk.set_ 2 _, hn⟩
end
/-- what becomes of the document's disk, and of its map -/
def RfPost (c : Nat) (G : Nat → Prop) (h : Nat) (p : Int) (T : DS × Int) (n : Nat) (w : World) (e : Ending) (w' : World) : Prop :=
  ∃ G', e = .returned (.int .i64 T.2) ∧ Mir w' c G' T.1 ∧ RfAt w' h c p n ∧ ¬ G' h ∧ (∀ k, G' k → G k ∨ w.heap.size ≤ k) ∧ Frame (fun k => G k ∨ k = h) w w'
theorem mirBeside {w w' : World} {c h : Nat} {G : Nat → Prop} {S : DS} (m : Mir w c G S) (fr : Frame (fun k => k = h) w w') (hg : ¬ G h) : Mir w' c G S := m.frame fr fun _ hk e => hg (e ▸ hk)
set_option maxRecDepth 100000 in
theorem mMake_any (w : World) (c : Nat) (G : Nat → Prop) (S : DS) (i : Int) (m : Mir w c G S) (ho : S.ops ≤ 990000) :
    Calls Tryz.prog 12 #[.pointer (some ⟨c, 0, none⟩), .int .i64 i] w (ChgPost Mir c G (Slot.save S i (Dy.enc 0)) w) := by
  have zl := refLong_any 0 (by decide) w
  have zs := fun w1 A k h r => mSave w1 c G S i A (Dy.enc 0) 8 k (Dy.enc_length 0) h r ho
  unfold ChgPost at zs ⊢
  unfold RefPost at zl
  obtain ⟨T, hT⟩ : ∃ T, T = Slot.save S i (Dy.enc 0) := ⟨_, rfl⟩
  rw [← hT] at zs ⊢
  have HM := Lib.hid m
  clear hT m
  go_enter Tryz.func12, Tryz.ntmps12
  go_wp2_with (first
    | (go_at_call 28; refine zl.mono ?_; (rintro e w1 ⟨A, k, rfl, hk, o1, B1⟩; have m1 := HM.out.step B1; have r1 := o1.bytes))
    | (go_at_call 14; refine (zs w1 A k m1 r1).mono ?_; (rintro e w2 ⟨G2, rfl, m2, hG2, fr2⟩)))
  go_ret
  exact ⟨G2, rfl, m2, fun k hk => (hG2 k hk).imp id fun x => Nat.le_trans B1.size x, (Frame.of_below (F := G) B1).trans fr2 fun _ hk => .inl hk⟩
set_option maxRecDepth 100000 in
set_option maxHeartbeats 1000000 in
theorem mMapSave_any (w : World) (c : Nat) (G : Nat → Prop) (S : DS) (h : Nat) (p : Int) (s n : Nat) (m : Mir w c G S) (r : RfAt w h c p s) (hg : ¬ G h) (hn : n < 2 ^ 64) (ho : S.ops ≤ 990000) :
    Calls Tryz.prog 56 #[.pointer (some ⟨h, 0, none⟩), .int .u64 (n : Int)] w (RfPost c G h p (Dy.put S p s n) (Dy.putS S p s n) w) := by
  obtain ⟨x0, x1, x2, x3⟩ := r.cells
  unfold RfPost
  by_cases hns : n = s
  · have e1 : Dy.put S p s n = (S, 0) := by unfold Dy.put; rw [if_pos hns]
    have e2 : Dy.putS S p s n = s := by unfold Dy.putS; rw [e1, if_pos rfl, hns]
    rw [e1, e2]
    subst hns
    have HH := Lib.hid (And.intro m (And.intro r hg))
    clear m r hg hn e1 e2
    go_enter Tryz.func56, Tryz.ntmps56
    go_wp2
    go_ret
    exact ⟨G, rfl, HH.out.1, HH.out.2.1, HH.out.2.2, fun k hk => .inl hk, Frame.refl _ _⟩
  · have e1 : Dy.put S p s n = Slot.save S p (Dy.enc n) := by unfold Dy.put; rw [if_neg hns]
    have e2 : Dy.putS S p s n = if (Slot.save S p (Dy.enc n)).2 = 0 then n else s := by unfold Dy.putS; rw [e1]
    rw [e1, e2]
    have hne : ((n : Int) == (s : Int)) = false := by simp; omega
    have zl := refLong_any n hn w.drew
    have zs := fun w1 A k h r => mSave w1 c G S p A (Dy.enc n) 8 k (Dy.enc_length n) h r ho
    unfold RefPost at zl
    unfold ChgPost at zs
    obtain ⟨T, hT⟩ : ∃ T, T = Slot.save S p (Dy.enc n) := ⟨_, rfl⟩
    rw [← hT] at zs ⊢
    have hgs := r.blk.lt
    have KX : Hid (∀ w1, Below w.heap.size w w1 → Mir w1 c G S ∧ w1.cell? ⟨h, 0, none⟩ = some (.pointer (some ⟨c, 0, none⟩)) ∧ w1.cell? ⟨h, 1, none⟩ = some (.int .i64 p)) := Lib.hid fun w1 B => by
      have r1 := r.step B
      exact ⟨m.step B, r1.cells.1, r1.cells.2.1⟩
    have KY : Hid (∀ (w1 w2 : World) (G2 : Nat → Prop), Below w.heap.size w w1 → Frame G w1 w2 → (∀ k, G2 k → G k ∨ w1.heap.size ≤ k) → RfAt w2 h c p s ∧ ¬ G2 h ∧ (∀ k, G2 k → G k ∨ w.heap.size ≤ k) ∧ Frame (fun k => G k ∨ k = h) w w2) := Lib.hid fun w1 w2 G2 B fr hG => by
      refine ⟨(r.step B).frame fr hg, fun x => (hG h x).elim hg fun y => by have := B.size; omega, fun k hk => (hG k hk).imp id fun x => Nat.le_trans B.size x, ?_⟩
      exact (Frame.of_below (F := fun k => G k ∨ k = h) B).trans (fr.mono fun k hk => .inl hk) fun _ hk => .inl hk
    have HN := Lib.hid hn
    have D := (Below.refl w.heap.size w).drew
    clear m r hg hn e1 e2 hT hns hgs
    by_cases hr : T.2 = 0
    · rw [if_pos hr]
      rw [hr] at zs ⊢
      go_enter Tryz.func56, Tryz.ntmps56
      go_wp2
      have J0 := (KX.out _ D).2
      go_region_held3 (fun w' => w'.cell? ⟨h, 0, none⟩ = some (.pointer (some ⟨c, 0, none⟩)) ∧ w'.cell? ⟨h, 1, none⟩ = some (.int .i64 p)) (first | assumption | exact J0 | exact ⟨x0, x1⟩) (first
        | (go_at_call 28; refine zl.mono ?_; (rintro e w1 ⟨A, k, rfl, hk, o1, B1⟩; have D1 := step_trans D B1; obtain ⟨m1, J1⟩ := KX.out w1 D1; have r1 := o1.bytes))
        | (go_at_call 14; refine (zs w1 A k m1 r1).mono ?_; (rintro e w2 ⟨G2, rfl, m2, hG2, fr2⟩; have K2 := KY.out w1 w2 G2 D1 fr2 hG2; have y0 := K2.1.cells.1; have y1 := K2.1.cells.2.1; have y2 := K2.1.cells.2.2.1; have y3 := K2.1.cells.2.2.2; have J2 := And.intro y0 y1; have K2 := Lib.hid K2; clear hG2 fr2)))
      go_wp2
      go_ret
      obtain ⟨r2, g2, o2, f2⟩ := K2.out
      exact ⟨G2, rfl, mirBeside m2 ((Frame.refl _ _).setAt ⟨h, 2, none⟩ (.int .u64 (n : Int)) rfl) g2, r2.set_ HN.out, g2, o2, f2.setAt ⟨h, 2, none⟩ (.int .u64 (n : Int)) (.inr rfl)⟩
    · rw [if_neg hr]
      obtain ⟨q, hrr⟩ : ∃ q, q = T.2 := ⟨_, rfl⟩
      rw [← hrr] at zs hr ⊢
      have hre : (q == 0) = false := by simpa using hr
      clear hrr hr
      go_enter Tryz.func56, Tryz.ntmps56
      go_wp2
      have J0 := (KX.out _ D).2
      go_region_held3 (fun w' => w'.cell? ⟨h, 0, none⟩ = some (.pointer (some ⟨c, 0, none⟩)) ∧ w'.cell? ⟨h, 1, none⟩ = some (.int .i64 p)) (first | assumption | exact J0 | exact ⟨x0, x1⟩) (first
        | (go_at_call 28; refine zl.mono ?_; (rintro e w1 ⟨A, k, rfl, hk, o1, B1⟩; have D1 := step_trans D B1; obtain ⟨m1, J1⟩ := KX.out w1 D1; have r1 := o1.bytes))
        | (go_at_call 14; refine (zs w1 A k m1 r1).mono ?_; (rintro e w2 ⟨G2, rfl, m2, hG2, fr2⟩; have K2 := KY.out w1 w2 G2 D1 fr2 hG2; have J2 := And.intro K2.1.cells.1 K2.1.cells.2.1; have K2 := Lib.hid K2; clear hG2 fr2)))
      go_wp2
      go_ret
      obtain ⟨r2, g2, o2, f2⟩ := K2.out
      exact ⟨G2, rfl, m2, r2, g2, o2, f2⟩
set_option maxRecDepth 100000 in
theorem mMerge_any (w : World) (c : Nat) (G : Nat → Prop) (S : DS) (h : Nat) (p : Int) (s v : Nat) (n : Int) (m : Mir w c G S) (r : RfAt w h c p s) (hg : ¬ G h) (hv : v < 2 ^ 64) (ho : S.ops ≤ 990000) :
    Calls Tryz.prog 23 #[.pointer (some ⟨h, 0, none⟩), .int .u64 (v : Int)] w (RfPost c G h p (Dy.step S p 1 n v s) (Dy.stepS S p 1 n v s) w) := by
  rw [Dy.step_merge, Dy.stepS_merge]
  obtain ⟨x0, x1, x2, x3⟩ := r.cells
  have hb := mpOr s v r.lt hv
  have z := mMapSave_any w c G S h p s (s ||| v) m r hg (Nat.or_lt_two_pow r.lt hv) ho
  unfold RfPost at z ⊢
  obtain ⟨T, hT⟩ : ∃ T, T = Dy.put S p s (s ||| v) := ⟨_, rfl⟩
  obtain ⟨u, hu⟩ : ∃ u, u = Dy.putS S p s (s ||| v) := ⟨_, rfl⟩
  rw [← hT, ← hu] at z ⊢
  clear hT hu m r hg
  go_enter Tryz.func23, Tryz.ntmps23
  go_wp2_with (go_at_call 56; refine z.mono ?_; (rintro e w2 ⟨G2, rfl, m2, r2, g2, o2, f2⟩))
  go_ret
  exact ⟨G2, rfl, m2, r2, g2, o2, f2⟩
set_option maxRecDepth 100000 in
theorem mClear_any (w : World) (c : Nat) (G : Nat → Prop) (S : DS) (h : Nat) (p : Int) (s v : Nat) (n : Int) (m : Mir w c G S) (r : RfAt w h c p s) (hg : ¬ G h) (hv : v < 2 ^ 64) (ho : S.ops ≤ 990000) :
    Calls Tryz.prog 25 #[.pointer (some ⟨h, 0, none⟩), .int .u64 (v : Int)] w (RfPost c G h p (Dy.step S p 2 n v s) (Dy.stepS S p 2 n v s) w) := by
  rw [Dy.step_clear, Dy.stepS_clear]
  obtain ⟨x0, x1, x2, x3⟩ := r.cells
  have hb := mpCut s v r.lt hv
  have z := mMapSave_any w c G S h p s (Dy.cut s v) m r hg (Dy.cut_lt v r.lt) ho
  unfold RfPost at z ⊢
  obtain ⟨T, hT⟩ : ∃ T, T = Dy.put S p s (Dy.cut s v) := ⟨_, rfl⟩
  obtain ⟨u, hu⟩ : ∃ u, u = Dy.putS S p s (Dy.cut s v) := ⟨_, rfl⟩
  rw [← hT, ← hu] at z ⊢
  clear hT hu m r hg
  go_enter Tryz.func25, Tryz.ntmps25
  go_wp2_with (go_at_call 56; refine z.mono ?_; (rintro e w2 ⟨G2, rfl, m2, r2, g2, o2, f2⟩))
  go_ret
  exact ⟨G2, rfl, m2, r2, g2, o2, f2⟩
set_option maxRecDepth 100000 in
theorem mMark_any (w : World) (c : Nat) (G : Nat → Prop) (S : DS) (h : Nat) (p : Int) (s v : Nat) (n : Int) (m : Mir w c G S) (r : RfAt w h c p s) (hg : ¬ G h) (ho : S.ops ≤ 990000) :
    Calls Tryz.prog 21 #[.pointer (some ⟨h, 0, none⟩), .int .i64 n] w (RfPost c G h p (Dy.step S p 0 n v s) (Dy.stepS S p 0 n v s) w) := by
  by_cases hn : Dy.isB n = true
  · have z := mMerge_any w c G S h p s (2 ^ n.toNat) 0 m r hg (by rw [Dy.isB_iff] at hn; exact Bits.two_pow_lt _ (by omega)) ho
    rw [Dy.step_merge, Dy.stepS_merge] at z
    rw [Dy.step_mark S p v s hn, Dy.stepS_mark S p v s hn]
    unfold RfPost at z ⊢
    obtain ⟨T, hT⟩ : ∃ T, T = Dy.put S p s (s ||| 2 ^ n.toNat) := ⟨_, rfl⟩
    obtain ⟨u, hu⟩ : ∃ u, u = Dy.putS S p s (s ||| 2 ^ n.toNat) := ⟨_, rfl⟩
    rw [← hT, ← hu] at z ⊢
    rw [Dy.isB_iff] at hn
    obtain ⟨j, rfl⟩ : ∃ j : Nat, n = (j : Int) := ⟨n.toNat, by omega⟩
    rw [Int.toNat_natCast, ← shl_num j (by omega)] at z
    clear hT hu m r hg
    go_enter Tryz.func21, Tryz.ntmps21
    go_wp2_with (go_at_call 23; refine z.mono ?_; (rintro e w2 ⟨G2, rfl, m2, r2, g2, o2, f2⟩))
    go_ret
    exact ⟨G2, rfl, m2, r2, g2, o2, f2⟩
  · rw [Dy.step_bad S p v s hn, Dy.stepS_bad S p v s hn]
    have HH := Lib.hid (And.intro m (And.intro r hg))
    clear m r hg
    have hb : n < 0 ∨ 63 < n := by have := mt (Dy.isB_iff n).2 hn; omega
    clear hn
    unfold RfPost
    by_cases h1 : n < 0
    · clear hb
      go_enter Tryz.func21, Tryz.ntmps21
      go_wp2
      go_ret
      exact ⟨G, rfl, HH.out.1, HH.out.2.1, HH.out.2.2, fun k hk => .inl hk, Frame.refl _ _⟩
    · have h2 : (63 : Int) < n := by omega
      clear hb
      go_enter Tryz.func21, Tryz.ntmps21
      go_wp2
      go_ret
      exact ⟨rfl, G, HH.out.1, HH.out.2.1, HH.out.2.2, fun k hk => .inl hk, Frame.refl _ _⟩
/-- what the document's Open tells, and makes -/
def RoPost (c : Nat) (S : DS) (p : Int) (w : World) (e : Ending) (w' : World) : Prop :=
  (Dy.openE S p = 0 → ∃ h, e = .returned (.tuple #[.pointer (some ⟨h, 0, none⟩), .int .i64 0]) ∧ RfAt w' h c p (Dy.openN S p) ∧ w.heap.size ≤ h ∧ Below w.heap.size w w') ∧
  (Dy.openE S p ≠ 0 → e = .returned (.tuple #[.pointer none, .int .i64 (Dy.openE S p)]) ∧ Below w.heap.size w w')
theorem rfBox {w w' : World} (B : Below w.heap.size w w') (c : Nat) (p : Int) (s : Nat) (hs : s < 2 ^ 64) : RfAt (w'.alloc (.cells #[.pointer (some ⟨c, 0, none⟩), .int .i64 p, .int .u64 (s : Int)] 56)) w'.heap.size c p s ∧ w.heap.size ≤ w'.heap.size ∧ Below w.heap.size w (w'.alloc (.cells #[.pointer (some ⟨c, 0, none⟩), .int .i64 p, .int .u64 (s : Int)] 56)) :=
  ⟨⟨BlkR.new w' (rfL c p s) _, hs⟩, B.size, B.alloc B.size _⟩
theorem loadB_leD (S : DS) (i : Int) : (Slot.loadB S i).length ≤ 40 := by
  unfold Slot.loadB
  split
  · unfold Slot.topB
    split
    · rename_i h
      unfold Slot.second at h
      exact Slot.rec_length _ (by simp at h; exact h.1)
    · unfold Slot.readB
      split
      · exact Slot.rec_length _ (by assumption)
      · simp
  · simp
set_option maxRecDepth 100000 in
set_option maxHeartbeats 1000000 in
theorem mOpen_any (w : World) (c : Nat) (G : Nat → Prop) (S : DS) (p : Int) (m : Mir w c G S) :
    Calls Tryz.prog 26 #[.pointer (some ⟨c, 0, none⟩), .int .i64 p] w (RoPost c S p w) := by
  have zl := mLoad w c G S p m
  unfold LdPost at zl
  have hl := loadB_leD S p
  have hN := Dy.openN_lt S p
  unfold RoPost
  obtain ⟨l, hle⟩ : ∃ l, l = Slot.loadB S p := ⟨_, rfl⟩
  obtain ⟨n, hn⟩ : ∃ n, n = l.length := ⟨_, rfl⟩
  by_cases hE : Slot.loadE S p = 0
  · rw [hE, ← hle, ← hn] at zl
    rw [← hle] at hl
    have zg := fun A k w hr => refGetLong_any A l k 0 w (by omega) hr
    rw [← hn] at zg
    by_cases h8 : n = 8
    · have eE : Dy.openE S p = 0 := by unfold Dy.openE; rw [if_pos hE, ← hle, ← hn, if_pos h8]
      have eN : Dy.openN S p = le l := by unfold Dy.openN; rw [if_pos eE, ← hle]
      rw [eN] at hN ⊢
      have g1 : getN l 0 8 = le l := by
        unfold getN
        rw [if_pos (by rw [inN_iff]; omega), show (0 : Int).toNat = 0 from rfl, List.drop_zero, List.take_of_length_le (by omega)]
      have g3 : getE n 0 8 = 0 := by unfold getE; rw [if_pos (by rw [inR_iff]; omega), if_pos (by rw [inN_iff]; omega)]
      obtain ⟨a, ha⟩ : ∃ a, a = getA n 0 8 := ⟨_, rfl⟩
      obtain ⟨q, hq⟩ : ∃ q, q = getP n 0 8 := ⟨_, rfl⟩
      obtain ⟨v, hv⟩ : ∃ v, v = le l := ⟨_, rfl⟩
      rw [g1, g3, ← ha, ← hq, ← hv] at zg
      rw [← hv] at hN ⊢
      unfold flt at zg
      subst h8
      have HN := Lib.hid hN
      have key : Calls Tryz.prog 26 #[.pointer (some ⟨c, 0, none⟩), .int .i64 p] w fun e w' => ∃ h, e = .returned (.tuple #[.pointer (some ⟨h, 0, none⟩), .int .i64 0]) ∧ RfAt w' h c p v ∧ w.heap.size ≤ h ∧ Below w.heap.size w w' := by
        clear eN eE g1 g3 ha hq hv hn hl hle hE hN m
        go_enter Tryz.func26, Tryz.ntmps26
        go_wp2_with (first
          | (go_at_call 58; refine zl.mono ?_; (rintro e w2 ⟨A, k, rfl, hk, r2, B2⟩))
          | (go_at_call 59; refine (zg A k w2 r2).mono ?_; (rintro e w3 ⟨rfl, B3⟩; have C3 := step_trans B2 B3; have C4 := C3.alloc C3.size (.cells #[.int .i64 0, .int .i64 a] 110); have X4 := rfBox C4 c p v HN.out; rw [show (w3.alloc (.cells #[.int .i64 0, .int .i64 a] 110)).heap.size = w3.heap.size + 1 by simp] at X4; have X4 := Lib.hid X4)))
        go_ret2
        exact ⟨_, rfl, X4.out.1, X4.out.2.1, X4.out.2.2⟩
      exact key.mono fun e w' h => ⟨fun _ => h, fun h2 => absurd eE h2⟩
    · have eE : Dy.openE S p = 11 := by unfold Dy.openE; rw [if_pos hE, ← hle, ← hn, if_neg h8]
      rw [eE]
      have hne : ((n : Int) != 8) = true := by simp; omega
      obtain ⟨a, ha⟩ : ∃ a, a = getA n 0 8 := ⟨_, rfl⟩
      obtain ⟨q, hq⟩ : ∃ q, q = getP n 0 8 := ⟨_, rfl⟩
      obtain ⟨v, hv⟩ : ∃ v, v = getN l 0 8 := ⟨_, rfl⟩
      obtain ⟨E, hEE⟩ : ∃ E, E = getE n 0 8 := ⟨_, rfl⟩
      rw [← ha, ← hq, ← hv, ← hEE] at zg
      unfold flt at zg
      have key : Calls Tryz.prog 26 #[.pointer (some ⟨c, 0, none⟩), .int .i64 p] w fun e w' => e = .returned (.tuple #[.pointer none, .int .i64 11]) ∧ Below w.heap.size w w' := by
        clear eE ha hq hv hEE hn hl hle hE hN m h8
        go_enter Tryz.func26, Tryz.ntmps26
        go_wp2_with (first
          | (go_at_call 58; refine zl.mono ?_; (rintro e w2 ⟨A, k, rfl, hk, r2, B2⟩))
          | (go_at_call 59; refine (zg A k w2 r2).mono ?_; (rintro e w3 ⟨rfl, B3⟩; have C3 := step_trans B2 B3; have C4 := C3.alloc C3.size (.cells #[.int .i64 E, .int .i64 a] 110))))
        go_ret2
        exact ⟨rfl, C4⟩
      exact key.mono fun e w' h => ⟨fun h2 => absurd h2 (by decide), fun _ => h⟩
  · have eE : Dy.openE S p = Slot.loadE S p := by unfold Dy.openE; rw [if_neg hE]
    rw [eE]
    rw [← hle, ← hn] at zl
    obtain ⟨E, hEE⟩ : ∃ E, E = Slot.loadE S p := ⟨_, rfl⟩
    rw [← hEE] at zl hE ⊢
    have hne : (E != 0) = true := by simpa using hE
    have key : Calls Tryz.prog 26 #[.pointer (some ⟨c, 0, none⟩), .int .i64 p] w fun e w' => e = .returned (.tuple #[.pointer none, .int .i64 E]) ∧ Below w.heap.size w w' := by
      clear eE hEE hn hl hle hN m hE
      go_enter Tryz.func26, Tryz.ntmps26
      go_wp2_with (go_at_call 58; refine zl.mono ?_; (rintro e w2 ⟨A, k, rfl, hk, r2, B2⟩))
      go_ret2
      exact ⟨rfl, B2⟩
    exact key.mono fun e w' h => ⟨fun h2 => absurd h2 hE, fun _ => h⟩
end Go.Proofs.YtcahpodmcklnbaaGreatDoor
