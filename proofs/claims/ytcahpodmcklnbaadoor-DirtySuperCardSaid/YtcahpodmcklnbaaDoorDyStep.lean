/-
  A step of a map of dirty blocks: the set that it wants, its call. Conditions: the table of crc lies as the program's text lays it; at most so many changes.
-/
import Derived.Test.YtcahpodmcklnbaaDoorDySteps
import Derived.Test.YtcahpodmcklnbaaDoorDyKit
namespace Go.Proofs.YtcahpodmcklnbaaDoor
open Go.RowKit Fix

theorem DuoChg.back {B b g n : Nat} {F F' : Nat → Prop} {w W w' : World} {T : DS} (c : DuoChg B b g F W F' T n w') (h : Below w.heap.size w W) (hB : B ≤ w.heap.size) : DuoChg B b g F w F' T n w' :=
  ⟨c.d, (h.mono hB).trans c.low, (Frame.of_below (F := fun k => F k ∨ k = g) h).trans c.fr fun _ hk => .inl hk, fun k hk => (c.own k hk).imp id fun x => Nat.le_trans h.size x⟩
/-- a step, boxed -/
theorem d10Box (w : World) (m : D10M) : Hid (BlkR 54 (w.alloc (.cells (d10Cells m).toArray 54)) w.heap.size (d10Cells m) ∧ Below w.heap.size w (w.alloc (.cells (d10Cells m).toArray 54))) :=
  Lib.hid ⟨BlkR.new w (d10Cells m) _, (Below.refl _ _).alloc (Nat.le_refl _) _⟩
set_option maxRecDepth 100000 in
theorem want_any (m : D10M) (s : Nat) (w : World) (hv : m.v < 2 ^ 64) (hs : s < 2 ^ 64) : Calls Tryd.prog 15 #[.agg (d10Cells m).toArray, .int .u64 (s : Int)] w fun e w' => e = .returned (.int .u64 (Dy.want m.k m.n m.v s : Int)) ∧ Below w.heap.size w w' := by
  obtain ⟨k, n, stop, v, keeps, AK, ck, tear⟩ := m
  unfold d10Cells
  simp only
  simp only at hv
  have ho := mpOr s v hs hv
  have hc := mpCut s v hs hv
  unfold Dy.want
  by_cases h0 : k = 0
  · rw [if_pos h0]
    have t0 : (k == 0) = true := by simpa using h0
    by_cases hn : Dy.isB n = true
    · rw [if_pos hn]
      have hb := (Dy.isB_iff _).1 hn
      obtain ⟨j, hj⟩ : ∃ j : Nat, n = (j : Int) := ⟨n.toNat, by omega⟩
      rw [hj] at hb ⊢
      have hj64 : j < 64 := by omega
      have hp := mpOr s (2 ^ j) hs (Bits.two_pow_lt j hj64)
      rw [← shl_num j hj64] at hp
      rw [Int.toNat_natCast]
      obtain ⟨z, hz⟩ : ∃ z : Int, z = ((s ||| 2 ^ j : Nat) : Int) := ⟨_, rfl⟩
      rw [← hz] at hp ⊢
      have n0 : ¬ (j : Int) < 0 := by omega
      have n1 : ¬ (63 : Int) < (j : Int) := by omega
      clear hn hj h0 hz
      go_enter Tryd.func15, Tryd.ntmps15
      go_wp2
      go_ret
      exact ⟨rfl, (Below.refl _ _).alloc (Nat.le_refl _) _⟩
    · rw [if_neg hn]
      have hb : n < 0 ∨ 63 < n := by have := mt (Dy.isB_iff n).2 hn; omega
      clear hn
      by_cases h1 : n < 0
      · clear h0 hb
        go_enter Tryd.func15, Tryd.ntmps15
        go_wp2
        go_ret
        exact ⟨rfl, (Below.refl _ _).alloc (Nat.le_refl _) _⟩
      · have h2 : (63 : Int) < n := by omega
        clear h0 hb
        go_enter Tryd.func15, Tryd.ntmps15
        go_wp2
        go_ret
        exact ⟨rfl, (Below.refl _ _).alloc (Nat.le_refl _) _⟩
  · rw [if_neg h0]
    have t0 : (k == 0) = false := by simpa using h0
    by_cases h1 : k = 1
    · rw [if_pos h1]
      have t1 : (k == 1) = true := by simpa using h1
      clear h0 h1
      go_enter Tryd.func15, Tryd.ntmps15
      go_wp2
      go_ret
      exact ⟨rfl, (Below.refl _ _).alloc (Nat.le_refl _) _⟩
    · rw [if_neg h1]
      have t1 : (k == 1) = false := by simpa using h1
      clear h0 h1
      go_enter Tryd.func15, Tryd.ntmps15
      go_wp2
      go_ret
      exact ⟨rfl, (Below.refl _ _).alloc (Nat.le_refl _) _⟩
set_option maxRecDepth 100000 in
theorem does_any {w : World} {B b g s : Nat} {F : Nat → Prop} {S : DS} (h : MpDuo w B b F S g s) (hB : B ≤ w.heap.size) (m : D10M) (hk : m.k = 0 ∨ m.k = 1 ∨ m.k = 2) (hv : m.v < 2 ^ 64) (ht : TabAt w) (ho : S.ops ≤ 990000) :
    Calls Tryd.prog 18 #[.agg (d10Cells m).toArray, .pointer (some ⟨g, 0, none⟩)] w (DuoPost B b g F (Dy.step S 0 m.k m.n m.v s) (Dy.stepS S 0 m.k m.n m.v s) w) := by
  obtain ⟨k, n, stop, v, keeps, AK, ck, tear⟩ := m
  simp only at hk hv
  simp only
  have bx := d10Box w ⟨k, n, stop, v, keeps, AK, ck, tear⟩
  obtain ⟨W, hW⟩ : ∃ W, W = w.alloc (.cells (d10Cells ⟨k, n, stop, v, keeps, AK, ck, tear⟩).toArray 54) := ⟨_, rfl⟩
  rw [← hW] at bx
  obtain ⟨x0, x1, x2, x3, x4, x5⟩ := d10_cells bx.out.1
  unfold d10Cells at hW ⊢
  simp only at x0 x1 x2 x3 x4 x5
  have HB := Lib.hid bx.out.2
  have hW2 : B ≤ W.heap.size := Nat.le_trans hB bx.out.2.size
  have D := h.step bx.out.2
  have HX := Lib.hid hB
  have t := ht.below bx.out.2 (Nat.le_refl _)
  clear bx h ht
  rcases hk with h0 | h0 | h0
  · have z := duo_mark D hW2 n v t ho
    subst h0
    unfold DuoPost at z ⊢
    obtain ⟨T, hT⟩ : ∃ T, T = Dy.step S 0 0 n v s := ⟨_, rfl⟩
    obtain ⟨u, hu⟩ : ∃ u, u = Dy.stepS S 0 0 n v s := ⟨_, rfl⟩
    rw [← hT, ← hu] at z ⊢
    clear hT hu D t
    go_enter Tryd.func18, Tryd.ntmps18
    go_wp2_with (first
      | (go_at_call 8; rw [← hW]; refine z.mono ?_; (rintro e w2 ⟨F2, rfl, C2⟩))
      | fail)
    go_ret
    exact ⟨F2, rfl, C2.back HB.out HX.out⟩
  · have z := duo_merge D hW2 n v hv t ho
    subst h0
    unfold DuoPost at z ⊢
    obtain ⟨T, hT⟩ : ∃ T, T = Dy.step S 0 1 n v s := ⟨_, rfl⟩
    obtain ⟨u, hu⟩ : ∃ u, u = Dy.stepS S 0 1 n v s := ⟨_, rfl⟩
    rw [← hT, ← hu] at z ⊢
    clear hT hu D t
    go_enter Tryd.func18, Tryd.ntmps18
    go_wp2_with (first
      | (go_at_call 9; rw [← hW]; refine z.mono ?_; (rintro e w2 ⟨F2, rfl, C2⟩))
      | fail)
    go_ret
    exact ⟨F2, rfl, C2.back HB.out HX.out⟩
  · have z := duo_clear D hW2 n v hv t ho
    subst h0
    unfold DuoPost at z ⊢
    obtain ⟨T, hT⟩ : ∃ T, T = Dy.step S 0 2 n v s := ⟨_, rfl⟩
    obtain ⟨u, hu⟩ : ∃ u, u = Dy.stepS S 0 2 n v s := ⟨_, rfl⟩
    rw [← hT, ← hu] at z ⊢
    clear hT hu D t
    go_enter Tryd.func18, Tryd.ntmps18
    go_wp2_with (first
      | (go_at_call 10; rw [← hW]; refine z.mono ?_; (rintro e w2 ⟨F2, rfl, C2⟩))
      | fail)
    go_ret
    exact ⟨F2, rfl, C2.back HB.out HX.out⟩
end Go.Proofs.YtcahpodmcklnbaaDoor
