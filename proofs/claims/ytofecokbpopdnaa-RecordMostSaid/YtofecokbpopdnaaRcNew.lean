/-
  The program's records: Newer, Has. Conditions: none.
-/
import Derived.Test.YtofecokbpopdnaaRcProg
namespace Go.Proofs.Ytofecokbpopdnaa
open Go.RowKit Rc

theorem isNaN_any (n : Int) (w : World) : Calls Try.prog 30 #[.int .i64 n] w (Tls false w) := by
  have l : (n != n) = false := by simp
  go_enter Try.func30, Try.ntmps30
  go_wp2
  go_ret
  exact ⟨by simp [go_sem], rfl⟩
def cmpI (a b : Int) : Int := if a < b then -1 else if a > b then 1 else 0
set_option maxRecDepth 100000 in
theorem compare_any (a b : Int) (w : World) : Calls Try.prog 27 #[.int .i64 a, .int .i64 b] w fun e w' => e = .returned (.int .i64 (cmpI a b)) ∧ w = w' := by
  have z1 := isNaN_any a w
  have z2 := isNaN_any b w
  by_cases l0 : a < b
  · rw [show cmpI a b = -1 from if_pos l0]
    go_enter Try.func27, Try.ntmps27
    go_wp2_with (first
      | (go_at_call 30; (with_reducible refine z1.mono ?_); (rintro e w2 ⟨rfl, rfl⟩))
      | (go_at_call 30; (with_reducible refine z2.mono ?_); (rintro e w2 ⟨rfl, rfl⟩)))
    go_ret
    exact ⟨rfl, rfl⟩
  · by_cases l1 : a > b
    · rw [show cmpI a b = 1 from (if_neg l0).trans (if_pos l1)]
      go_enter Try.func27, Try.ntmps27
      go_wp2_with (first
        | (go_at_call 30; (with_reducible refine z1.mono ?_); (rintro e w2 ⟨rfl, rfl⟩))
        | (go_at_call 30; (with_reducible refine z2.mono ?_); (rintro e w2 ⟨rfl, rfl⟩)))
      go_ret
      exact ⟨rfl, rfl⟩
    · rw [show cmpI a b = 0 from (if_neg l0).trans (if_neg l1)]
      go_enter Try.func27, Try.ntmps27
      go_wp2_with (first
        | (go_at_call 30; (with_reducible refine z1.mono ?_); (rintro e w2 ⟨rfl, rfl⟩))
        | (go_at_call 30; (with_reducible refine z2.mono ?_); (rintro e w2 ⟨rfl, rfl⟩)))
      go_ret
      exact ⟨rfl, rfl⟩
def orI (x y : Int) : Int := if x ≠ 0 then x else y
set_option maxRecDepth 100000 in
theorem or2_any (x y : Int) (g : Nat) (w : World) (h0 : w.cell? ⟨g, 0, none⟩ = some (.int .i64 x)) (h1 : w.cell? ⟨g, 1, none⟩ = some (.int .i64 y)) :
    Calls Try.prog 26 #[.slice (some ⟨g, 0, none⟩) 2 2] w fun e w' => e = .returned (.int .i64 (orI x y)) ∧ w = w' := by
  by_cases l0 : x = 0
  · have k0 : (x != 0) = false := by simp [l0]
    rw [show orI x y = y from if_neg (fun e => e l0)]
    clear l0
    by_cases l1 : y = 0
    · have k1 : (y != 0) = false := by simp [l1]
      have FIN := Lib.hid l1
      clear l1
      go_enter Try.func26, Try.ntmps26
      go_wp2
      go_loopw [8] (fun ix wr => wr = w ∧ (ix = .int .i64 0 ∨ ix = .int .i64 1 ∨ ix = .int .i64 2)) (fun ix _ => 4 - vI ix)
      case atStart => exact ⟨rfl, .inl rfl⟩
      case round =>
        obtain ⟨rfl, rfl | rfl | rfl⟩ := hrel
        · go_wp2
          exact ⟨⟨trivial, .inr (.inl rfl)⟩, by decide⟩
        · go_wp2
          exact ⟨⟨trivial, .inr (.inr rfl)⟩, by decide⟩
        · go_wp2
          go_ret
          exact ⟨by rw [FIN.out]; rfl, rfl⟩
    · have k1 : (y != 0) = true := by simp [l1]
      clear l1
      go_enter Try.func26, Try.ntmps26
      go_wp2
      go_loopw [8] (fun ix wr => wr = w ∧ (ix = .int .i64 0 ∨ ix = .int .i64 1)) (fun ix _ => 4 - vI ix)
      case atStart => exact ⟨rfl, .inl rfl⟩
      case round =>
        obtain ⟨rfl, rfl | rfl⟩ := hrel
        · go_wp2
          exact ⟨⟨trivial, .inr rfl⟩, by decide⟩
        · go_wp2
          go_ret
          exact ⟨rfl, rfl⟩
  · have k0 : (x != 0) = true := by simp [l0]
    rw [show orI x y = x from if_pos l0]
    clear l0
    go_enter Try.func26, Try.ntmps26
    go_wp2
    go_loopw [8] (fun ix wr => wr = w ∧ ix = .int .i64 0) (fun ix _ => 4 - vI ix)
    case atStart => exact ⟨rfl, rfl⟩
    case round =>
      obtain ⟨rfl, rfl⟩ := hrel
      go_wp2
      go_ret
      exact ⟨rfl, rfl⟩
theorem newer_gt (a b c d : Int) : decide (orI (cmpI a c) (cmpI b d) > 0) = decide (c < a ∨ (a = c ∧ d < b)) := by
  refine decide_eq_decide.2 ?_
  unfold orI cmpI
  by_cases h1 : a < c
  · simp [h1]; omega
  · by_cases h2 : a > c
    · simp [h1, h2]
    · by_cases h3 : b < d
      · simp [h1, h2, h3]; omega
      · by_cases h4 : b > d
        · simp [h1, h2, h3, h4]; omega
        · simp [h1, h2, h3, h4]
          try omega
set_option maxRecDepth 100000 in
/-- P17.1 -/
theorem rcNewer_any (a b s c d u : Int) (w : World) : Calls Try.prog 11 #[.agg #[.int .i64 a, .int .i64 b, .int .i64 s], .agg #[.int .i64 c, .int .i64 d, .int .i64 u]] w (Tlb (decide (New ⟨a, b, s⟩ ⟨c, d, u⟩)) w) := by
  obtain ⟨w1, hw1⟩ : ∃ w1, w1 = w.alloc (.cells #[.int .i64 a, .int .i64 b, .int .i64 s] 23) := ⟨_, rfl⟩
  obtain ⟨w2, hw2⟩ : ∃ w2, w2 = w1.alloc (.cells #[.int .i64 c, .int .i64 d, .int .i64 u] 23) := ⟨_, rfl⟩
  have s1 : w1.heap.size = w.heap.size + 1 := by rw [hw1]; simp
  have B1 : Below w.heap.size w w1 := by rw [hw1]; exact step_alloc (Below.refl _ w) _
  have B2 : Below w1.heap.size w1 w2 := by rw [hw2]; exact step_alloc (Below.refl _ w1) _
  have b1 : BlkR 23 w2 w.heap.size (rcL a b s) := by
    have : BlkR 23 w1 w.heap.size (rcL a b s) := by rw [hw1]; exact BlkR.new w (rcL a b s) _
    exact this.below B2 this.lt
  have b2 : BlkR 23 w2 w1.heap.size (rcL c d u) := by rw [hw2]; exact BlkR.new w1 (rcL c d u) _
  have B3 := step_trans B1 B2
  have CC : ∀ wx : World, Below w2.heap.size w2 wx → Hid (wx.cell? ⟨w.heap.size, 0, none⟩ = some (.int .i64 a) ∧ wx.cell? ⟨w.heap.size, 1, none⟩ = some (.int .i64 b) ∧ wx.cell? ⟨w.heap.size + 1, 0, none⟩ = some (.int .i64 c) ∧ wx.cell? ⟨w.heap.size + 1, 1, none⟩ = some (.int .i64 d)) := fun wx hx => by
    have p := b1.below hx b1.lt
    have q := b2.below hx b2.lt
    rw [s1] at q
    exact Lib.hid ⟨p.cell rfl, p.cell rfl, q.cell rfl, q.cell rfl⟩
  obtain ⟨c0, c1, c2, c3⟩ := (CC w2 (Below.refl _ _)).out
  have z1 := compare_any a c
  have z2 := compare_any b d
  obtain ⟨x, hx⟩ : ∃ x, x = cmpI a c := ⟨_, rfl⟩
  obtain ⟨y, hy⟩ : ∃ y, y = cmpI b d := ⟨_, rfl⟩
  obtain ⟨r, hr⟩ : ∃ r, r = orI x y := ⟨_, rfl⟩
  have s2 : w2.heap.size = w.heap.size + 1 + 1 := by rw [hw2]; simp [s1]
  have p0 := BlkR.new w2 [.int .i64 x, .int .i64 y] 3
  have p3 := p0.below (Below.refl _ _).drew p0.lt
  have z3 := or2_any x y w2.heap.size _ (p3.cell rfl) (p3.cell rfl)
  rw [← hr, s2] at z3
  have B4 := Lib.hid (step_trans B3 ((step_alloc (Below.refl _ w2) (.cells #[.int .i64 x, .int .i64 y] 3)).drew))
  have FIN : Hid (decide (New ⟨a, b, s⟩ ⟨c, d, u⟩) = decide (r > 0)) := Lib.hid (by rw [hr, hx, hy, newer_gt]; exact decide_eq_decide.2 Iff.rfl)
  rw [← hx] at z1
  rw [← hy] at z2
  clear hx hy hr b1 b2 B1 B2 B3 s1 s2 p0 p3
  rw [hw1] at hw2
  have cd := CC w2.drew (Below.refl _ w2).drew
  have ce := fun y => CC (w2.alloc y).drew (step_alloc (Below.refl _ w2) y).drew
  rw [hw2] at cd c0 c1 c2 c3 z3 B4
  simp only [hw2] at ce
  go_enter Try.func11, Try.ntmps11
  go_wp2
  go_region_held3 (fun w' => w'.cell? ⟨w.heap.size, 0, none⟩ = some (.int .i64 a) ∧ w'.cell? ⟨w.heap.size, 1, none⟩ = some (.int .i64 b) ∧ w'.cell? ⟨w.heap.size + 1, 0, none⟩ = some (.int .i64 c) ∧ w'.cell? ⟨w.heap.size + 1, 1, none⟩ = some (.int .i64 d)) (first | exact cd.out | exact (ce _).out | assumption) (first
    | (go_at_call 27; (with_reducible refine (z1 _).mono ?_); (rintro e w3 ⟨rfl, rfl⟩))
    | (go_at_call 27; (with_reducible refine (z2 _).mono ?_); (rintro e w3 ⟨rfl, rfl⟩))
    | (go_at_call 26; (with_reducible refine z3.mono ?_); (rintro e w3 ⟨rfl, rfl⟩)))
  go_wp2
  go_ret
  exact ⟨by rw [FIN.out]; rfl, B4.out⟩
end Go.Proofs.Ytofecokbpopdnaa
