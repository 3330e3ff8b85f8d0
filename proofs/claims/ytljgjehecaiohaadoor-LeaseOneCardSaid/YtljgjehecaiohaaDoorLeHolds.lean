/-
  Promises: Holds, Bars; and the document's (tandemref16). Conditions: for the program's, the table of bounds lies as the text lays it.
-/
import Derived.Test.YtljgjehecaiohaaDoorLeProg
import Derived.Test.YtljgjehecaiohaaDoorBa
namespace Go.Proofs.YtljgjehecaiohaaDoor
open Go.RowKit Le

/-- what only tells, whatever memory it makes -/
def Tlb (b : Bool) (w : World) (e : Ending) (w' : World) : Prop := e = .returned (.bool b) ∧ Below w.heap.size w w'
theorem Tls.tlb {b : Bool} {w w' : World} {e : Ending} (h : Tls b w e w') : Tlb b w e w' := ⟨h.1, h.2 ▸ Below.refl _ w⟩
set_option maxRecDepth 100000 in
theorem info_prom : RowTy Tryd.prog 49 [.int .i64 0, .int .i64 0] := ⟨fun w => by kernel_rfl, by kernel_rfl, _, Tryd.underlying49, rfl⟩
/-- a promise in a block of its own -/
def pmC (t f : Int) : List Value := [.int .i64 t, .int .i64 f]
theorem holds_yes {t f n : Int} (h1 : t ≠ -1) (h : Time f ∧ Time n) : decide (Holds t f n) = decide (n - f < 1100) := by
  refine decide_eq_decide.2 ?_
  unfold Holds
  exact ⟨fun e => e.2.elim (fun x => absurd h x) id, fun e => ⟨h1, .inr e⟩⟩
theorem holds_far {t f n : Int} (h1 : t ≠ -1) (h : ¬ (Time f ∧ Time n)) : decide (Holds t f n) = true := decide_eq_true ⟨h1, .inl h⟩
theorem holds_none {t f n : Int} (h1 : t = -1) : decide (Holds t f n) = false := decide_eq_false fun e => e.1 h1
set_option maxRecDepth 100000 in
/-- P16.2 -/
theorem leHolds_any (t f n : Int) (w : World) (h : BndAt w) : Calls Tryd.prog 22 #[.agg #[.int .i64 t, .int .i64 f], .int .i64 n] w (Tlb (decide (Holds t f n)) w) := by
  obtain ⟨w1, hw1⟩ : ∃ w1, w1 = w.alloc (.cells #[.int .i64 t, .int .i64 f] 49) := ⟨_, rfl⟩
  have B1 : Below w.heap.size w w1 := by rw [hw1]; exact step_alloc (Below.refl _ w) _
  have b1 : BlkR 49 w1 w.heap.size (pmC t f) := by rw [hw1]; exact BlkR.new w (pmC t f) _
  have c0 : w1.cell? ⟨w.heap.size, 0, none⟩ = some (.int .i64 t) := b1.cell rfl
  have c1 : w1.cell? ⟨w.heap.size, 1, none⟩ = some (.int .i64 f) := b1.cell rfl
  have BB := Lib.hid B1
  have hmf : ∀ (fn : Fn) (first cap : Array Value) (w : World), (Instr.makeFunc fn first cap).run Tryd.prog w = .ok (.func fn first cap) w := fun _ _ _ _ => rfl
  by_cases g1 : t = -1
  · rw [holds_none g1]
    have l0 : (t != -1) = false := by simp [g1]
    clear b1 B1 g1
    rw [hw1] at c0 c1
    go_enter Tryd.func22, Tryd.ntmps22
    go_wp2
    go_ret
    exact ⟨rfl, hw1 ▸ BB.out⟩
  · have l0 : (t != -1) = true := by simp [g1]
    obtain ⟨r, hr⟩ : ∃ r, r = decide (Holds t f n) := ⟨_, rfl⟩
    have z : Calls Tryd.prog 45 #[.func (.func 48) #[.int .i64 n] #[], .int .i64 f, .int .i64 n, .bool true] w1 (Tls r w1) := by
      rw [hr]
      by_cases g : Time f ∧ Time n
      · rw [holds_yes g1 g]; exact tellsPromise_ok f n true g.1 g.2 w1 (h.grown B1)
      · rw [holds_far g1 g]; exact tellsPromise_no f n true g w1 (h.grown B1)
    rw [← hr]
    clear b1 B1 g1 hr h
    rw [hw1] at c0 c1 z
    go_enter Tryd.func22, Tryd.ntmps22
    go_wp2_with (go_at_call 45; (with_reducible refine z.mono ?_); (rintro e w2 ⟨rfl, rfl⟩))
    go_ret
    exact ⟨rfl, hw1 ▸ BB.out⟩
theorem bars_dec (t f d n : Int) : decide (Bars t f d n) = (decide (Holds t f n) && (t == -2 || t != d)) := by
  have e : (t == -2 || t != d) = decide (t = -2 ∨ t ≠ d) := by
    by_cases g : t = -2 <;> by_cases k : t = d <;> simp [g, k]
    by_cases x : d = -2 <;> simp [x]
  rw [e]
  by_cases g : Holds t f n
  · rw [decide_eq_true g, Bool.true_and]
    exact decide_eq_decide.2 ⟨fun x => x.2, fun x => ⟨g, x⟩⟩
  · rw [decide_eq_false g, Bool.false_and]
    exact decide_eq_false fun x => g x.1
set_option maxRecDepth 100000 in
/-- P16.2 -/
theorem leBars_any (t f d n : Int) (w : World) (h : BndAt w) : Calls Tryd.prog 24 #[.agg #[.int .i64 t, .int .i64 f], .int .i64 d, .int .i64 n] w (Tlb (decide (Bars t f d n)) w) := by
  obtain ⟨w1, hw1⟩ : ∃ w1, w1 = w.alloc (.cells #[.int .i64 t, .int .i64 f] 49) := ⟨_, rfl⟩
  have B1 : Below w.heap.size w w1 := by rw [hw1]; exact step_alloc (Below.refl _ w) _
  have b1 : BlkR 49 w1 w.heap.size (pmC t f) := by rw [hw1]; exact BlkR.new w (pmC t f) _
  have z := leHolds_any t f n w1 (h.grown B1)
  have e := bars_dec t f d n
  obtain ⟨r, hr⟩ : ∃ r, r = decide (Holds t f n) := ⟨_, rfl⟩
  obtain ⟨q, hq⟩ : ∃ q, q = decide (Bars t f d n) := ⟨_, rfl⟩
  rw [← hr] at z e
  rw [← hq] at e ⊢
  have hx : w.heap.size < w1.heap.size := by rw [hw1]; simp
  have HS := Lib.hid (And.intro b1 (And.intro B1 hx))
  clear b1 B1 hr hq h hx
  cases r with
  | false =>
    have FIN : Hid (q = false) := Lib.hid e
    clear e
    go_enter Tryd.func24, Tryd.ntmps24
    go_wp2_with (first
      | (go_at_call 22; rw [← hw1]; (with_reducible refine z.mono ?_); (rintro e w2 ⟨rfl, B2⟩; have c2 := Lib.hid (step_trans HS.out.2.1 B2); clear B2)))
    go_ret
    exact ⟨by rw [FIN.out]; rfl, c2.out⟩
  | true =>
    rw [Bool.true_and] at e
    by_cases g : t = -2
    · have l0 : (t == -2) = true := by simp [g]
      have FIN : Hid (q = true) := Lib.hid (e.trans (by rw [l0]; rfl))
      clear e g
      go_enter Tryd.func24, Tryd.ntmps24
      go_wp2_with (first
        | (go_at_call 22; rw [← hw1]; (with_reducible refine z.mono ?_); (rintro e w2 ⟨rfl, B2⟩; have c2 := Lib.hid (step_trans HS.out.2.1 B2); have b2 := HS.out.1.below B2 HS.out.2.2; have x0 := b2.cell (k := 0) (u := .int .i64 t) rfl; clear B2 b2)))
      go_ret
      exact ⟨by rw [FIN.out]; rfl, c2.out⟩
    · have l0 : (t == -2) = false := by simp [g]
      have FIN : Hid (q = (t != d)) := Lib.hid (e.trans (by rw [l0]; rfl))
      clear e g
      go_enter Tryd.func24, Tryd.ntmps24
      go_wp2_with (first
        | (go_at_call 22; rw [← hw1]; (with_reducible refine z.mono ?_); (rintro e w2 ⟨rfl, B2⟩; have c2 := Lib.hid (step_trans HS.out.2.1 B2); have b2 := HS.out.1.below B2 HS.out.2.2; have x0 := b2.cell (k := 0) (u := .int .i64 t) rfl; clear B2 b2)))
      go_ret
      exact ⟨by rw [FIN.out]; rfl, c2.out⟩
end Go.Proofs.YtljgjehecaiohaaDoor
