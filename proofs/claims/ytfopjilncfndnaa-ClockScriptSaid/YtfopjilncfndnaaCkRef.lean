/-
  The document's clocks (tandemref15) in memory: every call of them. Conditions: none.
-/
import Derived.Test.YtfopjilncfndnaaCkLaw
namespace Go.Proofs.Ytfopjilncfndnaa
open Go.RowKit Ck

def T3.get (t : T3) (k : Nat) : Int := if k = 0 then t.a else if k = 1 then t.b else t.c
theorem get_cell {t : T3} {k : Nat} (h : k < 3) : (t3Cells t)[k]? = some (.int .i64 (t.get k)) := by
  rcases (show k = 0 ∨ k = 1 ∨ k = 2 by omega) with rfl | rfl | rfl <;> rfl
theorem neg_get {t : T3} : Ck.Neg t ↔ ∃ k, k < 3 ∧ t.get k < 0 := by
  unfold Ck.Neg
  constructor
  · rintro (h | h | h)
    · exact ⟨0, by decide, h⟩
    · exact ⟨1, by decide, h⟩
    · exact ⟨2, by decide, h⟩
  · rintro ⟨k, hk, h⟩
    rcases (show k = 0 ∨ k = 1 ∨ k = 2 by omega) with rfl | rfl | rfl
    · exact .inl h
    · exact .inr (.inl h)
    · exact .inr (.inr h)
theorem full_get {s : S} {t : T3} : Full s t ↔ ∃ k, k < 3 ∧ M - s.t.get k < t.get k := by
  unfold Full
  constructor
  · rintro (h | h | h)
    · exact ⟨0, by decide, h⟩
    · exact ⟨1, by decide, h⟩
    · exact ⟨2, by decide, h⟩
  · rintro ⟨k, hk, h⟩
    rcases (show k = 0 ∨ k = 1 ∨ k = 2 by omega) with rfl | rfl | rfl
    · exact .inl h
    · exact .inr (.inl h)
    · exact .inr (.inr h)
theorem btw_get {lo hi : Int} {t : T3} : Btw lo hi t ↔ ∀ k, k < 3 → lo ≤ t.get k ∧ t.get k ≤ hi := by
  unfold Btw
  constructor
  · rintro ⟨h1, h2, h3⟩ k hk
    rcases (show k = 0 ∨ k = 1 ∨ k = 2 by omega) with rfl | rfl | rfl
    · exact h1
    · exact h2
    · exact h3
  · intro h
    exact ⟨h 0 (by decide), h 1 (by decide), h 2 (by decide)⟩
/-- the cells of the document's clocks -/
def rkC (t : T3) (n good : Nat) : List Value := [.int .i64 t.a, .int .i64 t.b, .int .i64 t.c, .int .i64 (n : Int), .int .i64 (good : Int)]
theorem rk_get {t : T3} {n good k : Nat} (h : k < 3) : (rkC t n good)[k]? = some (.int .i64 (t.get k)) := by
  rcases (show k = 0 ∨ k = 1 ∨ k = 2 by omega) with rfl | rfl | rfl <;> rfl
/-- the document's clocks at c -/
structure RkAt (w : World) (c : Nat) (s : S) (good : Nat) : Prop where
  blk : BlkR 35 w c (rkC s.t s.n good)
  ok : s.Ok
  le : good ≤ s.n
  kept : s.kept = true ↔ good = s.n
section
variable {w w' : World} {c good : Nat} {s : S}
theorem RkAt.frame {X : Nat → Prop} (h : RkAt w c s good) (hX : Frame X w w') (hb : ¬ X c) : RkAt w' c s good := ⟨(hX.block c h.blk.lt hb).trans h.blk, h.ok, h.le, h.kept⟩
theorem RkAt.step (h : RkAt w c s good) (hb : Below w.heap.size w w') : RkAt w' c s good := ⟨h.blk.below hb h.blk.lt, h.ok, h.le, h.kept⟩
set_option maxRecDepth 100000 in
theorem rfNow_any (h : RkAt w c s good) (k : Int) : Calls Try.prog 16 #[.pointer (some ⟨c, 0, none⟩), .int .i64 k] w fun e w' => e = .returned (.int .i64 (s.now k)) ∧ w = w' := by
  have c0 := h.blk.cell (k := 0) rfl
  have c1 := h.blk.cell (k := 1) rfl
  have c2 := h.blk.cell (k := 2) rfl
  have hc : k < 0 ∨ 3 ≤ k ∨ k = 0 ∨ k = 1 ∨ k = 2 := by omega
  clear h
  rcases hc with hc | hc | rfl | rfl | rfl
  · have e0 : s.now k = 0 := by unfold S.now; rw [if_neg (by omega), if_neg (by omega), if_neg (by omega)]
    rw [e0]
    clear e0
    go_enter Try.func16, Try.ntmps16
    go_wp2
    go_ret
    exact ⟨rfl, rfl⟩
  · have e0 : s.now k = 0 := by unfold S.now; rw [if_neg (by omega), if_neg (by omega), if_neg (by omega)]
    rw [e0]
    have h0 : ¬ k < 0 := by omega
    clear e0
    go_enter Try.func16, Try.ntmps16
    go_wp2
    go_ret
    exact ⟨rfl, rfl⟩
  all_goals
    go_enter Try.func16, Try.ntmps16
    go_wp2
    go_ret
    exact ⟨rfl, rfl⟩
set_option maxRecDepth 100000 in
theorem rfNew_no (t : T3) (he : ¬ Btw 0 M t) (w : World) : Calls Try.prog 9 #[.agg (t3Cells t).toArray] w fun e w' => e = .returned (.tuple #[.pointer none, .int .i64 5]) ∧ Below w.heap.size w w' := by
  obtain ⟨w1, hw1⟩ : ∃ w1, w1 = w.alloc (.cells (t3Cells t).toArray 22) := ⟨_, rfl⟩
  have B1 : Below w.heap.size w w1 := by rw [hw1]; exact step_alloc (Below.refl _ w) _
  have b1 : BlkR 22 w1 w.heap.size (t3Cells t) := by rw [hw1]; exact BlkR.new w _ _
  have HS := Lib.hid b1
  have BB := Lib.hid B1
  have HE := Lib.hid he
  obtain ⟨xs, hxs⟩ : ∃ xs, xs = t3Cells t := ⟨_, rfl⟩
  rw [← hxs] at hw1 ⊢
  clear hxs b1 B1 he
  go_enter Try.func9, Try.ntmps9
  go_wp2
  rw [← hw1]
  clear hw1
  go_loop [4] (fun ix => ∃ k : Nat, k ≤ 3 ∧ ix = .int .i64 (k : Int) ∧ ∀ j, j < k → 0 ≤ t.get j ∧ t.get j ≤ M) (fun ix => 3 - vI ix)
  case atStart => exact ⟨0, by decide, rfl, fun j hj => by omega⟩
  case round =>
    obtain ⟨k, hk, rfl, hg⟩ := hrel
    by_cases hk3 : (k : Int) < 3
    · have y := HS.out.cell (get_cell (t := t) (k := k) (by omega))
      obtain ⟨v, hv⟩ : ∃ v, v = t.get k := ⟨_, rfl⟩
      have HV := Lib.hid hv
      have HG := Lib.hid (And.intro hg hk3)
      rw [← hv] at y
      clear hv hg hk
      by_cases h0 : v < 0
      · go_wp2
        go_ret2
        exact ⟨rfl, BB.out⟩
      · by_cases h1 : 1099511627776 < v
        · go_wp2
          go_ret2
          exact ⟨rfl, BB.out⟩
        · have HN := Lib.hid (And.intro h0 h1)
          go_wp2
          exact ⟨⟨k + 1, by have := HG.out.2; omega, by go_num, fun j hj => (by
            by_cases e : j = k
            · rw [e, ← HV.out]
              have := HN.out
              unfold M
              omega
            · exact HG.out.1 j (by omega))⟩, by have := HG.out.2; simp [vI]; omega⟩
    · exact absurd (btw_get.2 fun j hj => hg j (by omega)) HE.out
/-- new ones of the document's at g -/
def RfNew (t : T3) (w : World) (e : Ending) (w' : World) : Prop := ∃ g, e = .returned (.tuple #[.pointer (some ⟨g, 0, none⟩), .int .i64 0]) ∧ RkAt w' g (new t) 0 ∧ w.heap.size ≤ g ∧ Below w.heap.size w w'
set_option maxRecDepth 100000 in
theorem rfNew_yes (t : T3) (he : Btw 0 M t) (w : World) : Calls Try.prog 9 #[.agg (t3Cells t).toArray] w (RfNew t w) := by
  obtain ⟨w1, hw1⟩ : ∃ w1, w1 = w.alloc (.cells (t3Cells t).toArray 22) := ⟨_, rfl⟩
  have B1 : Below w.heap.size w w1 := by rw [hw1]; exact step_alloc (Below.refl _ w) _
  have b1 : BlkR 22 w1 w.heap.size (t3Cells t) := by rw [hw1]; exact BlkR.new w _ _
  have HS := Lib.hid b1
  have BB := Lib.hid B1
  have HE := Lib.hid he
  have HG := Lib.hid (btw_get.1 he)
  obtain ⟨xs, hxs⟩ : ∃ xs, xs = t3Cells t := ⟨_, rfl⟩
  rw [← hxs] at hw1 ⊢
  clear hxs b1 B1 he
  go_enter Try.func9, Try.ntmps9
  go_wp2
  rw [← hw1]
  clear hw1
  go_loop [4] (fun ix => ∃ k : Nat, k ≤ 3 ∧ ix = .int .i64 (k : Int)) (fun ix => 3 - vI ix)
  case atStart => exact ⟨0, by decide, rfl⟩
  case round =>
    obtain ⟨k, hk, rfl⟩ := hrel
    by_cases hk3 : (k : Int) < 3
    · have y := HS.out.cell (get_cell (t := t) (k := k) (by omega))
      obtain ⟨v, hv⟩ : ∃ v, v = t.get k := ⟨_, rfl⟩
      obtain ⟨h0, h1⟩ := HG.out k (by omega)
      rw [← hv] at y h0 h1
      have h2 : ¬ v < 0 := by omega
      have h3 : ¬ 1099511627776 < v := by unfold M at h1; omega
      have HK := Lib.hid hk3
      clear hv hk h0 h1
      go_wp2
      exact ⟨⟨k + 1, by have := HK.out; omega, by go_num⟩, by have := HK.out; simp [vI]; omega⟩
    · have x0 := HS.out.cell (k := 0) rfl
      have x1 := HS.out.cell (k := 1) rfl
      have x2 := HS.out.cell (k := 2) rfl
      go_wp2
      go_ret2
      exact ⟨w1.heap.size, rfl, ⟨BlkR.new w1 (rkC t 0 0) _, HE.out, Nat.le_refl _, ⟨fun _ => rfl, fun _ => rfl⟩⟩, BB.out.size, step_alloc BB.out _⟩
end
end Go.Proofs.Ytfopjilncfndnaa
