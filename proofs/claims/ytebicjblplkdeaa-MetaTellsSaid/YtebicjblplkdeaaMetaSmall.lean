/-
  meta.within, nearest, Check, Newer, First, metaOf, fields: what each tells. Conditions: numbers are ints.
-/
import Derived.Test.YtebicjblplkdeaaRowVar
import Derived.Test.YtebicjblplkdeaaKitStep
import Derived.Test.YtebicjblplkdeaaMetaMath
import Derived.Deep.RegionHeld3
import Derived.Lib.Hide
namespace Go.Proofs.Ytebicjblplkdeaa
open Go.RowKit Fix

/-- a meta's cells -/
def mtL (m : Mt) : List Value := [.int .i64 m.t, .int .i64 m.v, .int .i64 m.rt, .int .i64 m.rn, .int .i64 m.rs, .int .i64 m.b]
theorem mtL_one (m : Mt) : ∀ v ∈ mtL m, v.oneCell' = true := by
  intro v hv
  simp [mtL] at hv
  rcases hv with rfl | rfl | rfl | rfl | rfl | rfl <;> rfl
theorem metaTy : RowTy Try.prog 25 (mtL Mt.zero) := ⟨fun w => by kernel_rfl, by kernel_rfl, _, Try.underlying25, rfl⟩
theorem within_any (n lo hi : Int) (w : World) : Calls Try.prog 35 #[.int .i64 n, .int .i64 lo, .int .i64 hi] w fun e w' => e = .returned (.int .i64 (near n lo hi)) ∧ w = w' := by
  go_enter Try.func35, Try.ntmps35
  go_wp2
  all_goals (go_ret; refine ⟨?_, rfl⟩; unfold near; show Ending.returned (Value.int .i64 _) = _; congr 2; split at * <;> omega)
/-- is the record of Term and N a newer than that of b -/
def newB (a0 a1 b0 b1 : Int) : Bool := decide (b0 < a0) || (decide (a0 = b0) && decide (b1 < a1))
theorem newB_iff (a0 a1 b0 b1 : Int) : newB a0 a1 b0 b1 = true ↔ b0 < a0 ∨ (a0 = b0 ∧ b1 < a1) := by simp [newB]
theorem newer_any (a0 a1 a2 b0 b1 b2 : Int) (w : World) : Calls Try.prog 14 #[.agg #[.int .i64 a0, .int .i64 a1, .int .i64 a2], .agg #[.int .i64 b0, .int .i64 b1, .int .i64 b2]] w fun e w' => e = .returned (.bool (newB a0 a1 b0 b1)) ∧ Below w.heap.size w w' := by
  obtain ⟨q, hq⟩ : ∃ q, q = newB a0 a1 b0 b1 := ⟨_, rfl⟩
  have HQ := Lib.hid ((Bool.eq_iff_iff.1 hq).trans (newB_iff a0 a1 b0 b1))
  rw [← hq]
  clear hq
  go_enter Try.func14, Try.ntmps14
  go_wp2
  all_goals (go_ret; refine ⟨?_, ((Below.refl _ _).alloc (Nat.le_refl _) _).alloc (by simp) _⟩; show Ending.returned (Value.bool _) = _; congr 2; rw [Bool.eq_iff_iff, HQ.out]; simp [*]; try omega)
theorem first_any (w : World) : Calls Try.prog 16 #[] w fun e w' => e = .returned (.agg (mtL Mt.first).toArray) ∧ Below w.heap.size w w' := by
  go_enter Try.func16, Try.ntmps16
  go_wp2
  exact bodyPost_ret (results_cell1 Try.results16 _ _ _ _ _ rfl (loadRow metaTy (xs := mtL Mt.first) (by rfl) (heap_alloc_new _ _))) rfl ⟨rfl, (Below.refl _ _).alloc (Nat.le_refl _) _⟩
def nearM (m : Mt) : Mt := ⟨near m.t 0 1099511627776, near m.v (-1) 2, near m.rt 0 1099511627776, near m.rn 0 1099511627776, near m.rs 0 3, near m.b 0 1099511627776⟩
theorem nearest_any (m : Mt) (w : World) : Calls Try.prog 27 #[.agg (mtL m).toArray] w fun e w' => e = .returned (.agg (mtL (nearM m)).toArray) ∧ Below w.heap.size w w' := by
  have S0 : ∀ C : Obj, Hid (((w.alloc (.cells (mtL m).toArray 25)).alloc C).drew.cell? ⟨w.heap.size, 0, none⟩ = some (.int .i64 m.t) ∧ ((w.alloc (.cells (mtL m).toArray 25)).alloc C).drew.cell? ⟨w.heap.size, 1, none⟩ = some (.int .i64 m.v) ∧ ((w.alloc (.cells (mtL m).toArray 25)).alloc C).drew.cell? ⟨w.heap.size, 2, none⟩ = some (.int .i64 m.rt) ∧ ((w.alloc (.cells (mtL m).toArray 25)).alloc C).drew.cell? ⟨w.heap.size, 3, none⟩ = some (.int .i64 m.rn) ∧ ((w.alloc (.cells (mtL m).toArray 25)).alloc C).drew.cell? ⟨w.heap.size, 4, none⟩ = some (.int .i64 m.rs) ∧ ((w.alloc (.cells (mtL m).toArray 25)).alloc C).drew.cell? ⟨w.heap.size, 5, none⟩ = some (.int .i64 m.b)) := fun C => by
    have b := (BlkR.new w (mtL m) 25).below (Below.refl (w.heap.size + 1) _ |>.alloc (by simp) C) (Nat.lt_succ_self _)
    exact Lib.hid ⟨b.cell rfl, b.cell rfl, b.cell rfl, b.cell rfl, b.cell rfl, b.cell rfl⟩
  unfold mtL at S0 ⊢
  go_enter Try.func27, Try.ntmps27
  go_wp2
  go_region_held3 (fun w' => w'.cell? ⟨w.heap.size, 0, none⟩ = some (.int .i64 m.t) ∧ w'.cell? ⟨w.heap.size, 1, none⟩ = some (.int .i64 m.v) ∧ w'.cell? ⟨w.heap.size, 2, none⟩ = some (.int .i64 m.rt) ∧ w'.cell? ⟨w.heap.size, 3, none⟩ = some (.int .i64 m.rn) ∧ w'.cell? ⟨w.heap.size, 4, none⟩ = some (.int .i64 m.rs) ∧ w'.cell? ⟨w.heap.size, 5, none⟩ = some (.int .i64 m.b)) (first | assumption | exact (S0 _).out) (first
    | (go_at_call 35; refine (within_any _ _ _ _).mono ?_; (rintro e w2 ⟨rfl, rfl⟩)))
  go_wp2
  have hb : BlkR 25 (((w.alloc (.cells (mtL m).toArray 25)).alloc (.cells (mtL (nearM m)).toArray 25)).drew) (w.heap.size + 1) (mtL (nearM m)) := by
    have := heap_alloc_new (w.alloc (.cells (mtL m).toArray 25)) (.cells (mtL (nearM m)).toArray 25)
    rw [World.size_alloc] at this
    exact this
  exact bodyPost_ret (results_cell1 Try.results27 _ _ _ _ _ rfl (loadRow metaTy (xs := mtL (nearM m)) (by rfl) hb)) rfl ⟨rfl, (((Below.refl _ _).alloc (Nat.le_refl _) _).alloc (by simp) _).drew⟩
theorem nearM_iff (m : Mt) : m = nearM m ↔ m.ok = true := by
  rw [Mt.ok_iff]
  unfold nearM
  constructor
  · intro h
    have h1 := congrArg Mt.t h; have h2 := congrArg Mt.v h; have h3 := congrArg Mt.rt h; have h4 := congrArg Mt.rn h; have h5 := congrArg Mt.rs h; have h6 := congrArg Mt.b h
    simp only [near] at h1 h2 h3 h4 h5 h6
    omega
  · rintro ⟨h1, h2, h3, h4, h5, h6⟩
    rw [near_in h1.1 h1.2, near_in h2.1 h2.2, near_in h3.1 h3.2, near_in h4.1 h4.2, near_in h5.1 h5.2, near_in h6.1 h6.2]
theorem mtL_inj {m n : Mt} : mtL m = mtL n ↔ m = n := by
  constructor
  · intro h
    simp [mtL] at h
    cases m; cases n
    simp_all
  · rintro rfl; rfl
theorem BlkR.go {E : TypeId} {w w' : World} {g : Nat} {xs : List Value} (h : BlkR E w g xs) (hb : Below w.heap.size w w') : BlkR E w' g xs := h.below hb h.lt
theorem boxM (m : Mt) (w : World) : Hid (∀ w', Below (w.heap.size + 1) (w.alloc (.cells (mtL m).toArray 25)) w' → w'.cell? ⟨w.heap.size, 0, none⟩ = some (.int .i64 m.t) ∧ w'.cell? ⟨w.heap.size, 1, none⟩ = some (.int .i64 m.v) ∧ w'.cell? ⟨w.heap.size, 2, none⟩ = some (.int .i64 m.rt) ∧ w'.cell? ⟨w.heap.size, 3, none⟩ = some (.int .i64 m.rn) ∧ w'.cell? ⟨w.heap.size, 4, none⟩ = some (.int .i64 m.rs) ∧ w'.cell? ⟨w.heap.size, 5, none⟩ = some (.int .i64 m.b)) := Lib.hid fun w' hb => by
  have b := (BlkR.new w (mtL m) 25).below hb (Nat.lt_succ_self _)
  exact ⟨b.cell rfl, b.cell rfl, b.cell rfl, b.cell rfl, b.cell rfl, b.cell rfl⟩
theorem below_box {w w2 : World} {o : Obj} (h : Below (w.heap.size + 1) (w.alloc o) w2) : Below w.heap.size w w2 := ((Below.refl _ _).alloc (Nat.le_refl _) o).trans (h.mono (Nat.le_succ _))
/-- are both the same -/
def eqB (m n : Mt) : Bool := decide (m.t = n.t) && (decide (m.v = n.v) && (decide (m.rt = n.rt) && (decide (m.rn = n.rn) && (decide (m.rs = n.rs) && decide (m.b = n.b)))))
theorem eqB_iff (m n : Mt) : eqB m n = true ↔ m = n := by
  cases m; cases n; simp [eqB]
theorem eqB_self (m : Mt) : eqB m m = true := (eqB_iff m m).2 rfl
theorem eqB_no {m n : Mt} (h : m ≠ n) : eqB m n = false := by
  rw [← Bool.not_eq_true, eqB_iff]; exact h
theorem eqM (m n : Mt) (w : World) : (Op.equalIn 10000 25 (.agg (mtL m).toArray) (.agg (mtL n).toArray)).run Try.prog w = .ok (eqB m n) w := by
  obtain ⟨q, hq⟩ : ∃ q, q = eqB m n := ⟨_, rfl⟩
  have HQ := Lib.hid hq
  rw [← hq]
  clear hq
  unfold mtL
  go_simp
  rw [HQ.out]
  unfold eqB
  by_cases h1 : m.t = n.t <;> by_cases h2 : m.v = n.v <;> by_cases h3 : m.rt = n.rt <;> by_cases h4 : m.rn = n.rn <;> by_cases h5 : m.rs = n.rs <;> by_cases h6 : m.b = n.b <;> simp [h1, h2, h3, h4, h5, h6]
theorem check_any (m : Mt) (w : World) : Calls Try.prog 11 #[.agg (mtL m).toArray] w fun e w' => e = .returned (.int .i64 m.err) ∧ Below w.heap.size w w' := by
  have z := fun w => nearest_any m w
  have S0 := boxM m w
  have E := fun w => eqM m (nearM m) w
  have hm : Hid (m.err = if eqB m (nearM m) = true then 0 else 2) := Lib.hid (by
    by_cases h : m = nearM m
    · rw [(eqB_iff _ _).2 h, Mt.err_ok ((nearM_iff m).1 h)]; rfl
    · rw [eqB_no h, Mt.err_no (by rw [← Bool.not_eq_true]; exact fun h2 => h ((nearM_iff m).2 h2))]; rfl)
  obtain ⟨n, hn⟩ : ∃ n, n = nearM m := ⟨_, rfl⟩
  obtain ⟨x, hx⟩ : ∃ x, x = m.err := ⟨_, rfl⟩
  rw [← hn] at z hm E
  rw [← hx] at hm ⊢
  clear hn hx
  obtain ⟨q, hq⟩ : ∃ q, q = eqB m n := ⟨_, rfl⟩
  rw [← hq] at hm E
  clear hq
  unfold mtL at S0 z E ⊢
  go_enter Try.func11, Try.ntmps11
  go_wp2
  go_region_held3 (fun w' => w'.cell? ⟨w.heap.size, 0, none⟩ = some (.int .i64 m.t) ∧ w'.cell? ⟨w.heap.size, 1, none⟩ = some (.int .i64 m.v) ∧ w'.cell? ⟨w.heap.size, 2, none⟩ = some (.int .i64 m.rt) ∧ w'.cell? ⟨w.heap.size, 3, none⟩ = some (.int .i64 m.rn) ∧ w'.cell? ⟨w.heap.size, 4, none⟩ = some (.int .i64 m.rs) ∧ w'.cell? ⟨w.heap.size, 5, none⟩ = some (.int .i64 m.b)) (first | assumption | exact S0.out _ (Below.refl _ _).drew | exact S0.out _ B2) (first
    | (go_at_call 27; refine (z _).mono ?_; (rintro e w2 ⟨rfl, B2⟩; have B2 : Below (w.heap.size + 1) (w.alloc (.cells (mtL m).toArray 25)) w2 := undrew (by simpa [mtL] using B2))))
  cases q with
  | true =>
    have hm := hm.out
    simp only [if_true] at hm
    subst hm
    go_wp2
    go_ret
    exact ⟨rfl, below_box B2⟩
  | false =>
    have hm := hm.out
    simp only [Bool.false_eq_true, if_false] at hm
    subst hm
    go_wp2
    go_ret
    exact ⟨rfl, below_box B2⟩
/-- the fields' cells -/
def fldL (a b c d e f : Int) : List Value := [.int .i64 a, .int .i64 6, .int .i64 b, .int .i64 1, .int .i64 c, .int .i64 6, .int .i64 d, .int .i64 6, .int .i64 e, .int .i64 1, .int .i64 f, .int .i64 6]
def fldZ : List Value := [.int .i64 0, .int .i64 0, .int .i64 0, .int .i64 0, .int .i64 0, .int .i64 0, .int .i64 0, .int .i64 0, .int .i64 0, .int .i64 0, .int .i64 0, .int .i64 0]
theorem fldL_one (a b c d e f : Int) : ∀ v ∈ fldL a b c d e f, v.oneCell' = true := by
  intro v hv
  simp only [fldL, List.mem_cons, List.not_mem_nil, or_false] at hv
  rcases hv with rfl | rfl | rfl | rfl | rfl | rfl | rfl | rfl | rfl | rfl | rfl | rfl <;> rfl
theorem fldTy : RowTy Try.prog 44 fldZ := ⟨fun w => by kernel_rfl, by kernel_rfl, _, Try.underlying44, rfl⟩
theorem fields_any (m : Mt) (hv : -9223372036854775808 ≤ m.v ∧ m.v < 9223372036854775807) (w : World) : Calls Try.prog 21 #[.agg (mtL m).toArray] w fun e w' => e = .returned (.agg (fldL m.t (m.v + 1) m.rt m.rn m.rs m.b).toArray) ∧ Below w.heap.size w w' := by
  have e1 : IntKind.i64.wrap (m.v + 1) = m.v + 1 := IntWalk.i64_in _ (by omega)
  unfold mtL
  go_enter Try.func21, Try.ntmps21
  go_wp2
  have hb : BlkR 44 (((w.alloc (.cells (mtL m).toArray 25)).alloc (.cells (fldL m.t (m.v + 1) m.rt m.rn m.rs m.b).toArray 44))) (w.heap.size + 1) (fldL m.t (m.v + 1) m.rt m.rn m.rs m.b) := by
    have := heap_alloc_new (w.alloc (.cells (mtL m).toArray 25)) (.cells (fldL m.t (m.v + 1) m.rt m.rn m.rs m.b).toArray 44)
    rw [World.size_alloc] at this
    exact this
  exact bodyPost_ret (results_cell1 Try.results21 _ _ _ _ _ rfl (loadRow fldTy (xs := fldL m.t (m.v + 1) m.rt m.rn m.rs m.b) (by rfl) hb)) rfl ⟨rfl, ((Below.refl _ _).alloc (Nat.le_refl _) _).alloc (by simp) _⟩
theorem metaOf_any (a b c d e f : Int) (hb : -9223372036854775808 < b ∧ b ≤ 9223372036854775807) (w : World) : Calls Try.prog 25 #[.agg (fldL a b c d e f).toArray] w fun x w' => x = .returned (.agg (mtL ⟨a, b - 1, c, d, e, f⟩).toArray) ∧ Below w.heap.size w w' := by
  have e1 : IntKind.i64.wrap (b - 1) = b - 1 := IntWalk.i64_in _ (by omega)
  unfold fldL
  go_enter Try.func25, Try.ntmps25
  go_wp2
  have hb : BlkR 25 (((w.alloc (.cells (fldL a b c d e f).toArray 44)).alloc (.cells (mtL ⟨a, b - 1, c, d, e, f⟩).toArray 25))) (w.heap.size + 1) (mtL ⟨a, b - 1, c, d, e, f⟩) := by
    have := heap_alloc_new (w.alloc (.cells (fldL a b c d e f).toArray 44)) (.cells (mtL ⟨a, b - 1, c, d, e, f⟩).toArray 25)
    rw [World.size_alloc] at this
    exact this
  exact bodyPost_ret (results_cell1 Try.results25 _ _ _ _ _ rfl (loadRow metaTy (xs := mtL ⟨a, b - 1, c, d, e, f⟩) (by rfl) hb)) rfl ⟨rfl, ((Below.refl _ _).alloc (Nat.le_refl _) _).alloc (by simp) _⟩
end Go.Proofs.Ytebicjblplkdeaa
