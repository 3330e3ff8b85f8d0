/-
  RecordMost: three nodes' records in memory; who is no candidate. Conditions: sets are ints of 64 bits.
-/
import Derived.Test.YtofecokbpopdnaaRcLaw
import Derived.Test.YtofecokbpopdnaaRegPhase
import Derived.Test.YtofecokbpopdnaaModNat
namespace Go.Proofs.Ytofecokbpopdnaa
open Go.RowKit Rc

def lC (l : Nat → R) : List Value := [.int .i64 (l 0).t, .int .i64 (l 0).n, .int .i64 (l 0).s, .int .i64 (l 1).t, .int .i64 (l 1).n, .int .i64 (l 1).s, .int .i64 (l 2).t, .int .i64 (l 2).n, .int .i64 (l 2).s]
/-- since w0: a record at g, three nodes' at k -/
structure Mo (w0 : World) (g k : Nat) (A : R) (l : Nat → R) (w : World) : Prop where
  fr : Below w0.heap.size w0 w
  b1 : BlkR 23 w g (rcL A.t A.n A.s)
  b2 : BlkR 36 w k (lC l)
section
variable {w0 w w' : World} {g k : Nat} {A : R} {l : Nat → R}
theorem Mo.step (K : Mo w0 g k A l w) (B : Below w.heap.size w w') : Mo w0 g k A l w' := ⟨step_trans K.fr B, K.b1.below B K.b1.lt, K.b2.below B K.b2.lt⟩
theorem Mo.own (K : Mo w0 g k A l w) : w.cell? ⟨g, 0, none⟩ = some (.int .i64 A.t) ∧ w.cell? ⟨g, 1, none⟩ = some (.int .i64 A.n) ∧ w.cell? ⟨g, 2, none⟩ = some (.int .i64 A.s) := rc_box K.b1
theorem Mo.at_ (K : Mo w0 g k A l w) {i : Nat} (hi : i < 3) : w.cell? ⟨k, i * 3, none⟩ = some (.int .i64 (l i).t) ∧ w.cell? ⟨k, i * 3 + 1, none⟩ = some (.int .i64 (l i).n) ∧ w.cell? ⟨k, i * 3 + 2, none⟩ = some (.int .i64 (l i).s) := by
  rcases lt3 hi with rfl | rfl | rfl <;> exact ⟨K.b2.cell rfl, K.b2.cell rfl, K.b2.cell rfl⟩
theorem Mo.new (w : World) (A : R) (l : Nat → R) : Mo w w.heap.size (w.heap.size + 1) A l ((w.alloc (.cells #[.int .i64 A.t, .int .i64 A.n, .int .i64 A.s] 23)).alloc (.cells #[.int .i64 (l 0).t, .int .i64 (l 0).n, .int .i64 (l 0).s, .int .i64 (l 1).t, .int .i64 (l 1).n, .int .i64 (l 1).s, .int .i64 (l 2).t, .int .i64 (l 2).n, .int .i64 (l 2).s] 36)) := by
  have s1 : (w.alloc (.cells #[.int .i64 A.t, .int .i64 A.n, .int .i64 A.s] 23)).heap.size = w.heap.size + 1 := by simp
  have p := BlkR.new w (rcL A.t A.n A.s) 23
  have q := BlkR.new (w.alloc (.cells #[.int .i64 A.t, .int .i64 A.n, .int .i64 A.s] 23)) (lC l) 36
  rw [s1] at q
  exact ⟨step_alloc (step_alloc (Below.refl _ w) _) _, p.below (step_alloc (Below.refl _ _) _) p.lt, q⟩
theorem Mo.say (K : Mo w0 g k A l w) {F : FuncId} {args : Array Value} {x : Bool} (z : Calls Try.prog F args w (Tlb x w)) : Calls Try.prog F args w fun e w' => e = .returned (.bool x) ∧ Mo w0 g k A l w' := z.mono fun _ _ ⟨x, y⟩ => ⟨x, K.step y⟩
theorem Mo.num (K : Mo w0 g k A l w) {F : FuncId} {args : Array Value} {x : Int} (z : Calls Try.prog F args w (Tin x w)) : Calls Try.prog F args w fun e w' => e = .returned (.int .i64 x) ∧ Mo w0 g k A l w' := z.mono fun _ _ ⟨x, y⟩ => ⟨x, K.step y⟩
end
/-- how many of the first ones have it -/
def cnt (f : Nat → Bool) : Nat → Nat
  | 0 => 0
  | i + 1 => cnt f i + (if f i then 1 else 0)
theorem cnt_le (f : Nat → Bool) : ∀ i, cnt f i ≤ i
  | 0 => Nat.le_refl _
  | i + 1 => by have := cnt_le f i; unfold cnt; split <;> omega
theorem cnt_two {f : Nat → Bool} (h : 2 ≤ cnt f 3) {a b : Nat} (ha : a < 3) (hb : b < 3) (hab : a ≠ b) : f a = true ∨ f b = true := by
  rcases lt3 ha with rfl | rfl | rfl <;> rcases lt3 hb with rfl | rfl | rfl <;> first | exact absurd rfl hab | (cases h0 : f 0 <;> cases h1 : f 1 <;> cases h2 : f 2 <;> simp [cnt, h0, h1, h2] at h ⊢)
/-- it has the record, or a newer one -/
def hasIt (A : R) (l : Nat → R) (i : Nat) : Bool := eqR (l i) A || decide (New (l i) A)
theorem most_no {A : R} {l : Nat → R} {a b : Nat} (hn : ¬ Has A.s (a : Int)) (hc : 2 ≤ cnt (hasIt A l) 3) (ha : a < 3) (hb : b < 3) (hab : a ≠ b) (h1 : ¬ New (l a) A) (h2 : ¬ New (l b) A) : ¬ May (l a) (a : Int) (l b) := by
  refine most hn ?_ h1
  rcases cnt_two hc ha hb hab with e | e
  · left
    simp only [hasIt, Bool.or_eq_true, decide_eq_true_eq] at e
    exact e.elim (eqR_iff _ _).1 (fun x => absurd x h1)
  · right
    simp only [hasIt, Bool.or_eq_true, decide_eq_true_eq] at e
    exact e.elim (eqR_iff _ _).1 (fun x => absurd x h2)
section
variable {A : R} {l : Nat → R} {w : World} {n v : Int}
set_option maxRecDepth 100000 in
set_option maxHeartbeats 1000000 in
theorem most_bad (hA : I64 A.s) (h : ¬ Ok A) : Calls Try.prog 7 #[.agg #[.int .i64 A.t, .int .i64 A.n, .int .i64 A.s], .agg #[.int .i64 (l 0).t, .int .i64 (l 0).n, .int .i64 (l 0).s, .int .i64 (l 1).t, .int .i64 (l 1).n, .int .i64 (l 1).s, .int .i64 (l 2).t, .int .i64 (l 2).n, .int .i64 (l 2).s], .int .i64 n, .int .i64 v] w (Tlb true w) := by
  have K := Mo.new w A l
  obtain ⟨y0, y1, y2⟩ := K.own
  have za := fun wx (K : Mo w w.heap.size (w.heap.size + 1) A l wx) => K.say (awake_any wx)
  have zc := fun wx (K : Mo w w.heap.size (w.heap.size + 1) A l wx) => K.num (rcCheck_any A.t A.n A.s hA wx)
  simp only [show errN ⟨A.t, A.n, A.s⟩ = 2 from if_neg h] at zc
  clear h hA
  go_enter Try.func7, Try.ntmps7
  go_wp2_with (first
    | (go_at_call 17; (with_reducible refine (za _ K).mono ?_); (rintro e w2 ⟨rfl, K⟩; obtain ⟨y0, y1, y2⟩ := K.own))
    | (go_at_call 9; (with_reducible refine (zc _ K).mono ?_); (rintro e w2 ⟨rfl, K⟩; obtain ⟨y0, y1, y2⟩ := K.own)))
  go_ret
  exact ⟨rfl, K.fr⟩
set_option maxRecDepth 100000 in
set_option maxHeartbeats 1000000 in
theorem most_n0 (hA : I64 A.s) (h : Ok A) (l9 : n < 0) : Calls Try.prog 7 #[.agg #[.int .i64 A.t, .int .i64 A.n, .int .i64 A.s], .agg #[.int .i64 (l 0).t, .int .i64 (l 0).n, .int .i64 (l 0).s, .int .i64 (l 1).t, .int .i64 (l 1).n, .int .i64 (l 1).s, .int .i64 (l 2).t, .int .i64 (l 2).n, .int .i64 (l 2).s], .int .i64 n, .int .i64 v] w (Tlb true w) := by
  have K := Mo.new w A l
  obtain ⟨y0, y1, y2⟩ := K.own
  have za := fun wx (K : Mo w w.heap.size (w.heap.size + 1) A l wx) => K.say (awake_any wx)
  have zc := fun wx (K : Mo w w.heap.size (w.heap.size + 1) A l wx) => K.num (rcCheck_any A.t A.n A.s hA wx)
  simp only [show errN ⟨A.t, A.n, A.s⟩ = 0 from if_pos h] at zc
  clear h hA
  go_enter Try.func7, Try.ntmps7
  go_wp2_with (first
    | (go_at_call 17; (with_reducible refine (za _ K).mono ?_); (rintro e w2 ⟨rfl, K⟩; obtain ⟨y0, y1, y2⟩ := K.own))
    | (go_at_call 9; (with_reducible refine (zc _ K).mono ?_); (rintro e w2 ⟨rfl, K⟩; obtain ⟨y0, y1, y2⟩ := K.own)))
  go_ret
  exact ⟨rfl, K.fr⟩
set_option maxRecDepth 100000 in
set_option maxHeartbeats 1000000 in
theorem most_n1 (hA : I64 A.s) (h : Ok A) (l0 : ¬ n < 0) (l9 : n > 1) : Calls Try.prog 7 #[.agg #[.int .i64 A.t, .int .i64 A.n, .int .i64 A.s], .agg #[.int .i64 (l 0).t, .int .i64 (l 0).n, .int .i64 (l 0).s, .int .i64 (l 1).t, .int .i64 (l 1).n, .int .i64 (l 1).s, .int .i64 (l 2).t, .int .i64 (l 2).n, .int .i64 (l 2).s], .int .i64 n, .int .i64 v] w (Tlb true w) := by
  have K := Mo.new w A l
  obtain ⟨y0, y1, y2⟩ := K.own
  have za := fun wx (K : Mo w w.heap.size (w.heap.size + 1) A l wx) => K.say (awake_any wx)
  have zc := fun wx (K : Mo w w.heap.size (w.heap.size + 1) A l wx) => K.num (rcCheck_any A.t A.n A.s hA wx)
  simp only [show errN ⟨A.t, A.n, A.s⟩ = 0 from if_pos h] at zc
  clear h hA
  go_enter Try.func7, Try.ntmps7
  go_wp2_with (first
    | (go_at_call 17; (with_reducible refine (za _ K).mono ?_); (rintro e w2 ⟨rfl, K⟩; obtain ⟨y0, y1, y2⟩ := K.own))
    | (go_at_call 9; (with_reducible refine (zc _ K).mono ?_); (rintro e w2 ⟨rfl, K⟩; obtain ⟨y0, y1, y2⟩ := K.own)))
  go_ret
  exact ⟨rfl, K.fr⟩
set_option maxRecDepth 100000 in
set_option maxHeartbeats 1000000 in
theorem most_v0 (hA : I64 A.s) (h : Ok A) (l0 : ¬ n < 0) (l1 : ¬ n > 1) (l9 : v < 0) : Calls Try.prog 7 #[.agg #[.int .i64 A.t, .int .i64 A.n, .int .i64 A.s], .agg #[.int .i64 (l 0).t, .int .i64 (l 0).n, .int .i64 (l 0).s, .int .i64 (l 1).t, .int .i64 (l 1).n, .int .i64 (l 1).s, .int .i64 (l 2).t, .int .i64 (l 2).n, .int .i64 (l 2).s], .int .i64 n, .int .i64 v] w (Tlb true w) := by
  have K := Mo.new w A l
  obtain ⟨y0, y1, y2⟩ := K.own
  have za := fun wx (K : Mo w w.heap.size (w.heap.size + 1) A l wx) => K.say (awake_any wx)
  have zc := fun wx (K : Mo w w.heap.size (w.heap.size + 1) A l wx) => K.num (rcCheck_any A.t A.n A.s hA wx)
  simp only [show errN ⟨A.t, A.n, A.s⟩ = 0 from if_pos h] at zc
  clear h hA
  go_enter Try.func7, Try.ntmps7
  go_wp2_with (first
    | (go_at_call 17; (with_reducible refine (za _ K).mono ?_); (rintro e w2 ⟨rfl, K⟩; obtain ⟨y0, y1, y2⟩ := K.own))
    | (go_at_call 9; (with_reducible refine (zc _ K).mono ?_); (rintro e w2 ⟨rfl, K⟩; obtain ⟨y0, y1, y2⟩ := K.own)))
  go_ret
  exact ⟨rfl, K.fr⟩
set_option maxRecDepth 100000 in
set_option maxHeartbeats 1000000 in
theorem most_v1 (hA : I64 A.s) (h : Ok A) (l0 : ¬ n < 0) (l1 : ¬ n > 1) (l2 : ¬ v < 0) (l9 : v > 2) : Calls Try.prog 7 #[.agg #[.int .i64 A.t, .int .i64 A.n, .int .i64 A.s], .agg #[.int .i64 (l 0).t, .int .i64 (l 0).n, .int .i64 (l 0).s, .int .i64 (l 1).t, .int .i64 (l 1).n, .int .i64 (l 1).s, .int .i64 (l 2).t, .int .i64 (l 2).n, .int .i64 (l 2).s], .int .i64 n, .int .i64 v] w (Tlb true w) := by
  have K := Mo.new w A l
  obtain ⟨y0, y1, y2⟩ := K.own
  have za := fun wx (K : Mo w w.heap.size (w.heap.size + 1) A l wx) => K.say (awake_any wx)
  have zc := fun wx (K : Mo w w.heap.size (w.heap.size + 1) A l wx) => K.num (rcCheck_any A.t A.n A.s hA wx)
  simp only [show errN ⟨A.t, A.n, A.s⟩ = 0 from if_pos h] at zc
  clear h hA
  go_enter Try.func7, Try.ntmps7
  go_wp2_with (first
    | (go_at_call 17; (with_reducible refine (za _ K).mono ?_); (rintro e w2 ⟨rfl, K⟩; obtain ⟨y0, y1, y2⟩ := K.own))
    | (go_at_call 9; (with_reducible refine (zc _ K).mono ?_); (rintro e w2 ⟨rfl, K⟩; obtain ⟨y0, y1, y2⟩ := K.own)))
  go_ret
  exact ⟨rfl, K.fr⟩
set_option maxRecDepth 100000 in
set_option maxHeartbeats 1000000 in
theorem most_eq (hA : I64 A.s) (h : Ok A) (l0 : ¬ n < 0) (l1 : ¬ n > 1) (l2 : ¬ v < 0) (l3 : ¬ v > 2) (l9 : (v == n) = true) : Calls Try.prog 7 #[.agg #[.int .i64 A.t, .int .i64 A.n, .int .i64 A.s], .agg #[.int .i64 (l 0).t, .int .i64 (l 0).n, .int .i64 (l 0).s, .int .i64 (l 1).t, .int .i64 (l 1).n, .int .i64 (l 1).s, .int .i64 (l 2).t, .int .i64 (l 2).n, .int .i64 (l 2).s], .int .i64 n, .int .i64 v] w (Tlb true w) := by
  have K := Mo.new w A l
  obtain ⟨y0, y1, y2⟩ := K.own
  have za := fun wx (K : Mo w w.heap.size (w.heap.size + 1) A l wx) => K.say (awake_any wx)
  have zc := fun wx (K : Mo w w.heap.size (w.heap.size + 1) A l wx) => K.num (rcCheck_any A.t A.n A.s hA wx)
  simp only [show errN ⟨A.t, A.n, A.s⟩ = 0 from if_pos h] at zc
  clear h hA
  go_enter Try.func7, Try.ntmps7
  go_wp2_with (first
    | (go_at_call 17; (with_reducible refine (za _ K).mono ?_); (rintro e w2 ⟨rfl, K⟩; obtain ⟨y0, y1, y2⟩ := K.own))
    | (go_at_call 9; (with_reducible refine (zc _ K).mono ?_); (rintro e w2 ⟨rfl, K⟩; obtain ⟨y0, y1, y2⟩ := K.own)))
  go_ret
  exact ⟨rfl, K.fr⟩
set_option maxRecDepth 100000 in
set_option maxHeartbeats 1000000 in
theorem most_has (hA : I64 A.s) (h : Ok A) (l0 : ¬ n < 0) (l1 : ¬ n > 1) (l2 : ¬ v < 0) (l3 : ¬ v > 2) (l4 : (v == n) = false) (h9 : Has A.s n) : Calls Try.prog 7 #[.agg #[.int .i64 A.t, .int .i64 A.n, .int .i64 A.s], .agg #[.int .i64 (l 0).t, .int .i64 (l 0).n, .int .i64 (l 0).s, .int .i64 (l 1).t, .int .i64 (l 1).n, .int .i64 (l 1).s, .int .i64 (l 2).t, .int .i64 (l 2).n, .int .i64 (l 2).s], .int .i64 n, .int .i64 v] w (Tlb true w) := by
  have K := Mo.new w A l
  obtain ⟨y0, y1, y2⟩ := K.own
  have za := fun wx (K : Mo w w.heap.size (w.heap.size + 1) A l wx) => K.say (awake_any wx)
  have zc := fun wx (K : Mo w w.heap.size (w.heap.size + 1) A l wx) => K.num (rcCheck_any A.t A.n A.s hA wx)
  simp only [show errN ⟨A.t, A.n, A.s⟩ = 0 from if_pos h] at zc
  have zh := fun wx (K : Mo w w.heap.size (w.heap.size + 1) A l wx) => K.say (rcHas_any A.t A.n A.s n wx)
  simp only [decide_eq_true h9] at zh
  clear h hA h9
  go_enter Try.func7, Try.ntmps7
  go_wp2_with (first
    | (go_at_call 17; (with_reducible refine (za _ K).mono ?_); (rintro e w2 ⟨rfl, K⟩; obtain ⟨y0, y1, y2⟩ := K.own))
    | (go_at_call 9; (with_reducible refine (zc _ K).mono ?_); (rintro e w2 ⟨rfl, K⟩; obtain ⟨y0, y1, y2⟩ := K.own))
    | (go_at_call 13; (with_reducible refine (zh _ K).mono ?_); (rintro e w2 ⟨rfl, K⟩; obtain ⟨y0, y1, y2⟩ := K.own)))
  go_ret
  exact ⟨rfl, K.fr⟩
end
end Go.Proofs.Ytofecokbpopdnaa
