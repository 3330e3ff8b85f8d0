/-
  A slice of blocks' bytes, as the statements on stores keep it: made, filled, set, read. Conditions: none.
-/
import Derived.Test.YtlchpolheciadaaDoorStAnew
import Derived.Test.YtlchpolheciadaaDoorRowStep
namespace Go.Proofs.YtlchpolheciadaaDoor
open Go.RowKit Fix

set_option maxRecDepth 100000 in
theorem elBB : Elem Tryd.prog 53 22 (.slice none 0 0) 24 := ⟨Tryd.underlying53, ⟨_, rfl, by kernel_rfl, by kernel_rfl, by kernel_rfl⟩, rfl, rfl⟩
/-- a value of one cell, stored into a block; the world behind it is a letter -/
theorem run_storeCell {P : Program} {E : TypeId} {w : World} {q k : Nat} {xs : List Value} (ty : TypeId) (v : Value) (hb : BlkR E w q xs) (hk : k < xs.length) (hi : (P.info? ty).map (·.size) = some 1) (h1 : v.oneCell' = true) : (storeVar ty ⟨q, k, none⟩ v).run P w = .ok () (w.setCell ⟨q, k, none⟩ v) := by
  have hc : v.cells = #[v] := by cases v <;> first | rfl | cases h1
  have hs : (w.cell? ⟨q, k, none⟩).isSome = true := by rw [hb.cell (List.getElem?_eq_getElem hk)]; rfl
  have hf := hb.frozen k
  have e := run_storeCells_cells (P := P) q k [v] 0 w (fun j hj => by
    simp only [List.length_cons, List.length_nil] at hj
    obtain rfl : j = 0 := by omega
    exact hs) (fun j hj => by
    simp only [List.length_cons, List.length_nil] at hj
    obtain rfl : j = 0 := by omega
    exact hf) (fun x hx => by simp at hx; subst hx; exact h1)
  rw [World.setCells, World.setCells, Nat.add_zero] at e
  cases hq : P.info? ty with
  | none => simp [hq] at hi
  | some i =>
    have hs1 : i.size = 1 := by simpa [hq] using hi
    simp [storeVar, sizeOf, typeInfo, hq, hc, hs1, e]
theorem wpList_storeCell {P : Program} {E : TypeId} {w : World} {q k : Nat} {xs : List Value} {ops : Array Oper} {rest : List Oper} {o : Oper} {a : Act} {Q : Exit → Act → World → Prop} (hgd : o.guard = none) (ty : TypeId) (x y : Operand) (ho : o.op = .store ty x y) (v : Value) (hx : a.eval x = .pointer (some ⟨q, k, none⟩)) (hy : a.eval y = v)
    (hb : BlkR E w q xs) (hk : k < xs.length) (hi : (P.info? ty).map (·.size) = some 1) (h1 : v.oneCell' = true)
    (h : ∀ w', BlkR E w' q (xs.set k v) → Below q w w' → w'.heap.size = w.heap.size → (∀ j, j ≠ q → w'.heap[j]? = w.heap[j]?) → wpList P ops Q rest (a.put o.dst undef) w') : wpList P ops Q (o :: rest) a w := by
  refine wpList_plain hgd fun _ hK => ?_
  unfold Oper.wp execOp
  simp only [ho, hx, hy, Instr.storeAt, Instr.sureAddr, Sem.run_bind, Sem.run_pure, Result.andThen_ok, run_storeCell ty v hb hk hi h1]
  exact hK _ _ (h _ (hb.set_ k v) ((Below.refl _ _).setCell (p := ⟨q, k, none⟩) (Nat.le_refl _) v) (by simp [World.setCell]) fun j hj => Below.heap_setCell w ⟨q, k, none⟩ v j hj)
theorem makeBB (n : Nat) (hn : n ≤ 1000) (w : World) : (Instr.makeSlice 53 (.int .i64 (n : Int)) (.int .i64 (n : Int))).run Tryd.prog w = .ok (.slice (some ⟨w.heap.size, 0, none⟩) n n) (w.alloc (.cells (List.replicate n (.slice none 0 0)).toArray 22)) := make_row elBB n n (Nat.le_refl _) (by omega) (by unfold maxLen; omega) w
theorem sizeBB : (Tryd.prog.info? 22).map (·.size) = some 1 := by kernel_rfl
/-- a slice of n blocks' bytes, at q, beside a store -/
structure HasAt (H : Nat → Prop) (w : World) (q n : Nat) (f : Nat → List UInt8) : Prop where
  nq : ¬ H q
  blk : ∃ vs : List Value, vs.length = n ∧ BlkR 22 w q vs ∧ ∀ k, k < n → ∃ A c, vs[k]? = some (.slice A (f k).length c) ∧ Aside H w A (f k) ∧ (f k ≠ [] → ∀ ad, A = some ad → ad.block ≠ q)
section
variable {H H' : Nat → Prop} {w w' : World} {q n k c : Nat} {f : Nat → List UInt8} {A : Option Addr} {d : List UInt8}
theorem HasAt.keep (h : HasAt H w q n f) (K : Keep H w H' w') : HasAt H' w' q n f := by
  obtain ⟨vs, h1, h2, h3⟩ := h.blk
  refine ⟨fun x => (K.own q x).elim h.nq fun y => by have := h2.lt; omega, vs, h1, K.blk h2 h.nq, fun k hk => ?_⟩
  obtain ⟨A, c, e1, e2, e3⟩ := h3 k hk
  exact ⟨A, c, e1, e2.keep K, e3⟩
theorem HasAt.step (h : HasAt H w q n f) (hb : Below w.heap.size w w') : HasAt H w' q n f := h.keep (Keep.of_below hb)
theorem HasAt.at_ (h : HasAt H w q n f) (hk : k < n) : ∃ A c, w.cell? ⟨q, k, none⟩ = some (.slice A (f k).length c) ∧ Aside H w A (f k) := by
  obtain ⟨vs, h1, h2, h3⟩ := h.blk
  obtain ⟨A, c, e1, e2, _⟩ := h3 k hk
  exact ⟨A, c, h2.cell e1, e2⟩
theorem HasAt.congr {f2 : Nat → List UInt8} (h : HasAt H w q n f) (e : ∀ k, k < n → f k = f2 k) : HasAt H w q n f2 := by
  obtain ⟨vs, h1, h2, h3⟩ := h.blk
  refine ⟨h.nq, vs, h1, h2, fun k hk => ?_⟩
  rw [← e k hk]
  exact h3 k hk
theorem Aside.else_ (h : Aside H w A d) (hs : w'.heap.size = w.heap.size) (hk : ∀ j, j ≠ q → w'.heap[j]? = w.heap[j]?) (hA : d ≠ [] → ∀ ad, A = some ad → ad.block ≠ q) : Aside H w' A d := by
  refine ⟨fun hne => ?_, fun hl ad e => ⟨by rw [hs]; exact (h.2 hl ad e).1, (h.2 hl ad e).2⟩⟩
  obtain ⟨ad, e, hlt, hc⟩ := h.1 hne
  exact ⟨ad, e, by rw [hs]; exact hlt, fun j hj => (World.cell?_of_block (w := w) (hk _ (by rw [block_add]; exact hA hne ad e))).trans (hc j hj)⟩
/-- one of them set -/
theorem HasAt.set (h : HasAt H w q n f) (hk : k < n) (ha : Aside H w A d) (hA : d ≠ [] → ∀ ad, A = some ad → ad.block ≠ q) {vs : List Value} (hv : BlkR 22 w q vs) (hb : BlkR 22 w' q (vs.set k (.slice A d.length c))) (hs : w'.heap.size = w.heap.size) (ho : ∀ j, j ≠ q → w'.heap[j]? = w.heap[j]?) : HasAt H w' q n (DS.upd f k d) := by
  obtain ⟨vs', h1, h2, h3⟩ := h.blk
  obtain rfl : vs' = vs := by
    unfold BlkR at h2 hv
    rw [h2] at hv
    have := congrArg Array.toList (show vs'.toArray = vs.toArray by injection hv with e; injection e)
    simpa using this
  refine ⟨h.nq, _, by rw [List.length_set]; exact h1, hb, fun j hj => ?_⟩
  by_cases e : j = k
  · subst e
    refine ⟨A, c, ?_, ?_, ?_⟩
    · rw [List.getElem?_set_self (by omega)]
      simp [DS.upd]
    · simpa [DS.upd] using ha.else_ hs ho hA
    · simpa [DS.upd] using hA
  · obtain ⟨A', c', e1, e2, e3⟩ := h3 j hj
    refine ⟨A', c', ?_, ?_, ?_⟩
    · rw [List.getElem?_set_ne (fun x => e x.symm)]
      simpa [DS.upd, e] using e1
    · simpa [DS.upd, e] using e2.else_ hs ho e3
    · simpa [DS.upd, e] using e3
theorem HasAt.row (h : HasAt H w q n f) : ∃ vs, vs.length = n ∧ BlkR 22 w q vs := by
  obtain ⟨vs, h1, h2, _⟩ := h.blk
  exact ⟨vs, h1, h2⟩
/-- a new row of no bytes -/
def bbO (n : Nat) : Obj := .cells (List.replicate n (.slice none 0 0)).toArray 22
/-- made, of nothing -/
theorem HasAt.new (w : World) (n : Nat) (hl : ∀ k, H k → k < w.heap.size) : HasAt H (w.alloc (bbO n)) w.heap.size n (fun _ => []) := by
  refine ⟨fun x => Nat.lt_irrefl _ (hl _ x), List.replicate n (.slice none 0 0), List.length_replicate, BlkR.new w _ _, fun k hk => ⟨none, 0, by simp [hk], ⟨bytes_nil, fun x => absurd rfl x⟩, fun x => absurd rfl x⟩⟩
end
/-- the first j of them -/
def firstOf (j : Nat) (d : List UInt8) (k : Nat) : List UInt8 := if k < j then d else []
theorem firstOf_zero (d : List UInt8) (k : Nat) : (fun _ : Nat => ([] : List UInt8)) k = firstOf 0 d k := by simp [firstOf]
theorem firstOf_succ (j : Nat) (d : List UInt8) (k : Nat) : DS.upd (firstOf j d) j d k = firstOf (j + 1) d k := by
  unfold DS.upd firstOf
  by_cases h : k = j
  · simp [h]
  · by_cases h2 : k < j
    · rw [if_neg h, if_pos h2, if_pos (by omega)]
    · rw [if_neg h, if_neg h2, if_neg (by omega)]
theorem firstOf_all (n : Nat) (d : List UInt8) (k : Nat) (h : k < n) : firstOf n d k = (fun _ : Nat => d) k := by simp [firstOf, h]
end Go.Proofs.YtlchpolheciadaaDoor
