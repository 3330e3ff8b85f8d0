/-
  ClockSums: what stands in its loops. Conditions: none.
-/
import Derived.Test.YtfopjilncfndnaaCkDrift
import Derived.Test.YtfopjilncfndnaaCkSumM
namespace Go.Proofs.Ytfopjilncfndnaa
open Go.RowKit Ck

set_option maxRecDepth 100000 in
theorem el3 : ElemK Try.prog 23 22 [.int .i64 0, .int .i64 0, .int .i64 0] 3 24 := ⟨Try.underlying23, ⟨_, _, rfl, rfl, by kernel_rfl, by kernel_rfl, by kernel_rfl⟩, rfl, by decide, by
  intro v hv
  simp only [List.mem_cons, List.not_mem_nil, or_false] at hv
  rcases hv with rfl | rfl | rfl <;> rfl⟩
/-- both clocks, the sum, those that were done -/
structure Sd (W wr : World) (g1 g2 hb : Nat) (s s' : S) (x : T3) (v : Value) (Q : List T3) : Prop where
  c : Cz W wr g1 s
  d : Cz W wr g2 s'
  blk : BlkR 22 wr hb (t3Cells x)
  own : OwnK 22 3 wr W.heap.size v Q.length (Q.flatMap t3Cells)
  n12 : g1 ≠ g2
  n1 : hb ≠ g1
  n2 : hb ≠ g2
  far : ∀ j, v.ownBlock = some j → j ≠ g1 ∧ j ≠ g2 ∧ j ≠ hb
  ge : W.heap.size ≤ hb
section
variable {W w w' : World} {g1 g2 hb : Nat} {s s' s2 : S} {x y b : T3} {v v' : Value} {Q : List T3}
theorem Sd.step (h : Sd W w g1 g2 hb s s' x v Q) (B : Below w.heap.size w w') : Sd W w' g1 g2 hb s s' x v Q :=
  ⟨h.c.step B, h.d.step B, h.blk.below B h.blk.lt, h.own.frame fun j hj => B.block j (h.own.lt j hj).2, h.n12, h.n1, h.n2, h.far, h.ge⟩
theorem Sd.tickC (h : Sd W w g1 g2 hb s s' x v Q) (k : Cz W w' g1 s2) (F : Frame (OneB g1) w w') : Sd W w' g1 g2 hb s2 s' x v Q :=
  ⟨k, h.d.frame F (fun e => h.n12 e.symm) (fun _ e => e ▸ h.c.ge), (F.block hb h.blk.lt h.n1).trans h.blk, h.own.frame fun j hj => F.block j (h.own.lt j hj).2 (h.far j hj).1, h.n12, h.n1, h.n2, h.far, h.ge⟩
theorem Sd.tickD (h : Sd W w g1 g2 hb s s' x v Q) (k : Cz W w' g2 s2) (F : Frame (OneB g2) w w') : Sd W w' g1 g2 hb s s2 x v Q :=
  ⟨h.c.frame F (fun e => h.n12 e) (fun _ e => e ▸ h.d.ge), k, (F.block hb h.blk.lt h.n2).trans h.blk, h.own.frame fun j hj => F.block j (h.own.lt j hj).2 (h.far j hj).2.1, h.n12, h.n1, h.n2, h.far, h.ge⟩
theorem Sd.blk_ (h : Sd W w g1 g2 hb s s' x v Q) (k : BlkR 22 w' hb (t3Cells y)) (F : Frame (OneB hb) w w') : Sd W w' g1 g2 hb s s' y v Q :=
  ⟨h.c.frame F (fun e => h.n1 e.symm) (fun _ e => e ▸ h.ge), h.d.frame F (fun e => h.n2 e.symm) (fun _ e => e ▸ h.ge), k, h.own.frame fun j hj => F.block j (h.own.lt j hj).2 (h.far j hj).2.2, h.n12, h.n1, h.n2, h.far, h.ge⟩
/-- one more is done -/
theorem Sd.push (h : Sd W w g1 g2 hb s s' x v Q) (own : OwnK 22 3 w' W.heap.size v' (Q.length + 1) (Q.flatMap t3Cells ++ t3Cells b)) (hg : w.grownBy w' v.ownBlock) (hat : v'.ownBlock = v.ownBlock ∨ v'.ownBlock = some w.heap.size) : Sd W w' g1 g2 hb s s' x v' (Q ++ [b]) := by
  have F : Frame (fun j => v.ownBlock = some j) w w' := ⟨hg.os, hg.tape, hg.output, hg.size, fun j hj hn => hg.block j hj fun e => hn e.symm⟩
  have hk : ∀ k, v.ownBlock = some k → W.heap.size ≤ k := fun k e => (h.own.lt k e).1
  refine ⟨h.c.frame F (fun e => (h.far _ e).1 rfl) hk, h.d.frame F (fun e => (h.far _ e).2.1 rfl) hk, (F.block hb h.blk.lt (fun e => (h.far _ e).2.2 rfl)).trans h.blk, by rw [List.length_append, List.length_singleton, List.flatMap_append, List.flatMap_singleton]; exact own, h.n12, h.n1, h.n2, fun j hj => ?_, h.ge⟩
  rcases hat with k | k
  · exact h.far j (by rw [← k]; exact hj)
  · rw [k] at hj
    injection hj with hj
    have := h.c.blt; have := h.d.blt; have := h.blk.lt
    omega
end
/-- the sum while the first parts were added -/
theorem ps_set {t u : T3} {k : Nat} {j v : Int} (hj : j = k) (hv : (t3Cells (t.plus u))[k]? = some (.int .i64 v)) : (t3Cells (pt t u j)).set k (.int .i64 v) = t3Cells (pt t u (j + 1)) := by
  subst hj
  match k with
  | 0 => simp [t3Cells] at hv; subst hv; rfl
  | 1 => simp [t3Cells] at hv; subst hv; rfl
  | 2 => simp [t3Cells] at hv; subst hv; rfl
  | k + 3 => simp [t3Cells] at hv
theorem t3_set {w : World} {hb : Nat} {t : T3} (r : BlkR 22 w hb (t3Cells t)) (k : Nat) (v : Value) : BlkR 22 (w.setCell ⟨hb, k, none⟩ v) hb ((t3Cells t).set k v) ∧ Frame (OneB hb) w (w.setCell ⟨hb, k, none⟩ v) :=
  ⟨r.set_ k v, ⟨rfl, rfl, rfl, by simp, fun j _ hj => Below.heap_setCell w ⟨hb, k, none⟩ v j hj⟩⟩
end Go.Proofs.Ytfopjilncfndnaa
