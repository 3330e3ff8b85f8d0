/-
  What holds between two calls of a script of maps of dirty blocks. Conditions: none.
-/
import Derived.Test.YtcahpodmcklnbaaGreatDoorDyAct
namespace Go.Proofs.YtcahpodmcklnbaaGreatDoor
open Go.RowKit Fix

structure DsInv (w wr : World) (b c P k : Nat) (F G : Nat → Prop) (S : DS) (o : Option PrM) : Prop where
  pt : PrTwo wr b c P F G S o
  farF : ∀ x, F x → w.heap.size ≤ x
  farG : ∀ x, G x → w.heap.size ≤ x
  farP : ∀ x, PrB P o x → w.heap.size ≤ x
  below : Below w.heap.size w wr
  ops : S.ops ≤ 4 * k
section
variable {w wr w2 w4 w9 : World} {b c P k : Nat} {F G F' G' : Nat → Prop} {S T : DS} {o o' : Option PrM}
theorem DsInv.ms (h : DsInv w wr b c P k F G S o) : MsInv w wr b c k F G S := ⟨h.pt.two, h.farF, h.farG, h.below, h.ops⟩
/-- behind a call: what holds at each world above it -/
theorem DsInv.next (h : DsInv w wr b c P k F G S o) (B : Below wr.heap.size wr w2) (t : PrTwo w4 b c P F' G' T o') (ho : T.ops ≤ S.ops + 4) (o1 : ∀ k, F' k → F k ∨ w2.heap.size ≤ k) (o2 : ∀ k, G' k → G k ∨ w2.heap.size ≤ k) (o3 : ∀ k, PrB P o' k → PrB P o k ∨ w2.heap.size ≤ k)
    (fr : Frame (fun k => (F k ∨ G k) ∨ PrB P o k) w2 w4) (w9 : World) (B9 : Below w4.heap.size w4 w9) : DsInv w w9 b c P (k + 1) F' G' T o' := by
  have hs := h.below.size
  have hs2 := B.size
  have B2 := h.below.trans (B.mono hs)
  refine ⟨t.step B9, fun x hx => ?_, fun x hx => ?_, fun x hx => ?_, ?_, by have := h.ops; omega⟩
  · exact (o1 x hx).elim (h.farF x) fun y => by omega
  · exact (o2 x hx).elim (h.farG x) fun y => by omega
  · exact (o3 x hx).elim (h.farP x) fun y => by omega
  · exact step_trans (B2.trans (fr.below (fun x hx => hx.elim (fun y => y.elim (h.farF x) (h.farG x)) (h.farP x)) B2.size)) B9
/-- behind a change of both disks alone -/
theorem DsInv.next2 (h : DsInv w wr b c P k F G S o) (B : Below wr.heap.size wr w2) (two : Two DiskAt w4 b c F' G' T) (ho : T.ops ≤ S.ops + 4) (o1 : ∀ k, F' k → F k ∨ w2.heap.size ≤ k) (o2 : ∀ k, G' k → G k ∨ w2.heap.size ≤ k) (fr : Frame (fun k => F k ∨ G k) w2 w4) :
    PrTwo w4 b c P F' G' T o ∧ ∀ w9, Below w4.heap.size w4 w9 → DsInv w w9 b c P (k + 1) F' G' T o := by
  have t := (h.pt.step B).keep two o1 o2 fr
  exact ⟨t, fun w9 B9 => h.next B t ho o1 o2 (fun k hk => .inl hk) (fr.mono fun k hk => .inl hk) w9 B9⟩
end
/-- what the end of a round reads -/
theorem prRead {w4 : World} {b c P : Nat} {F G : Nat → Prop} {T : DS} {q : PrM} (t : PrTwo w4 b c P F G T (some q)) (u : World) (B : Below w4.heap.size w4 u) :
    (u.cell? ⟨P, 0, none⟩ = some (.pointer (some ⟨q.g, 0, none⟩)) ∧ u.cell? ⟨P, 1, none⟩ = some (.pointer (some ⟨q.h, 0, none⟩)) ∧ u.cell? ⟨q.h, 2, none⟩ = some (.int .u64 (q.s : Int))) ∧ MpAt u q.g b q.p q.s := by
  have t2 := t.step B
  exact ⟨⟨t2.pr.blk.cell rfl, t2.pr.blk.cell rfl, (t2.pr.r q rfl).cells.2.2.1⟩, t2.pr.m q rfl⟩
theorem prReadNo {w4 : World} {b c P : Nat} {F G : Nat → Prop} {T : DS} (t : PrTwo w4 b c P F G T none) (u : World) (B : Below w4.heap.size w4 u) : u.cell? ⟨P, 0, none⟩ = some (.pointer none) ∧ u.cell? ⟨P, 1, none⟩ = some (.pointer none) := by
  have t2 := t.step B
  exact ⟨t2.pr.blk.cell rfl, t2.pr.blk.cell rfl⟩
end Go.Proofs.YtcahpodmcklnbaaGreatDoor
