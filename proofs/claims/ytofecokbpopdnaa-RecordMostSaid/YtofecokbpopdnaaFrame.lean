/-
  But for some blocks, and new ones, the world is as it was. Conditions: none.
-/
import Derived.Test.YtofecokbpopdnaaBa
namespace Go.Proofs.Ytofecokbpopdnaa
open Go.RowKit

/-- but for the blocks F, and new ones, the world is as it was -/
structure Frame (F : Nat → Prop) (w w' : World) : Prop where
  os : w'.os = w.os
  tape : w'.tape = w.tape
  output : w'.output = w.output
  size : w.heap.size ≤ w'.heap.size
  block : ∀ k, k < w.heap.size → ¬ F k → w'.heap[k]? = w.heap[k]?
section
variable {F G : Nat → Prop} {a w w' : World} {B : Nat}
theorem Frame.refl (F : Nat → Prop) (w : World) : Frame F w w := ⟨rfl, rfl, rfl, Nat.le_refl _, fun _ _ _ => rfl⟩
theorem Frame.of_below (h : Below w.heap.size w w') : Frame F w w' := ⟨h.os, h.tape, h.output, h.size, fun k hk _ => h.block k hk⟩
theorem Frame.below (h : Frame F w w') (hF : ∀ k, F k → B ≤ k) (hB : B ≤ w.heap.size) : Below B w w' := ⟨h.os, h.tape, h.output, h.size, fun k hk => h.block k (by omega) (fun hf => by have := hF k hf; omega)⟩
theorem Frame.below0 (h : Frame F w w') (hF : ∀ k, ¬ F k) : Below w.heap.size w w' := ⟨h.os, h.tape, h.output, h.size, fun k hk => h.block k hk (hF k)⟩
theorem Frame.mono (h : Frame F w w') (hFG : ∀ k, F k → G k) : Frame G w w' := ⟨h.os, h.tape, h.output, h.size, fun k hk hg => h.block k hk (fun hf => hg (hFG k hf))⟩
/-- what the second step turns is among the first's, or new then -/
theorem Frame.trans (h : Frame F a w) (h2 : Frame G w w') (hG : ∀ k, G k → F k ∨ a.heap.size ≤ k) : Frame F a w' :=
  ⟨h2.os.trans h.os, h2.tape.trans h.tape, h2.output.trans h.output, Nat.le_trans h.size h2.size, fun k hk hf =>
    (h2.block k (Nat.lt_of_lt_of_le hk h.size) (fun hg => (hG k hg).elim hf (fun h => by omega))).trans (h.block k hk hf)⟩
theorem Frame.bytes {A : Option Addr} {l : List UInt8} (h : Frame F w w') (hr : BytesAt w w.heap.size A l) (hF : ∀ ad, A = some ad → ¬ F ad.block) : BytesAt w' w'.heap.size A l := fun hl => by
  obtain ⟨ad, e, hb, hc⟩ := hr hl
  refine ⟨ad, e, Nat.lt_of_lt_of_le hb h.size, fun k hk => ?_⟩
  rw [← hc k hk]
  exact World.cell?_of_block (w := w) (by rw [block_add]; exact h.block _ hb (hF ad e))
theorem Frame.blk {g : Nat} {l : List UInt8} (h : Frame F w w') (hb : BlkB w g l) (hF : ¬ F g) : BlkB w' g l := (h.block g hb.lt hF).trans hb
end

end Go.Proofs.Ytofecokbpopdnaa
