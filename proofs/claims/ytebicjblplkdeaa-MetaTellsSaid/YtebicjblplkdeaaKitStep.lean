/-
  From one world to the next: what stands stays; SameBytes of what is the same. Conditions: none.
-/
import Derived.Test.YtebicjblplkdeaaKitSame
import Derived.Test.YtebicjblplkdeaaKitOwn
namespace Go.Proofs.Ytebicjblplkdeaa
open Go.RowKit

section
variable {w w' w'' : World} {B : Nat} {A : Option Addr} {l : List UInt8} {g base : Nat} {v : Value}
theorem BytesAt.step (h : BytesAt w w.heap.size A l) (hb : Below w.heap.size w w') : BytesAt w' w'.heap.size A l := (h.below hb).more hb.size
theorem BytesAt.stepA (h : BytesAt w w.heap.size A l) (o : Obj) : BytesAt (w.alloc o) (w.alloc o).heap.size A l := (h.alloc (Nat.le_refl _) o).more (by simp)
theorem BlkB.step (h : BlkB w g l) (hb : Below w.heap.size w w') : BlkB w' g l := h.below hb h.lt
theorem BlkB.at_ (h : BlkB w g l) : BytesAt w w.heap.size (some ⟨g, 0, none⟩) l := h.bytes l ⟨[], by simp⟩ h.lt
theorem step_trans (h : Below w.heap.size w w') (h2 : Below w'.heap.size w' w'') : Below w.heap.size w w'' := h.trans (h2.mono h.size)
theorem step_alloc (h : Below w.heap.size w w') (o : Obj) : Below w.heap.size w (w'.alloc o) := h.alloc h.size o
end
/-- the same bytes -/
theorem same_yes (A : Option Addr) (l : List UInt8) (n c : Nat) (hn : l.length = n) (A' : Option Addr) (l' : List UInt8) (n' c' : Nat) (hn' : l'.length = n') (w : World) (hr : BytesAt w w.heap.size A l) (hr' : BytesAt w w.heap.size A' l') (e : l = l') :
    Calls Try.prog 13 #[.slice A n c, .slice A' n' c'] w fun e w' => e = .returned (.bool true) ∧ w = w' := by
  have h := sameBytes_any A l n c hn A' l' n' c' hn' w.heap.size w hr hr'
  rw [e, beq_self_eq_true] at h
  exact h
end Go.Proofs.Ytebicjblplkdeaa
