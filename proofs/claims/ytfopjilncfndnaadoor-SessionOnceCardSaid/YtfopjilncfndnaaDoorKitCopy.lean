/-
  tandemkit.CopyBytes. Conditions: the sizes that are named.
-/
import Derived.Test.YtfopjilncfndnaaDoorBa
namespace Go.Proofs.YtfopjilncfndnaaDoor
open Go.RowKit

def CopyPost (l : List UInt8) (w : World) (e : Ending) (w' : World) : Prop :=
  ∃ A c, e = .returned (.slice A l.length c) ∧ OwnB w' w.heap.size (.slice A l.length c) l ∧ Below w.heap.size w w'

theorem copyBytes_any (A : Option Addr) (l : List UInt8) (n c : Nat) (hn : l.length = n) (w : World) (hl : l.length ≤ 1000000) (hr : BytesAt w w.heap.size A l) :
    Calls Tryd.prog 41 #[.slice A n c] w (CopyPost l w) := by
  have h0 : ∀ W : World, OwnB (W.alloc (.cells #[] 5)) W.heap.size (.slice (some ⟨W.heap.size, 0, none⟩) 0 0) [] := fun W =>
    ⟨by simp [cellsOfBytes], .inr ⟨W.heap.size, 0, #[], rfl, Nat.le_refl _, heap_alloc_new W _, Nat.le_refl _, Nat.zero_le _, by simp, by simp [cellsOfBytes]⟩⟩
  have hr1 : BytesAt (w.alloc (.cells #[] 5)) w.heap.size A l := hr.alloc (Nat.le_refl _) _
  go_enter Tryd.func41, Tryd.ntmps41
  go_wp2_with (at_builtin; refine wpList_appendB rfl (.tmp 3) (.tmp 4) 39 rfl rfl w.heap.size _ [] rfl (h0 w) A l n c w.heap.size rfl hn hr1 ?h1 ?h2 ?h3; rotate_left 2; (intro v' w' ho hg hat))
  · rw [List.nil_append] at ho
    obtain ⟨A', c', rfl, _⟩ := ho.form
    go_ret
    refine ⟨A', c', rfl, ho, ?_⟩
    exact ((Below.refl _ _).alloc (Nat.le_refl _) _).grown hg (by simp) (fun k hk => Nat.le_of_eq (Option.some.inj hk))
  case h1 => simp; omega
  case h2 => simp
end Go.Proofs.YtfopjilncfndnaaDoor
