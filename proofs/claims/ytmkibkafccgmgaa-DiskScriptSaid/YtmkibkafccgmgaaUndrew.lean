/-
  Draws and what lies below. Conditions: none.
-/
import Derived.Below
import Derived.Deep.Draws
namespace Go.Proofs.Ytmkibkafccgmgaa
open Go.RowKit
theorem belowDN {B : Nat} {a w : World} (h : Below B a w) (n : Nat) : Below B a (w.drewN n) := ⟨h.os, h.tape, h.output, h.size, h.block⟩
theorem undrewD {B : Nat} {a w : World} (h : Below B a.drew w) : Below B a w := ⟨h.os, h.tape, h.output, h.size, h.block⟩
theorem undrewDN {B n : Nat} {a w : World} (h : Below B (a.drewN n) w) : Below B a w := ⟨h.os, h.tape, h.output, h.size, h.block⟩
end Go.Proofs.Ytmkibkafccgmgaa
