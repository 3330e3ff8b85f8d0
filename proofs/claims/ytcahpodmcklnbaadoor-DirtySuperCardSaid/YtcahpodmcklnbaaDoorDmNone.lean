/-
  A disk that is nil, or that nobody made: what its methods tell. Conditions: none.
-/
import Derived.Test.YtcahpodmcklnbaaDoorDa
namespace Go.Proofs.YtcahpodmcklnbaaDoor
open Go.RowKit

/-- p is no disk: nil, or one that says of itself that it is none -/
def NoDisk (w : World) (p : Value) : Prop := p = .pointer none ∨ ∃ b, p = .pointer (some ⟨b, 0, none⟩) ∧ w.cell? ⟨b, 0, none⟩ = some (.pointer none)
set_option maxRecDepth 100000 in
theorem made_no (w : World) (p : Value) (h : NoDisk w p) : Calls Tryd.prog 29 #[p] w fun e w' => e = .returned (.bool false) ∧ w = w' := by
  rcases h with rfl | ⟨b, rfl, h0⟩
  · go_enter Tryd.func29, Tryd.ntmps29
    go_wp2
    go_ret
    exact ⟨rfl, rfl⟩
  · have he : ∀ w, (binOp .eql 24 (.pointer none) (.pointer (some ⟨b, 0, none⟩))).run Tryd.prog w = .ok (.bool false) w := fun w => by kernel_rfl
    go_enter Tryd.func29, Tryd.ntmps29
    go_wp2
    go_ret
    exact ⟨rfl, rfl⟩
section
variable {w : World} {p : Value} (h : NoDisk w p)
include h
set_option maxRecDepth 100000 in
theorem noRead (n : Int) : Calls Tryd.prog 56 #[p, .int .i64 n] w fun e w' => e = .returned (.tuple #[.slice none 0 0, .int .i64 1]) ∧ w = w' := by
  have zm := made_no w p h
  clear h
  go_enter Tryd.func56, Tryd.ntmps56
  go_wp2_with (go_at_call 29; refine zm.mono ?_; (rintro e w2 ⟨rfl, rfl⟩))
  go_ret2
  exact ⟨rfl, rfl⟩
set_option maxRecDepth 100000 in
theorem noWrite (n : Int) (v : Value) : Calls Tryd.prog 51 #[p, .int .i64 n, v] w fun e w' => e = .returned (.int .i64 1) ∧ w = w' := by
  have zm := made_no w p h
  clear h
  go_enter Tryd.func51, Tryd.ntmps51
  go_wp2_with (go_at_call 29; refine zm.mono ?_; (rintro e w2 ⟨rfl, rfl⟩))
  go_ret
  exact ⟨rfl, rfl⟩
set_option maxRecDepth 100000 in
theorem noFlush : Calls Tryd.prog 52 #[p] w fun e w' => e = .returned (.int .i64 1) ∧ w = w' := by
  have zm := made_no w p h
  clear h
  go_enter Tryd.func52, Tryd.ntmps52
  go_wp2_with (go_at_call 29; refine zm.mono ?_; (rintro e w2 ⟨rfl, rfl⟩))
  go_ret
  exact ⟨rfl, rfl⟩
set_option maxRecDepth 100000 in
theorem noCrash (v : Value) (n : Int) : Calls Tryd.prog 19 #[p, v, .int .i64 n] w fun e w' => e = .returned (.int .i64 1) ∧ w = w' := by
  have zm := made_no w p h
  clear h
  go_enter Tryd.func19, Tryd.ntmps19
  go_wp2_with (go_at_call 29; refine zm.mono ?_; (rintro e w2 ⟨rfl, rfl⟩))
  go_ret
  exact ⟨rfl, rfl⟩
set_option maxRecDepth 100000 in
theorem noFuse (n : Int) : Calls Tryd.prog 16 #[p, .int .i64 n] w fun e w' => e = .returned (.int .i64 1) ∧ w = w' := by
  have zm := made_no w p h
  clear h
  go_enter Tryd.func16, Tryd.ntmps16
  go_wp2_with (go_at_call 29; refine zm.mono ?_; (rintro e w2 ⟨rfl, rfl⟩))
  go_ret
  exact ⟨rfl, rfl⟩
set_option maxRecDepth 100000 in
theorem noSectors : Calls Tryd.prog 42 #[p] w fun e w' => e = .returned (.int .i64 0) ∧ w = w' := by
  have zm := made_no w p h
  clear h
  go_enter Tryd.func42, Tryd.ntmps42
  go_wp2_with (go_at_call 29; refine zm.mono ?_; (rintro e w2 ⟨rfl, rfl⟩))
  go_ret
  exact ⟨rfl, rfl⟩
set_option maxRecDepth 100000 in
theorem noLoose : Calls Tryd.prog 38 #[p] w fun e w' => e = .returned (.slice none 0 0) ∧ w = w' := by
  have zm := made_no w p h
  clear h
  go_enter Tryd.func38, Tryd.ntmps38
  go_wp2_with (go_at_call 29; refine zm.mono ?_; (rintro e w2 ⟨rfl, rfl⟩))
  go_ret
  exact ⟨rfl, rfl⟩
end

end Go.Proofs.YtcahpodmcklnbaaDoor
