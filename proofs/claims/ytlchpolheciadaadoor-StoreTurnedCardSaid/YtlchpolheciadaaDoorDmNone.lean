/-
  A disk that is nil, or that nobody made: what its methods tell. Conditions: none.
-/
import Derived.Test.YtlchpolheciadaaDoorDa
namespace Go.Proofs.YtlchpolheciadaaDoor
open Go.RowKit

/-- p is no disk: nil, or one that says of itself that it is none -/
def NoDisk (w : World) (p : Value) : Prop := p = .pointer none ∨ ∃ b, p = .pointer (some ⟨b, 0, none⟩) ∧ w.cell? ⟨b, 0, none⟩ = some (.pointer none)
set_option maxRecDepth 100000 in
theorem made_no (w : World) (p : Value) (h : NoDisk w p) : Calls Tryd.prog 41 #[p] w fun e w' => e = .returned (.bool false) ∧ w = w' := by
  rcases h with rfl | ⟨b, rfl, h0⟩
  · go_enter Tryd.func41, Tryd.ntmps41
    go_wp2
    go_ret
    exact ⟨rfl, rfl⟩
  · have he : ∀ w, (binOp .eql 25 (.pointer none) (.pointer (some ⟨b, 0, none⟩))).run Tryd.prog w = .ok (.bool false) w := fun w => by kernel_rfl
    go_enter Tryd.func41, Tryd.ntmps41
    go_wp2
    go_ret
    exact ⟨rfl, rfl⟩
section
variable {w : World} {p : Value} (h : NoDisk w p)
include h
set_option maxRecDepth 100000 in
theorem noRead (n : Int) : Calls Tryd.prog 21 #[p, .int .i64 n] w fun e w' => e = .returned (.tuple #[.slice none 0 0, .int .i64 1]) ∧ w = w' := by
  have zm := made_no w p h
  clear h
  go_enter Tryd.func21, Tryd.ntmps21
  go_wp2_with (go_at_call 41; refine zm.mono ?_; (rintro e w2 ⟨rfl, rfl⟩))
  go_ret2
  exact ⟨rfl, rfl⟩
set_option maxRecDepth 100000 in
theorem noWrite (n : Int) (v : Value) : Calls Tryd.prog 35 #[p, .int .i64 n, v] w fun e w' => e = .returned (.int .i64 1) ∧ w = w' := by
  have zm := made_no w p h
  clear h
  go_enter Tryd.func35, Tryd.ntmps35
  go_wp2_with (go_at_call 41; refine zm.mono ?_; (rintro e w2 ⟨rfl, rfl⟩))
  go_ret
  exact ⟨rfl, rfl⟩
set_option maxRecDepth 100000 in
theorem noFlush : Calls Tryd.prog 39 #[p] w fun e w' => e = .returned (.int .i64 1) ∧ w = w' := by
  have zm := made_no w p h
  clear h
  go_enter Tryd.func39, Tryd.ntmps39
  go_wp2_with (go_at_call 41; refine zm.mono ?_; (rintro e w2 ⟨rfl, rfl⟩))
  go_ret
  exact ⟨rfl, rfl⟩
set_option maxRecDepth 100000 in
theorem noCrash (v : Value) (n : Int) : Calls Tryd.prog 26 #[p, v, .int .i64 n] w fun e w' => e = .returned (.int .i64 1) ∧ w = w' := by
  have zm := made_no w p h
  clear h
  go_enter Tryd.func26, Tryd.ntmps26
  go_wp2_with (go_at_call 41; refine zm.mono ?_; (rintro e w2 ⟨rfl, rfl⟩))
  go_ret
  exact ⟨rfl, rfl⟩
set_option maxRecDepth 100000 in
theorem noTurn (n k : Int) (v : Value) : Calls Tryd.prog 22 #[p, .int .i64 n, .int .i64 k, v] w fun e w' => e = .returned (.int .i64 1) ∧ w = w' := by
  have zm := made_no w p h
  clear h
  go_enter Tryd.func22, Tryd.ntmps22
  go_wp2_with (go_at_call 41; refine zm.mono ?_; (rintro e w2 ⟨rfl, rfl⟩))
  go_ret
  exact ⟨rfl, rfl⟩
set_option maxRecDepth 100000 in
theorem noFuse (n : Int) : Calls Tryd.prog 18 #[p, .int .i64 n] w fun e w' => e = .returned (.int .i64 1) ∧ w = w' := by
  have zm := made_no w p h
  clear h
  go_enter Tryd.func18, Tryd.ntmps18
  go_wp2_with (go_at_call 41; refine zm.mono ?_; (rintro e w2 ⟨rfl, rfl⟩))
  go_ret
  exact ⟨rfl, rfl⟩
set_option maxRecDepth 100000 in
theorem noUp : Calls Tryd.prog 48 #[p] w fun e w' => e = .returned (.bool false) ∧ w = w' := by
  have zm := made_no w p h
  clear h
  go_enter Tryd.func48, Tryd.ntmps48
  go_wp2_with (go_at_call 41; refine zm.mono ?_; (rintro e w2 ⟨rfl, rfl⟩))
  go_ret
  exact ⟨rfl, rfl⟩
set_option maxRecDepth 100000 in
theorem noSectors : Calls Tryd.prog 49 #[p] w fun e w' => e = .returned (.int .i64 0) ∧ w = w' := by
  have zm := made_no w p h
  clear h
  go_enter Tryd.func49, Tryd.ntmps49
  go_wp2_with (go_at_call 41; refine zm.mono ?_; (rintro e w2 ⟨rfl, rfl⟩))
  go_ret
  exact ⟨rfl, rfl⟩
set_option maxRecDepth 100000 in
theorem noLoose : Calls Tryd.prog 63 #[p] w fun e w' => e = .returned (.slice none 0 0) ∧ w = w' := by
  have zm := made_no w p h
  clear h
  go_enter Tryd.func63, Tryd.ntmps63
  go_wp2_with (go_at_call 41; refine zm.mono ?_; (rintro e w2 ⟨rfl, rfl⟩))
  go_ret
  exact ⟨rfl, rfl⟩
end

end Go.Proofs.YtlchpolheciadaaDoor
