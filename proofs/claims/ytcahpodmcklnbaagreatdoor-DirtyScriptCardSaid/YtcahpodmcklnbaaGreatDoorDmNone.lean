/-
  A disk that is nil, or that nobody made: what its methods tell. Conditions: none.
-/
import Derived.Test.YtcahpodmcklnbaaGreatDoorDa
namespace Go.Proofs.YtcahpodmcklnbaaGreatDoor
open Go.RowKit

/-- p is no disk: nil, or one that says of itself that it is none -/
def NoDisk (w : World) (p : Value) : Prop := p = .pointer none ∨ ∃ b, p = .pointer (some ⟨b, 0, none⟩) ∧ w.cell? ⟨b, 0, none⟩ = some (.pointer none)
set_option maxRecDepth 100000 in
theorem made_no (w : World) (p : Value) (h : NoDisk w p) : Calls Tryz.prog 62 #[p] w fun e w' => e = .returned (.bool false) ∧ w = w' := by
  rcases h with rfl | ⟨b, rfl, h0⟩
  · go_enter Tryz.func62, Tryz.ntmps62
    go_wp2
    go_ret
    exact ⟨rfl, rfl⟩
  · have he : ∀ w, (binOp .eql 24 (.pointer none) (.pointer (some ⟨b, 0, none⟩))).run Tryz.prog w = .ok (.bool false) w := fun w => by kernel_rfl
    go_enter Tryz.func62, Tryz.ntmps62
    go_wp2
    go_ret
    exact ⟨rfl, rfl⟩
section
variable {w : World} {p : Value} (h : NoDisk w p)
include h
set_option maxRecDepth 100000 in
theorem noRead (n : Int) : Calls Tryz.prog 48 #[p, .int .i64 n] w fun e w' => e = .returned (.tuple #[.slice none 0 0, .int .i64 1]) ∧ w = w' := by
  have zm := made_no w p h
  clear h
  go_enter Tryz.func48, Tryz.ntmps48
  go_wp2_with (go_at_call 62; refine zm.mono ?_; (rintro e w2 ⟨rfl, rfl⟩))
  go_ret2
  exact ⟨rfl, rfl⟩
set_option maxRecDepth 100000 in
theorem noWrite (n : Int) (v : Value) : Calls Tryz.prog 44 #[p, .int .i64 n, v] w fun e w' => e = .returned (.int .i64 1) ∧ w = w' := by
  have zm := made_no w p h
  clear h
  go_enter Tryz.func44, Tryz.ntmps44
  go_wp2_with (go_at_call 62; refine zm.mono ?_; (rintro e w2 ⟨rfl, rfl⟩))
  go_ret
  exact ⟨rfl, rfl⟩
set_option maxRecDepth 100000 in
theorem noFlush : Calls Tryz.prog 45 #[p] w fun e w' => e = .returned (.int .i64 1) ∧ w = w' := by
  have zm := made_no w p h
  clear h
  go_enter Tryz.func45, Tryz.ntmps45
  go_wp2_with (go_at_call 62; refine zm.mono ?_; (rintro e w2 ⟨rfl, rfl⟩))
  go_ret
  exact ⟨rfl, rfl⟩
set_option maxRecDepth 100000 in
theorem noCrash (v : Value) (n : Int) : Calls Tryz.prog 39 #[p, v, .int .i64 n] w fun e w' => e = .returned (.int .i64 1) ∧ w = w' := by
  have zm := made_no w p h
  clear h
  go_enter Tryz.func39, Tryz.ntmps39
  go_wp2_with (go_at_call 62; refine zm.mono ?_; (rintro e w2 ⟨rfl, rfl⟩))
  go_ret
  exact ⟨rfl, rfl⟩
set_option maxRecDepth 100000 in
theorem noTurn (n k : Int) (v : Value) : Calls Tryz.prog 40 #[p, .int .i64 n, .int .i64 k, v] w fun e w' => e = .returned (.int .i64 1) ∧ w = w' := by
  have zm := made_no w p h
  clear h
  go_enter Tryz.func40, Tryz.ntmps40
  go_wp2_with (go_at_call 62; refine zm.mono ?_; (rintro e w2 ⟨rfl, rfl⟩))
  go_ret
  exact ⟨rfl, rfl⟩
set_option maxRecDepth 100000 in
theorem noFuse (n : Int) : Calls Tryz.prog 42 #[p, .int .i64 n] w fun e w' => e = .returned (.int .i64 1) ∧ w = w' := by
  have zm := made_no w p h
  clear h
  go_enter Tryz.func42, Tryz.ntmps42
  go_wp2_with (go_at_call 62; refine zm.mono ?_; (rintro e w2 ⟨rfl, rfl⟩))
  go_ret
  exact ⟨rfl, rfl⟩
set_option maxRecDepth 100000 in
theorem noUp : Calls Tryz.prog 47 #[p] w fun e w' => e = .returned (.bool false) ∧ w = w' := by
  have zm := made_no w p h
  clear h
  go_enter Tryz.func47, Tryz.ntmps47
  go_wp2_with (go_at_call 62; refine zm.mono ?_; (rintro e w2 ⟨rfl, rfl⟩))
  go_ret
  exact ⟨rfl, rfl⟩
set_option maxRecDepth 100000 in
theorem noSectors : Calls Tryz.prog 29 #[p] w fun e w' => e = .returned (.int .i64 0) ∧ w = w' := by
  have zm := made_no w p h
  clear h
  go_enter Tryz.func29, Tryz.ntmps29
  go_wp2_with (go_at_call 62; refine zm.mono ?_; (rintro e w2 ⟨rfl, rfl⟩))
  go_ret
  exact ⟨rfl, rfl⟩
set_option maxRecDepth 100000 in
theorem noLoose : Calls Tryz.prog 89 #[p] w fun e w' => e = .returned (.slice none 0 0) ∧ w = w' := by
  have zm := made_no w p h
  clear h
  go_enter Tryz.func89, Tryz.ntmps89
  go_wp2_with (go_at_call 62; refine zm.mono ?_; (rintro e w2 ⟨rfl, rfl⟩))
  go_ret
  exact ⟨rfl, rfl⟩
end

end Go.Proofs.YtcahpodmcklnbaaGreatDoor
