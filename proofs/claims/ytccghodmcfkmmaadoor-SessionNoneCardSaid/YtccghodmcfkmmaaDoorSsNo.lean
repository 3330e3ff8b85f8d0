/-
  A session that is nil, or that nobody made: what the program's calls do. Conditions: none.
-/
import Derived.Test.YtccghodmcfkmmaaDoorSsSend
import Derived.Test.YtccghodmcfkmmaaDoorSsRng
namespace Go.Proofs.YtccghodmcfkmmaaDoor
open Go.RowKit Fix

def NoSes (w : World) (p : Value) : Prop := p = .pointer none ∨ ∃ g, p = .pointer (some ⟨g, 0, none⟩) ∧ w.cell? ⟨g, 0, none⟩ = some (.pointer none)
theorem NoSes.step {w w' : World} {p : Value} (h : NoSes w p) (B : Below w.heap.size w w') : NoSes w' p := by
  rcases h with h | ⟨g, h, h0⟩
  · exact .inl h
  · exact .inr ⟨g, h, (B.cell (p := ⟨g, 0, none⟩) (World.block_lt_of_cell? w _ h0)).trans h0⟩
theorem isMade_none (w : World) (p : Value) (h : NoSes w p) : Calls Tryd.prog 37 #[p] w fun e w' => e = .returned (.bool false) ∧ w = w' := by
  rcases h with rfl | ⟨g, rfl, h0⟩
  · exact isMade_nil w
  · exact isMade_no g w h0
section
variable {w : World} {p : Value} (h : NoSes w p)
include h
set_option maxRecDepth 100000 in
theorem boot_no : Calls Tryd.prog 14 #[p] w fun e w' => e = .returned (.int .i64 0) ∧ w = w' := by
  have zm := isMade_none w p h
  clear h
  go_enter Tryd.func14, Tryd.ntmps14
  go_wp2_with (go_at_call 37; refine zm.mono ?_; (rintro e w1 ⟨rfl, rfl⟩))
  go_ret
  exact ⟨rfl, rfl⟩
set_option maxRecDepth 100000 in
theorem other_no : Calls Tryd.prog 15 #[p] w fun e w' => e = .returned (.int .i64 0) ∧ w = w' := by
  have zm := isMade_none w p h
  clear h
  go_enter Tryd.func15, Tryd.ntmps15
  go_wp2_with (go_at_call 37; refine zm.mono ?_; (rintro e w1 ⟨rfl, rfl⟩))
  go_ret
  exact ⟨rfl, rfl⟩
set_option maxRecDepth 100000 in
theorem waiting_no : Calls Tryd.prog 16 #[p] w fun e w' => e = .returned (.int .i64 0) ∧ w = w' := by
  have zm := isMade_none w p h
  clear h
  go_enter Tryd.func16, Tryd.ntmps16
  go_wp2_with (go_at_call 37; refine zm.mono ?_; (rintro e w1 ⟨rfl, rfl⟩))
  go_ret
  exact ⟨rfl, rfl⟩
set_option maxRecDepth 100000 in
theorem send_no (v : Value) : Calls Tryd.prog 17 #[p, v] w fun e w' => e = .returned (.tuple #[.slice none 0 0, .int .i64 1]) ∧ w = w' := by
  have zm := isMade_none w p h
  clear h
  go_enter Tryd.func17, Tryd.ntmps17
  go_wp2_with (go_at_call 37; refine zm.mono ?_; (rintro e w1 ⟨rfl, rfl⟩))
  go_ret2
  exact ⟨rfl, rfl⟩
set_option maxRecDepth 100000 in
theorem ack_no : Calls Tryd.prog 18 #[p] w fun e w' => e = .returned (.tuple #[.slice none 0 0, .int .i64 1]) ∧ w = w' := by
  have zm := isMade_none w p h
  clear h
  go_enter Tryd.func18, Tryd.ntmps18
  go_wp2_with (go_at_call 37; refine zm.mono ?_; (rintro e w1 ⟨rfl, rfl⟩))
  go_ret2
  exact ⟨rfl, rfl⟩
set_option maxRecDepth 100000 in
theorem receive_no (v : Value) : Calls Tryd.prog 19 #[p, v] w fun e w' => e = .returned (.tuple #[.slice none 0 0, .bool false, .int .i64 1]) ∧ w = w' := by
  have zm := isMade_none w p h
  clear h
  go_enter Tryd.func19, Tryd.ntmps19
  go_wp2_with (go_at_call 37; refine zm.mono ?_; (rintro e w1 ⟨rfl, rfl⟩))
  refine bodyPost_ret (v := .tuple #[.slice none 0 0, .bool false, .int .i64 1]) (by simp [results, Tryd.results19, go_sem]) rfl ⟨rfl, rfl⟩
set_option maxRecDepth 100000 in
set_option maxHeartbeats 1000000 in
theorem resend_no : Calls Tryd.prog 20 #[p] w fun e w' => e = .returned (.slice none 0 0) ∧ Below w.heap.size w w' := by
  obtain ⟨q, rfl⟩ : ∃ q, p = .pointer q := h.elim (fun e => ⟨_, e⟩) fun ⟨_, e, _⟩ => ⟨_, e⟩
  have B1 := step_alloc (Below.refl _ w) (.cells #[.pointer q] 24)
  have zm := isMade_none _ (.pointer q) (h.step B1)
  have HB := Lib.hid B1
  clear h B1
  go_enter Tryd.func20, Tryd.ntmps20
  go_wp2_with (go_at_call 37; refine zm.mono ?_; (rintro e w1 ⟨rfl, rfl⟩))
  go_ret
  exact ⟨rfl, HB.out⟩
end
end Go.Proofs.YtccghodmcfkmmaaDoor
