/-
  The walk of DiskNone: a disk that is nil, or that nobody made. Conditions: none.
-/
import Derived.Test.YtmkibkafccgmgaaDiskAny
import Derived.Test.YtmkibkafccgmgaaDiskAwake
namespace Go.Proofs.Ytmkibkafccgmgaa
open Go.RowKit

/-- p is no disk: nil, or one that says of itself that it is none -/
def NoDisk (w : World) (p : Value) : Prop := p = .pointer none ∨ ∃ b, p = .pointer (some ⟨b, 0, none⟩) ∧ w.cell? ⟨b, 0, none⟩ = some (.pointer none)
set_option maxRecDepth 100000 in
theorem made_no (w : World) (p : Value) (h : NoDisk w p) : Calls Try.prog 31 #[p] w fun e w' => e = .returned (.bool false) ∧ w = w' := by
  rcases h with rfl | ⟨b, rfl, h0⟩
  · go_enter Try.func31, Try.ntmps31
    go_wp2
    go_ret
    exact ⟨rfl, rfl⟩
  · have he : ∀ w, (binOp .eql 24 (.pointer none) (.pointer (some ⟨b, 0, none⟩))).run Try.prog w = .ok (.bool false) w := fun w => by kernel_rfl
    go_enter Try.func31, Try.ntmps31
    go_wp2
    go_ret
    exact ⟨rfl, rfl⟩
section
variable {w : World} {p : Value} (h : NoDisk w p)
include h
set_option maxRecDepth 100000 in
theorem noRead (n : Int) : Calls Try.prog 17 #[p, .int .i64 n] w fun e w' => e = .returned (.tuple #[.slice none 0 0, .int .i64 1]) ∧ w = w' := by
  have zm := made_no w p h
  clear h
  go_enter Try.func17, Try.ntmps17
  go_wp2_with (go_at_call 31; refine zm.mono ?_; (rintro e w2 ⟨rfl, rfl⟩))
  go_ret2
  exact ⟨rfl, rfl⟩
set_option maxRecDepth 100000 in
theorem noWrite (n : Int) (v : Value) : Calls Try.prog 18 #[p, .int .i64 n, v] w fun e w' => e = .returned (.int .i64 1) ∧ w = w' := by
  have zm := made_no w p h
  clear h
  go_enter Try.func18, Try.ntmps18
  go_wp2_with (go_at_call 31; refine zm.mono ?_; (rintro e w2 ⟨rfl, rfl⟩))
  go_ret
  exact ⟨rfl, rfl⟩
set_option maxRecDepth 100000 in
theorem noFlush : Calls Try.prog 19 #[p] w fun e w' => e = .returned (.int .i64 1) ∧ w = w' := by
  have zm := made_no w p h
  clear h
  go_enter Try.func19, Try.ntmps19
  go_wp2_with (go_at_call 31; refine zm.mono ?_; (rintro e w2 ⟨rfl, rfl⟩))
  go_ret
  exact ⟨rfl, rfl⟩
set_option maxRecDepth 100000 in
theorem noCrash (v : Value) (n : Int) : Calls Try.prog 20 #[p, v, .int .i64 n] w fun e w' => e = .returned (.int .i64 1) ∧ w = w' := by
  have zm := made_no w p h
  clear h
  go_enter Try.func20, Try.ntmps20
  go_wp2_with (go_at_call 31; refine zm.mono ?_; (rintro e w2 ⟨rfl, rfl⟩))
  go_ret
  exact ⟨rfl, rfl⟩
set_option maxRecDepth 100000 in
theorem noTurn (n k : Int) (v : Value) : Calls Try.prog 21 #[p, .int .i64 n, .int .i64 k, v] w fun e w' => e = .returned (.int .i64 1) ∧ w = w' := by
  have zm := made_no w p h
  clear h
  go_enter Try.func21, Try.ntmps21
  go_wp2_with (go_at_call 31; refine zm.mono ?_; (rintro e w2 ⟨rfl, rfl⟩))
  go_ret
  exact ⟨rfl, rfl⟩
set_option maxRecDepth 100000 in
theorem noFuse (n : Int) : Calls Try.prog 22 #[p, .int .i64 n] w fun e w' => e = .returned (.int .i64 1) ∧ w = w' := by
  have zm := made_no w p h
  clear h
  go_enter Try.func22, Try.ntmps22
  go_wp2_with (go_at_call 31; refine zm.mono ?_; (rintro e w2 ⟨rfl, rfl⟩))
  go_ret
  exact ⟨rfl, rfl⟩
set_option maxRecDepth 100000 in
theorem noUp : Calls Try.prog 23 #[p] w fun e w' => e = .returned (.bool false) ∧ w = w' := by
  have zm := made_no w p h
  clear h
  go_enter Try.func23, Try.ntmps23
  go_wp2_with (go_at_call 31; refine zm.mono ?_; (rintro e w2 ⟨rfl, rfl⟩))
  go_ret
  exact ⟨rfl, rfl⟩
set_option maxRecDepth 100000 in
theorem noSectors : Calls Try.prog 24 #[p] w fun e w' => e = .returned (.int .i64 0) ∧ w = w' := by
  have zm := made_no w p h
  clear h
  go_enter Try.func24, Try.ntmps24
  go_wp2_with (go_at_call 31; refine zm.mono ?_; (rintro e w2 ⟨rfl, rfl⟩))
  go_ret
  exact ⟨rfl, rfl⟩
set_option maxRecDepth 100000 in
theorem noOps : Calls Try.prog 25 #[p] w fun e w' => e = .returned (.int .i64 0) ∧ w = w' := by
  have zm := made_no w p h
  clear h
  go_enter Try.func25, Try.ntmps25
  go_wp2_with (go_at_call 31; refine zm.mono ?_; (rintro e w2 ⟨rfl, rfl⟩))
  go_ret
  exact ⟨rfl, rfl⟩
set_option maxRecDepth 100000 in
theorem noLoose : Calls Try.prog 26 #[p] w fun e w' => e = .returned (.slice none 0 0) ∧ w = w' := by
  have zm := made_no w p h
  clear h
  go_enter Try.func26, Try.ntmps26
  go_wp2_with (go_at_call 31; refine zm.mono ?_; (rintro e w2 ⟨rfl, rfl⟩))
  go_ret
  exact ⟨rfl, rfl⟩
set_option maxRecDepth 100000 in
theorem noClone : Calls Try.prog 13 #[p] w fun e w' => e = .returned (.pointer none) ∧ w = w' := by
  have zm := made_no w p h
  clear h
  go_enter Try.func13, Try.ntmps13
  go_wp2_with (go_at_call 31; refine zm.mono ?_; (rintro e w2 ⟨rfl, rfl⟩))
  go_ret
  exact ⟨rfl, rfl⟩
end

set_option maxRecDepth 100000 in
theorem none_any (n : Int) (A : Option Addr) (k c : Nat) (w : World) : Calls Try.prog 4 #[.int .i64 n, .slice A k c] w fun e w' => e = .returned (.bool true) ∧ Below w.heap.size w w' := by
  by_cases hk : 200 < (k : Int)
  · have za := awake_any disks w
    go_enter Try.func4, Try.ntmps4
    go_wp2_with (go_at_call 12; refine za.mono ?_; (rintro e w2 ⟨rfl, hB2⟩))
    go_ret
    exact ⟨rfl, hB2⟩
  · go_enter Try.func4, Try.ntmps4
    go_wp2
    have e1 : (w.alloc (.cells #[.pointer none, .slice none 0 0, .map none, .int .i64 0, .int .i64 0, .bool false] 50)).heap.size = w.heap.size + 1 := by simp
    have hb1 := MapKept.heap_alloc (w.alloc (.cells #[.pointer none, .slice none 0 0, .map none, .int .i64 0, .int .i64 0, .bool false] 50)) (.cells #[.pointer none, .pointer (some ⟨w.heap.size, 0, none⟩)] 24)
    have hb0 := MapKept.heap_alloc w (.cells #[.pointer none, .slice none 0 0, .map none, .int .i64 0, .int .i64 0, .bool false] 50)
    rw [e1] at hb1
    have g0 : ((w.alloc (.cells #[.pointer none, .slice none 0 0, .map none, .int .i64 0, .int .i64 0, .bool false] 50)).alloc (.cells #[.pointer none, .pointer (some ⟨w.heap.size, 0, none⟩)] 24)).heap[w.heap.size]? = some (.cells #[.pointer none, .slice none 0 0, .map none, .int .i64 0, .int .i64 0, .bool false] 50) := (hb1.2 _ (by omega)).trans hb0.1
    have g1 : ((w.alloc (.cells #[.pointer none, .slice none 0 0, .map none, .int .i64 0, .int .i64 0, .bool false] 50)).alloc (.cells #[.pointer none, .pointer (some ⟨w.heap.size, 0, none⟩)] 24)).heap[w.heap.size + 1]? = some (.cells #[.pointer none, .pointer (some ⟨w.heap.size, 0, none⟩)] 24) := hb1.1
    have hB : Below w.heap.size w ((w.alloc (.cells #[.pointer none, .slice none 0 0, .map none, .int .i64 0, .int .i64 0, .bool false] 50)).alloc (.cells #[.pointer none, .pointer (some ⟨w.heap.size, 0, none⟩)] 24)) := ((Below.refl _ w).alloc (Nat.le_refl _) _).alloc (by simp) _
    clear hb0 hb1 e1
    generalize hW : ((w.alloc (.cells #[.pointer none, .slice none 0 0, .map none, .int .i64 0, .int .i64 0, .bool false] 50)).alloc (.cells #[.pointer none, .pointer (some ⟨w.heap.size, 0, none⟩)] 24)) = W2 at g0 g1 hB ⊢
    clear hW
    have y0 : W2.cell? ⟨w.heap.size + 1, 0, none⟩ = some (.pointer none) := cell_of_row W2 _ 0 _ _ _ g1
    have y1 : W2.cell? ⟨w.heap.size + 1, 1, none⟩ = some (.pointer (some ⟨w.heap.size, 0, none⟩)) := cell_of_row W2 _ 1 _ _ _ g1
    have n0 : NoDisk W2 (.pointer none) := .inl rfl
    have n1 : NoDisk W2 (.pointer (some ⟨w.heap.size, 0, none⟩)) := .inr ⟨_, rfl, cell_of_row W2 _ 0 _ _ _ g0⟩
    have za := awake_any disks W2
    clear g0 g1
    obtain ⟨g, hg⟩ : ∃ g, g = w.heap.size := ⟨_, rfl⟩
    rw [← hg] at y0 y1 n1 ⊢
    have HB := Lib.hid (And.intro hg hB)
    clear hg hB
    have hd : ∀ p, NoDisk W2 p → Hid (NoDisk W2 p) := fun p h => Lib.hid h
    have N0 := Lib.hid n0
    have N1 := Lib.hid n1
    clear n0 n1 hd
    go_loopw [6] (fun ix wr => ∃ i : Nat, i ≤ 2 ∧ ix = .int .i64 (i : Int) ∧ wr = W2) (fun ix _ => 2 - vNat ix)
    case atStart => exact ⟨0, by omega, rfl, rfl⟩
    case round =>
      obtain ⟨i, hi, rfl, rfl⟩ := hrel
      by_cases h2 : i = 2
      · subst h2
        go_wp2_with (go_at_call 12; refine za.mono ?_; (rintro e w2 ⟨rfl, hB2⟩))
        go_ret
        exact ⟨by simp [HB.out.1], HB.out.2.trans (hB2.mono HB.out.2.size)⟩
      · obtain ⟨p, hp, hy⟩ : ∃ p, NoDisk wr p ∧ wr.cell? ⟨g + 1, i, none⟩ = some p := by
          rcases (show i = 0 ∨ i = 1 by omega) with rfl | rfl
          · exact ⟨_, N0.out, y0⟩
          · exact ⟨_, N1.out, y1⟩
        have z1 := Lib.hid (noRead hp n)
        have z2 := Lib.hid (noWrite hp n (.slice A k c))
        have z3 := Lib.hid (noFlush hp)
        have z4 := Lib.hid (noCrash hp (.slice none 0 0) n)
        have z5 := Lib.hid (noTurn hp n n (.int .u8 1))
        have z6 := Lib.hid (noFuse hp n)
        have z7 := Lib.hid (noUp hp)
        have z8 := Lib.hid (noSectors hp)
        have z9 := Lib.hid (noOps hp)
        have z10 := Lib.hid (noLoose hp)
        have z11 := Lib.hid (noClone hp)
        have hi2 : (i : Int) < 2 := by omega
        have hw1 : IntKind.i64.wrap ((i : Int) + 1) = (i : Int) + 1 := IntWalk.i64_in _ (by omega)
        clear hp y0 y1 h2 za N0 N1
        go_wp2_with (first
          | (go_at_call 17; refine (z1.out).mono ?_; (rintro e w2 ⟨rfl, rfl⟩))
          | (go_at_call 18; refine (z2.out).mono ?_; (rintro e w2 ⟨rfl, rfl⟩))
          | (go_at_call 19; refine (z3.out).mono ?_; (rintro e w2 ⟨rfl, rfl⟩))
          | (go_at_call 20; refine (z4.out).mono ?_; (rintro e w2 ⟨rfl, rfl⟩))
          | (go_at_call 21; refine (z5.out).mono ?_; (rintro e w2 ⟨rfl, rfl⟩))
          | (go_at_call 22; refine (z6.out).mono ?_; (rintro e w2 ⟨rfl, rfl⟩))
          | (go_at_call 23; refine (z7.out).mono ?_; (rintro e w2 ⟨rfl, rfl⟩))
          | (go_at_call 24; refine (z8.out).mono ?_; (rintro e w2 ⟨rfl, rfl⟩))
          | (go_at_call 25; refine (z9.out).mono ?_; (rintro e w2 ⟨rfl, rfl⟩))
          | (go_at_call 26; refine (z10.out).mono ?_; (rintro e w2 ⟨rfl, rfl⟩))
          | (go_at_call 13; refine (z11.out).mono ?_; (rintro e w2 ⟨rfl, rfl⟩)))
        go_roundw
        case rel => exact ⟨i + 1, by omega, by go_num, by first | trivial | rfl⟩
        case measure => simp [vNat]; omega
end Go.Proofs.Ytmkibkafccgmgaa
