/-
  The walk of MsgKnown. Conditions: none.
-/
import Derived.Test.YtnnchcoeagigbaaMgAwake
import Derived.Test.YtnnchcoeagigbaaBa
namespace Go.Proofs.Ytnnchcoeagigbaa
open Go.RowKit Mg

def Mg.mG : M := { Mg.zero with kind := 2, src := 2, term := 1, ok := true, stamp := 5, rt := 1, rs := 3 }
def Mg.mC : M := { Mg.zero with kind := 9, seq := 1 }
def Mg.mD : M := { Mg.zero with kind := 7, data := List.replicate 31 0 }
theorem knownPut (w : World) : Calls Try.prog 10 #[.agg #[.int .i64 2, .int .i64 2, .int .i64 1, .int .i64 0, .int .i64 5, .int .i64 0, .bool true, .int .i64 1, .int .i64 0, .int .i64 3, .int .u64 0, .slice none 0 0]] w fun e w' =>
    ∃ A c, e = .returned (.tuple #[.slice A 28 c, .int .i64 0]) ∧ BytesAt w' w'.heap.size A [2, 2, 1, 0, 0, 0, 0, 0, 1, 5, 0, 0, 0, 0, 0, 1, 0, 0, 0, 0, 0, 0, 0, 0, 0, 0, 0, 3] ∧ Below w.heap.size w w' := by
  refine (mput_any Mg.mG none 0 (by decide +kernel) w bytes_nil).mono ?_
  rintro e w' ⟨A, c, rfl, _, hW, hB⟩
  have e1 : Mg.putB Mg.mG = [2, 2, 1, 0, 0, 0, 0, 0, 1, 5, 0, 0, 0, 0, 0, 1, 0, 0, 0, 0, 0, 0, 0, 0, 0, 0, 0, 3] := by decide +kernel
  have e2 : Mg.putE Mg.mG = 0 := by decide +kernel
  rw [e1] at hW
  exact ⟨A, c, by rw [e1, e2]; rfl, hW.bytes, hB⟩
theorem knownC (w : World) : Calls Try.prog 12 #[.agg #[.int .i64 9, .int .i64 0, .int .i64 0, .int .i64 1, .int .i64 0, .int .i64 0, .bool false, .int .i64 0, .int .i64 0, .int .i64 0, .int .u64 0, .slice none 0 0]] w fun e w' => e = .returned (.int .i64 2) ∧ Below w.heap.size w w' := by
  refine (mcheck_any Mg.mC none 0 (by decide +kernel) w bytes_nil).mono ?_
  rintro e w' ⟨rfl, hB⟩
  exact ⟨by rw [show Mg.putE Mg.mC = 2 by decide +kernel], hB⟩
theorem knownD (w : World) (A : Option Addr) (c : Nat) (hr : BytesAt w w.heap.size A (List.replicate 31 0)) : Calls Try.prog 12 #[.agg #[.int .i64 7, .int .i64 0, .int .i64 0, .int .i64 0, .int .i64 0, .int .i64 0, .bool false, .int .i64 0, .int .i64 0, .int .i64 0, .int .u64 0, .slice A 31 c]] w fun e w' => e = .returned (.int .i64 2) ∧ Below w.heap.size w w' := by
  refine (mcheck_any Mg.mD A c (by decide +kernel) w hr).mono ?_
  rintro e w' ⟨rfl, hB⟩
  exact ⟨by rw [show Mg.putE Mg.mD = 2 by decide +kernel], hB⟩
theorem get_nil (w : World) : Calls Try.prog 18 #[.slice none 0 0] w fun e w' => ∃ A c, e = .returned (.tuple #[.agg #[.int .i64 0, .int .i64 0, .int .i64 0, .int .i64 0, .int .i64 0, .int .i64 0, .bool false, .int .i64 0, .int .i64 0, .int .i64 0, .int .u64 0, .slice A 0 c], .agg #[.int .i64 4, .int .i64 0]]) ∧ Below w.heap.size w w' := by
  refine (mget_any [] none 0 w (Nat.le_refl _) (by decide) (by decide) bytes_nil).mono ?_
  rintro e w' ⟨A, c', rfl, _, hW, hB⟩
  exact ⟨A, c', rfl, hB⟩
theorem lit_at (W : World) (l : List UInt8) (g : Nat) (hg : g = W.heap.size) : BytesAt (W.alloc (.cells (cellsOfBytes l).toArray 5)) (W.alloc (.cells (cellsOfBytes l).toArray 5)).heap.size (some ⟨g, 0, none⟩) l := by
  subst hg
  exact (bytes_new W l 5 (0, 0)).more (by simp)
abbrev zMsg (A : Option Addr) (c : Nat) : Obj := .cells #[.int .i64 0, .int .i64 0, .int .i64 0, .int .i64 0, .int .i64 0, .int .i64 0, .bool false, .int .i64 0, .int .i64 0, .int .i64 0, .int .u64 0, .slice A 0 c] 27
abbrev fObj (e a : Int) : Obj := .cells #[.int .i64 e, .int .i64 a] 38
abbrev lit (l : List UInt8) : Obj := .cells (cellsOfBytes l).toArray 5
abbrev aft (w : World) (A : Option Addr) (c : Nat) (e a : Int) : World := (w.alloc (zMsg A c)).alloc (fObj e a)
theorem aft_flt (w : World) (A : Option Addr) (c : Nat) (e a : Int) : FltAt (aft w A c e a) (w.heap.size + 1) e a := by
  have h := FltAt.new (w.alloc (zMsg A c)) e a
  rwa [show (w.alloc (zMsg A c)).heap.size = w.heap.size + 1 by simp] at h
theorem aft_step {w0 w : World} (A : Option Addr) (c : Nat) (e a : Int) (h : Below w0.heap.size w0 w) : Below w0.heap.size w0 (aft w A c e a) := step_alloc (step_alloc h _) _
theorem FltAt.two {w : World} {g : Nat} {e a : Int} (h : FltAt w g e a) : w.cell? ⟨g, 0, none⟩ = some (.int .i64 e) ∧ w.cell? ⟨g, 1, none⟩ = some (.int .i64 a) := ⟨h.c0, h.c1⟩
set_option maxRecDepth 100000 in
set_option maxHeartbeats 4000000 in
theorem known_any (w : World) : Calls Try.prog 8 #[] w fun e w' => e = .returned (.bool true) ∧ Below w.heap.size w w' := by
  have z1 := knownPut w
  have zg0 : ∀ (W : World) (g : Nat), g = W.heap.size → Calls Try.prog 18 #[.slice (some ⟨g, 0, none⟩) 2 2] (W.alloc (.cells #[.int .u8 0, .int .u8 0] 5)) fun e w' => ∃ A c, e = .returned (.tuple #[.agg #[.int .i64 0, .int .i64 0, .int .i64 0, .int .i64 0, .int .i64 0, .int .i64 0, .bool false, .int .i64 0, .int .i64 0, .int .i64 0, .int .u64 0, .slice A 0 c], .agg #[.int .i64 6, .int .i64 0]]) ∧ Below (W.alloc (.cells #[.int .u8 0, .int .u8 0] 5)).heap.size (W.alloc (.cells #[.int .u8 0, .int .u8 0] 5)) w' := fun W g hg => get_none_lit [0, 0] 6 0 (by rfl) _ g 2 2 rfl (by decide) (by decide) (lit_at W [0, 0] g hg)
  have zg2 : ∀ (W : World) (g : Nat), g = W.heap.size → Calls Try.prog 18 #[.slice (some ⟨g, 0, none⟩) 5 5] (W.alloc (.cells #[.int .u8 9, .int .u8 1, .int .u8 3, .int .u8 0, .int .u8 0] 5)) fun e w' => ∃ A c, e = .returned (.tuple #[.agg #[.int .i64 0, .int .i64 0, .int .i64 0, .int .i64 0, .int .i64 0, .int .i64 0, .bool false, .int .i64 0, .int .i64 0, .int .i64 0, .int .u64 0, .slice A 0 c], .agg #[.int .i64 4, .int .i64 5]]) ∧ Below (W.alloc (.cells #[.int .u8 9, .int .u8 1, .int .u8 3, .int .u8 0, .int .u8 0] 5)).heap.size (W.alloc (.cells #[.int .u8 9, .int .u8 1, .int .u8 3, .int .u8 0, .int .u8 0] 5)) w' := fun W g hg => get_none_lit [9, 1, 3, 0, 0] 4 5 (by rfl) _ g 5 5 rfl (by decide) (by decide) (lit_at W [9, 1, 3, 0, 0] g hg)
  have zg3 : ∀ (W : World) (g : Nat), g = W.heap.size → Calls Try.prog 18 #[.slice (some ⟨g, 0, none⟩) 9 9] (W.alloc (.cells #[.int .u8 9, .int .u8 1, .int .u8 3, .int .u8 0, .int .u8 0, .int .u8 0, .int .u8 0, .int .u8 0, .int .u8 7] 5)) fun e w' => ∃ A c, e = .returned (.tuple #[.agg #[.int .i64 0, .int .i64 0, .int .i64 0, .int .i64 0, .int .i64 0, .int .i64 0, .bool false, .int .i64 0, .int .i64 0, .int .i64 0, .int .u64 0, .slice A 0 c], .agg #[.int .i64 4, .int .i64 8]]) ∧ Below (W.alloc (.cells #[.int .u8 9, .int .u8 1, .int .u8 3, .int .u8 0, .int .u8 0, .int .u8 0, .int .u8 0, .int .u8 0, .int .u8 7] 5)).heap.size (W.alloc (.cells #[.int .u8 9, .int .u8 1, .int .u8 3, .int .u8 0, .int .u8 0, .int .u8 0, .int .u8 0, .int .u8 0, .int .u8 7] 5)) w' := fun W g hg => get_none_lit [9, 1, 3, 0, 0, 0, 0, 0, 7] 4 8 (by rfl) _ g 9 9 rfl (by decide) (by decide) (lit_at W [9, 1, 3, 0, 0, 0, 0, 0, 7] g hg)
  have zg4 : ∀ (W : World) (g : Nat), g = W.heap.size → Calls Try.prog 18 #[.slice (some ⟨g, 0, none⟩) 15 15] (W.alloc (.cells #[.int .u8 4, .int .u8 0, .int .u8 1, .int .u8 0, .int .u8 0, .int .u8 0, .int .u8 0, .int .u8 0, .int .u8 2, .int .u8 0, .int .u8 0, .int .u8 0, .int .u8 0, .int .u8 0, .int .u8 0] 5)) fun e w' => ∃ A c, e = .returned (.tuple #[.agg #[.int .i64 0, .int .i64 0, .int .i64 0, .int .i64 0, .int .i64 0, .int .i64 0, .bool false, .int .i64 0, .int .i64 0, .int .i64 0, .int .u64 0, .slice A 0 c], .agg #[.int .i64 5, .int .i64 8]]) ∧ Below (W.alloc (.cells #[.int .u8 4, .int .u8 0, .int .u8 1, .int .u8 0, .int .u8 0, .int .u8 0, .int .u8 0, .int .u8 0, .int .u8 2, .int .u8 0, .int .u8 0, .int .u8 0, .int .u8 0, .int .u8 0, .int .u8 0] 5)).heap.size (W.alloc (.cells #[.int .u8 4, .int .u8 0, .int .u8 1, .int .u8 0, .int .u8 0, .int .u8 0, .int .u8 0, .int .u8 0, .int .u8 2, .int .u8 0, .int .u8 0, .int .u8 0, .int .u8 0, .int .u8 0, .int .u8 0] 5)) w' := fun W g hg => get_none_lit [4, 0, 1, 0, 0, 0, 0, 0, 2, 0, 0, 0, 0, 0, 0] 5 8 (by rfl) _ g 15 15 rfl (by decide) (by decide) (lit_at W [4, 0, 1, 0, 0, 0, 0, 0, 2, 0, 0, 0, 0, 0, 0] g hg)
  obtain ⟨oz, hoz⟩ : ∃ o, o = Obj.cells (List.replicate 31 (Value.int .u8 0)).toArray 5 := ⟨_, rfl⟩
  have hmk : ∀ w, (Instr.makeSlice 25 (.int .i64 31) (.int .i64 31)).run Try.prog w = .ok (.slice (some ⟨w.heap.size, 0, none⟩) 31 31) (w.alloc oz) := fun w => by rw [hoz]; exact make_bytes 31 (by decide) w
  have hz0 : ∀ w : World, BytesAt (w.alloc oz) (w.alloc oz).heap.size (some ⟨w.heap.size, 0, none⟩) (List.replicate 31 0) := fun w => by
    have h := lit_at w (List.replicate 31 0) w.heap.size rfl
    rw [hoz]
    exact h
  clear hoz
  go_enter Try.func8, Try.ntmps8
  go_wp2_with (first
    | (go_at_call 10; (with_reducible refine z1.mono ?_); (rintro e w1 ⟨A1, c1, rfl, hb1, hB1⟩; have H1 := Lib.hid (And.intro hb1 hB1); clear hb1 hB1))
    | (go_at_call 18; (with_reducible refine (zg0 (w1.alloc (.cells #[.int .u8 2, .int .u8 2, .int .u8 1, .int .u8 0, .int .u8 0, .int .u8 0, .int .u8 0, .int .u8 0, .int .u8 1, .int .u8 5, .int .u8 0, .int .u8 0, .int .u8 0, .int .u8 0, .int .u8 0, .int .u8 1, .int .u8 0, .int .u8 0, .int .u8 0, .int .u8 0, .int .u8 0, .int .u8 0, .int .u8 0, .int .u8 0, .int .u8 0, .int .u8 0, .int .u8 0, .int .u8 3] 5)) (w1.heap.size + 1) (by simp)).mono ?_); (rintro e w2 ⟨A2, c2, rfl, hB2⟩; have X2 : Hid (Below (w1.alloc (.cells #[.int .u8 2, .int .u8 2, .int .u8 1, .int .u8 0, .int .u8 0, .int .u8 0, .int .u8 0, .int .u8 0, .int .u8 1, .int .u8 5, .int .u8 0, .int .u8 0, .int .u8 0, .int .u8 0, .int .u8 0, .int .u8 1, .int .u8 0, .int .u8 0, .int .u8 0, .int .u8 0, .int .u8 0, .int .u8 0, .int .u8 0, .int .u8 0, .int .u8 0, .int .u8 0, .int .u8 0, .int .u8 3] 5)).heap.size (w1.alloc (.cells #[.int .u8 2, .int .u8 2, .int .u8 1, .int .u8 0, .int .u8 0, .int .u8 0, .int .u8 0, .int .u8 0, .int .u8 1, .int .u8 5, .int .u8 0, .int .u8 0, .int .u8 0, .int .u8 0, .int .u8 0, .int .u8 1, .int .u8 0, .int .u8 0, .int .u8 0, .int .u8 0, .int .u8 0, .int .u8 0, .int .u8 0, .int .u8 0, .int .u8 0, .int .u8 0, .int .u8 0, .int .u8 3] 5)) (aft w2 A2 c2 6 0)) := Lib.hid (aft_step _ _ _ _ (step_trans (step_alloc (Below.refl _ (w1.alloc (.cells #[.int .u8 2, .int .u8 2, .int .u8 1, .int .u8 0, .int .u8 0, .int .u8 0, .int .u8 0, .int .u8 0, .int .u8 1, .int .u8 5, .int .u8 0, .int .u8 0, .int .u8 0, .int .u8 0, .int .u8 0, .int .u8 1, .int .u8 0, .int .u8 0, .int .u8 0, .int .u8 0, .int .u8 0, .int .u8 0, .int .u8 0, .int .u8 0, .int .u8 0, .int .u8 0, .int .u8 0, .int .u8 3] 5))) (.cells #[.int .u8 0, .int .u8 0] 5)) hB2)); clear hB2; skip))
    | (go_at_call 18; (with_reducible refine (get_nil _).mono ?_); (rintro e w3 ⟨A3, c3, rfl, hB3⟩; have X3 : Hid (Below (aft w2 A2 c2 6 0).heap.size (aft w2 A2 c2 6 0) (aft w3 A3 c3 4 0)) := Lib.hid (aft_step _ _ _ _ (step_trans (Below.refl _ (aft w2 A2 c2 6 0)) hB3)); clear hB3; skip))
    | (go_at_call 18; (with_reducible refine (zg2 (aft w3 A3 c3 4 0) (w3.heap.size + 1 + 1) (by simp)).mono ?_); (rintro e w4 ⟨A4, c4, rfl, hB4⟩; have X4 : Hid (Below (aft w3 A3 c3 4 0).heap.size (aft w3 A3 c3 4 0) (aft w4 A4 c4 4 5)) := Lib.hid (aft_step _ _ _ _ (step_trans (step_alloc (Below.refl _ (aft w3 A3 c3 4 0)) (.cells #[.int .u8 9, .int .u8 1, .int .u8 3, .int .u8 0, .int .u8 0] 5)) hB4)); clear hB4; skip))
    | (go_at_call 18; (with_reducible refine (zg3 (aft w4 A4 c4 4 5) (w4.heap.size + 1 + 1) (by simp)).mono ?_); (rintro e w5 ⟨A5, c5, rfl, hB5⟩; have X5 : Hid (Below (aft w4 A4 c4 4 5).heap.size (aft w4 A4 c4 4 5) (aft w5 A5 c5 4 8)) := Lib.hid (aft_step _ _ _ _ (step_trans (step_alloc (Below.refl _ (aft w4 A4 c4 4 5)) (.cells #[.int .u8 9, .int .u8 1, .int .u8 3, .int .u8 0, .int .u8 0, .int .u8 0, .int .u8 0, .int .u8 0, .int .u8 7] 5)) hB5)); clear hB5; skip))
    | (go_at_call 18; (with_reducible refine (zg4 (aft w5 A5 c5 4 8) (w5.heap.size + 1 + 1) (by simp)).mono ?_); (rintro e w6 ⟨A6, c6, rfl, hB6⟩; have X6 : Hid (Below (aft w5 A5 c5 4 8).heap.size (aft w5 A5 c5 4 8) (aft w6 A6 c6 5 8)) := Lib.hid (aft_step _ _ _ _ (step_trans (step_alloc (Below.refl _ (aft w5 A5 c5 4 8)) (.cells #[.int .u8 4, .int .u8 0, .int .u8 1, .int .u8 0, .int .u8 0, .int .u8 0, .int .u8 0, .int .u8 0, .int .u8 2, .int .u8 0, .int .u8 0, .int .u8 0, .int .u8 0, .int .u8 0, .int .u8 0] 5)) hB6)); clear hB6; have T2 := Lib.hid (((((aft_flt w2 A2 c2 6 0).step X3.out).step X4.out).step X5.out).step X6.out); obtain ⟨d2, e2⟩ := FltAt.two T2.out; have T3 := Lib.hid ((((aft_flt w3 A3 c3 4 0).step X4.out).step X5.out).step X6.out); obtain ⟨d3, e3⟩ := FltAt.two T3.out; have T4 := Lib.hid (((aft_flt w4 A4 c4 4 5).step X5.out).step X6.out); obtain ⟨d4, e4⟩ := FltAt.two T4.out; have T5 := Lib.hid ((aft_flt w5 A5 c5 4 8).step X6.out); obtain ⟨d5, e5⟩ := FltAt.two T5.out; have T6 := Lib.hid (aft_flt w6 A6 c6 5 8); obtain ⟨d6, e6⟩ := FltAt.two T6.out; skip))
    | (go_at_call 14; (refine (same_yes A1 [2, 2, 1, 0, 0, 0, 0, 0, 1, 5, 0, 0, 0, 0, 0, 1, 0, 0, 0, 0, 0, 0, 0, 0, 0, 0, 0, 3] 28 c1 rfl (some ⟨w1.heap.size, 0, none⟩) [2, 2, 1, 0, 0, 0, 0, 0, 1, 5, 0, 0, 0, 0, 0, 1, 0, 0, 0, 0, 0, 0, 0, 0, 0, 0, 0, 3] 28 28 rfl (aft w6 A6 c6 5 8) ((H1.out.1.stepA _).step (step_trans (step_trans (step_trans (step_trans X2.out X3.out) X4.out) X5.out) X6.out)) ((lit_at w1 [2, 2, 1, 0, 0, 0, 0, 0, 1, 5, 0, 0, 0, 0, 0, 1, 0, 0, 0, 0, 0, 0, 0, 0, 0, 0, 0, 3] w1.heap.size rfl).step (step_trans (step_trans (step_trans (step_trans X2.out X3.out) X4.out) X5.out) X6.out)) rfl).mono ?_); (rintro e wS ⟨rfl, rfl⟩))
    | (go_at_call 17; (with_reducible refine (awake_any _).mono ?_); (rintro e w7 ⟨rfl, hB7⟩; have T5b := T5.out.step hB7; have T6b := T6.out.step hB7; obtain ⟨p5, q5⟩ := FltAt.two T5b; obtain ⟨p6, q6⟩ := FltAt.two T6b; have X7 := Lib.hid hB7; clear hB7 T5b T6b))
    | (go_at_call 12; (with_reducible refine (knownC _).mono ?_); (rintro e w8 ⟨rfl, hB8⟩; have X8 := Lib.hid hB8; clear hB8))
    | (go_at_call 12; (with_reducible refine (knownD _ (some ⟨w8.heap.size, 0, none⟩) 31 (hz0 w8)).mono ?_); (rintro e w9 ⟨rfl, hB9⟩; have X9 := Lib.hid hB9; clear hB9)))
  go_ret
  exact ⟨rfl, step_trans (step_alloc (step_trans (step_trans (step_trans (step_trans H1.out.2 (step_alloc (Below.refl _ w1) _)) (step_trans (step_trans (step_trans (step_trans X2.out X3.out) X4.out) X5.out) X6.out)) X7.out) X8.out) _) X9.out⟩
end Go.Proofs.Ytnnchcoeagigbaa
