/-
  What every law of msg asks besides (awake). Conditions: none.
-/
import Derived.Test.YtfiijnpabmocdaaMgPut
import Derived.Test.YtfiijnpabmocdaaMgGet
import Derived.Test.YtfiijnpabmocdaaBa
namespace Go.Proofs.Ytfiijnpabmocdaa
open Go.RowKit Mg

def Mg.m9 : M := { Mg.zero with kind := 9, src := 1, term := 3 }
theorem wf_small {m : M} (h : is64 m.kind ∧ is64 m.src ∧ is64 m.term ∧ is64 m.seq ∧ is64 m.stamp ∧ is64 m.block ∧ is64 m.rt ∧ is64 m.rn ∧ is64 m.rs ∧ m.bits < 18446744073709551616) : Wf m := h
instance (x : Int) : Decidable (is64 x) := by unfold is64; infer_instance
instance (m : M) : Decidable (Wf m) := by unfold Wf; infer_instance
theorem awakePut (w : World) : Calls Try.prog 6 #[.agg #[.int .i64 9, .int .i64 1, .int .i64 3, .int .i64 0, .int .i64 0, .int .i64 0, .bool false, .int .i64 0, .int .i64 0, .int .i64 0, .int .u64 0, .slice none 0 0]] w fun e w' =>
    ∃ A c, e = .returned (.tuple #[.slice A 8 c, .int .i64 0]) ∧ BytesAt w' w'.heap.size A [9, 1, 3, 0, 0, 0, 0, 0] ∧ Below w.heap.size w w' := by
  refine (mput_any Mg.m9 none 0 (by decide +kernel) w bytes_nil).mono ?_
  rintro e w' ⟨A, c, rfl, _, hW, hB⟩
  have e1 : Mg.putB Mg.m9 = [9, 1, 3, 0, 0, 0, 0, 0] := by decide +kernel
  have e2 : Mg.putE Mg.m9 = 0 := by decide +kernel
  rw [e1] at hW
  exact ⟨A, c, by rw [e1, e2]; rfl, hW.bytes, hB⟩
/-- Get of bytes that are written out, which are none -/
theorem get_none_lit (l : List UInt8) (er a : Int) (hg : got l = .no er a) (w : World) (g n c : Nat) (hn : l.length = n) (hc : n ≤ c) (hl : c ≤ 140737488351232) (hr : BytesAt w w.heap.size (some ⟨g, 0, none⟩) l) :
    Calls Try.prog 14 #[.slice (some ⟨g, 0, none⟩) n c] w fun e w' => ∃ A c, e = .returned (.tuple #[.agg #[.int .i64 0, .int .i64 0, .int .i64 0, .int .i64 0, .int .i64 0, .int .i64 0, .bool false, .int .i64 0, .int .i64 0, .int .i64 0, .int .u64 0, .slice A 0 c], .agg #[.int .i64 er, .int .i64 a]]) ∧ Below w.heap.size w w' := by
  subst hn
  refine (mget_any l (some ⟨g, 0, none⟩) c w hc (by omega) (by omega) hr).mono ?_
  rintro e w' ⟨A, c', rfl, _, hW, hB⟩
  refine ⟨A, c', ?_, hB⟩
  simp only [gotM, gotE, gotA, hg]
  rfl
theorem awakeGet (w : World) : Calls Try.prog 14 #[.slice (some ⟨w.heap.size, 0, none⟩) 2 2] (w.alloc (.cells #[.int .u8 9, .int .u8 3] 5)) fun e w' => ∃ A c, e = .returned (.tuple #[.agg #[.int .i64 0, .int .i64 0, .int .i64 0, .int .i64 0, .int .i64 0, .int .i64 0, .bool false, .int .i64 0, .int .i64 0, .int .i64 0, .int .u64 0, .slice A 0 c], .agg #[.int .i64 5, .int .i64 1]]) ∧ Below w.heap.size w w' := by
  refine (get_none_lit [9, 3] 5 1 (by rfl) (w.alloc (.cells #[.int .u8 9, .int .u8 3] 5)) w.heap.size 2 2 rfl (by decide) (by decide) ((bytes_new w [9, 3] 5 (0, 0)).more (by simp))).mono ?_
  rintro e w' ⟨A, c, rfl, hB⟩
  exact ⟨A, c, rfl, step_trans ((Below.refl _ w).alloc (Nat.le_refl _) _) hB⟩
set_option maxRecDepth 100000 in
set_option maxHeartbeats 1000000 in
theorem awake_any (w : World) : Calls Try.prog 13 #[] w fun e w' => e = .returned (.bool true) ∧ Below w.heap.size w w' := by
  have z1 := awakePut w
  have z3 : ∀ (A1 : Option Addr) (c1 : Nat) (w2 : World) (o1 o2 : Obj), BytesAt w2 w2.heap.size A1 [9, 1, 3, 0, 0, 0, 0, 0] →
      Calls Try.prog 10 #[.slice A1 8 c1, .slice (some ⟨w2.heap.size + 1 + 1, 0, none⟩) 8 8] (((w2.alloc o1).alloc o2).alloc (.cells #[.int .u8 9, .int .u8 1, .int .u8 3, .int .u8 0, .int .u8 0, .int .u8 0, .int .u8 0, .int .u8 0] 5)) fun e w' => e = .returned (.bool true) ∧ (((w2.alloc o1).alloc o2).alloc (.cells #[.int .u8 9, .int .u8 1, .int .u8 3, .int .u8 0, .int .u8 0, .int .u8 0, .int .u8 0, .int .u8 0] 5)) = w' := fun A1 c1 w2 o1 o2 h =>
    same_yes A1 [9, 1, 3, 0, 0, 0, 0, 0] 8 c1 rfl _ [9, 1, 3, 0, 0, 0, 0, 0] 8 8 rfl _ (((h.stepA o1).stepA o2).stepA _)
      ((bytes_new_at ((w2.alloc o1).alloc o2) [9, 1, 3, 0, 0, 0, 0, 0] 5 (0, 0) (w2.heap.size + 1 + 1) (w2.heap.size + 1 + 1 + 1) (by simp) (by omega)).more (by simp)) rfl
  go_enter Try.func13, Try.ntmps13
  go_wp2_with (first
    | (go_at_call 6; (with_reducible refine z1.mono ?_); (rintro e w1 ⟨A1, c1, rfl, hb1, hB1⟩; have H1 := Lib.hid (And.intro hb1 hB1); clear hb1 hB1))
    | (go_at_call 14; (with_reducible refine (awakeGet w1).mono ?_); (rintro e w2 ⟨A2, c2, rfl, hB2⟩; have H2 := Lib.hid hB2; clear hB2))
    | (go_at_call 10; (refine (z3 A1 c1 w2 _ _ (H1.out.1.step H2.out)).mono ?_); (rintro e w3 ⟨rfl, rfl⟩)))
  go_ret
  exact ⟨rfl, step_alloc (step_alloc (step_alloc (step_trans H1.out.2 H2.out) _) _) _⟩
end Go.Proofs.Ytfiijnpabmocdaa
