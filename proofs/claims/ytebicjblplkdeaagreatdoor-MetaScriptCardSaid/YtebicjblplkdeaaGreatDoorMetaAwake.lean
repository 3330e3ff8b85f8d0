/-
  The statements' own check of the chapter's examples (awake): it tells true. Conditions: none.
-/
import Derived.Test.YtebicjblplkdeaaGreatDoorMa
import Derived.Test.YtebicjblplkdeaaGreatDoorBa
namespace Go.Proofs.YtebicjblplkdeaaGreatDoor
open Go.RowKit Fix

def zO (n : Nat) : Obj := .cells (List.replicate n (Value.int .u8 0)).toArray 5
theorem zO_blk (w : World) (n : Nat) : BlkB (w.alloc (zO n)) w.heap.size (List.replicate n 0) := by
  have h := heap_alloc_new w (.cells (cellsOfBytes (List.replicate n 0)).toArray 5)
  have e : cellsOfBytes (List.replicate n 0) = List.replicate n (Value.int .u8 0) := by simp [cellsOfBytes]
  rw [e] at h
  unfold BlkB; rw [e]; exact h
namespace Mt
def ex1 : Mt := ⟨258, 2, 0, 0, 0, 0⟩
def ex2 : Mt := ⟨0, 3, 0, 0, 0, 0⟩
def exB : List UInt8 := (((List.replicate 26 0).set 0 2).set 1 1).set 6 3
theorem ex_ok : ex1.bytes = exB ∧ ex1.err = 0 ∧ ex2.err = 2 := by decide +kernel
end Mt
theorem awake_any (w : World) : Calls Tryz.prog 8 #[] w fun e w' => e = .returned (.bool true) ∧ Below w.heap.size w w' := by
  have mk : ∀ W : World, (Instr.makeSlice 32 (.int .i64 26) (.int .i64 26)).run Tryz.prog W = .ok (.slice (some ⟨W.heap.size, 0, none⟩) 26 26) (W.alloc (zO 26)) := make_bytes 26 (by decide)
  have zb := metaBytes_any Mt.ex1 w
  have zc := fun w => check_any Mt.ex2 w
  unfold MtBs at zb
  rw [Mt.ex_ok.1, Mt.ex_ok.2.1, show Mt.exB.length = 26 by decide] at zb
  rw [Mt.ex_ok.2.2] at zc
  have key : ∀ w1 : World, Hid (∀ A1 c1, OwnB w1 w.heap.size (.slice A1 26 c1) Mt.exB → Calls Tryz.prog 18 #[.slice A1 26 c1, .slice (some ⟨w1.heap.size, 0, none⟩) 26 26] ((((w1.alloc (zO 26)).setCell ⟨w1.heap.size, 0, none⟩ (.int .u8 2)).setCell ⟨w1.heap.size, 1, none⟩ (.int .u8 1)).setCell ⟨w1.heap.size, 6, none⟩ (.int .u8 3)) fun e w' => e = .returned (.bool true) ∧ ((((w1.alloc (zO 26)).setCell ⟨w1.heap.size, 0, none⟩ (.int .u8 2)).setCell ⟨w1.heap.size, 1, none⟩ (.int .u8 1)).setCell ⟨w1.heap.size, 6, none⟩ (.int .u8 3)) = w') := fun w1 => Lib.hid fun A1 c1 ho => by
    have b : BlkB ((((w1.alloc (zO 26)).setCell ⟨w1.heap.size, 0, none⟩ (.int .u8 2)).setCell ⟨w1.heap.size, 1, none⟩ (.int .u8 1)).setCell ⟨w1.heap.size, 6, none⟩ (.int .u8 3)) w1.heap.size Mt.exB := (((zO_blk w1 26).set_ 0 2).set_ 1 1).set_ 6 3
    have B : Below w1.heap.size w1 ((((w1.alloc (zO 26)).setCell ⟨w1.heap.size, 0, none⟩ (.int .u8 2)).setCell ⟨w1.heap.size, 1, none⟩ (.int .u8 1)).setCell ⟨w1.heap.size, 6, none⟩ (.int .u8 3)) := ((((Below.refl _ _).alloc (Nat.le_refl _) _).setCell (Nat.le_refl _) _).setCell (Nat.le_refl _) _).setCell (Nat.le_refl _) _
    exact same_yes A1 Mt.exB 26 c1 (by decide) _ Mt.exB 26 26 (by decide) _ (ho.bytes.step B) b.at_ rfl
  have HB : ∀ w1 : World, Hid (Below w1.heap.size w1 ((((w1.alloc (zO 26)).setCell ⟨w1.heap.size, 0, none⟩ (.int .u8 2)).setCell ⟨w1.heap.size, 1, none⟩ (.int .u8 1)).setCell ⟨w1.heap.size, 6, none⟩ (.int .u8 3))) := fun w1 => Lib.hid (((((Below.refl _ _).alloc (Nat.le_refl _) _).setCell (Nat.le_refl _) _).setCell (Nat.le_refl _) _).setCell (Nat.le_refl _) _)
  go_enter Tryz.func8, Tryz.ntmps8
  go_wp2_with (first
    | (go_at_call 17; refine zb.mono ?_; (rintro e w1 ⟨A1, c1, rfl, hc1, o1, B1⟩; have hz := zO_blk w1 26; have y0 := hz.cell 0 (by decide); have y1 := hz.cell 1 (by decide); have y6 := hz.cell 6 (by decide); have f0 := hz.frozen 0; have f1 := hz.frozen 1; have f6 := hz.frozen 6; clear hz))
    | (go_at_call 18; refine ((key w1).out A1 c1 o1.own).mono ?_; (rintro e w2 ⟨rfl, rfl⟩))
    | (go_at_call 19; refine (zc _).mono ?_; (rintro e w3 ⟨rfl, B3⟩)))
  go_ret
  refine ⟨rfl, B1.trans ?_⟩
  exact ((HB w1).out.trans (B3.mono (HB w1).out.size)).mono B1.size
end Go.Proofs.YtebicjblplkdeaaGreatDoor
