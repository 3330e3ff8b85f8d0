/-
  A slot on a disk that is nil, or that nobody made. Conditions: none.
-/
import Derived.Test.YtcahpodmcklnbaaGreatDoorSlSave
import Derived.Test.YtcahpodmcklnbaaGreatDoorDmNone
namespace Go.Proofs.YtcahpodmcklnbaaGreatDoor
open Go.RowKit Fix

theorem NoDisk.step {w w' : World} {p : Value} (h : NoDisk w p) (hb : Below w.heap.size w w') : NoDisk w' p := by
  rcases h with h | ⟨b, e, h⟩
  · exact .inl h
  · exact .inr ⟨b, e, (hb.cell (p := ⟨b, 0, none⟩) (World.block_lt_of_cell? w _ h)).trans h⟩
set_option maxRecDepth 100000 in
theorem look_no (p : Value) (i : Int) (w : World) (h : NoDisk w p) : Calls Tryz.prog 63 #[p, .int .i64 i] w (LookIs 1 0 0 [] w) := by
  have z : ∀ w, NoDisk w p → _ := fun w h => noRead (w := w) h i
  go_enter Tryz.func63, Tryz.ntmps63
  go_wp2_with (first
    | ((with_reducible refine atWorld w ?_); refine wpList_allocRow (w := w) halfTy rfl rfl ?_; (intro w0 b0 B0 s0; have h0 := h.step B0; have b0 := Lib.hid b0))
    | (go_at_call 48; refine (z w0 h0).mono ?_; (rintro e w1 ⟨rfl, hw1⟩; have B1 : Below w0.heap.size w0 w1 := (by rw [hw1]; exact Below.refl _ _); clear hw1))
    | ((with_reducible refine atWorld w1 ?_); refine wpList_storeRow (w := w1) halfTy rfl (.tmp 4) (.tmp 19) rfl w.heap.size [.int .i64 1, .int .i64 0, .int .i64 0, .slice none 0 0] halfZ rfl rfl rfl rfl half_one (BlkR.step b0.out B1) ?_; (intro w3 b3 B3 s3 k3)))
  refine bodyPost_ret (w := w3) (results_cell1 Tryz.results63 _ _ _ _ _ rfl (loadRow halfTy (by rfl) b3)) rfl ⟨none, 0, rfl, by decide, Whole.none_, ?_⟩
  exact B0.trans ((B1.mono B0.size).trans B3)
theorem both_no (p : Value) (i : Int) (w : World) (h : NoDisk w p) : Calls Tryz.prog 30 #[p, .int .i64 i] w (BothIs 1 0 0 [] 1 0 0 [] 1 w) :=
  both_go p (fun w => NoDisk w p) (fun _ _ h hB => h.step hB) i (nxt i) rfl _ _ _ _ _ _ _ _ _ rfl (fun w h => look_no p i w h) (fun w h => look_no p (nxt i) w h) w h
theorem load_no (p : Value) (i : Int) (w : World) (h : NoDisk w p) : Calls Tryz.prog 77 #[p, .int .i64 i] w fun e w' => e = .returned (.tuple #[.slice none 0 0, .int .i64 1]) ∧ Below w.heap.size w w' :=
  load_err w p i _ _ _ _ _ _ _ _ _ (both_no p i w h) (by decide)
set_option maxRecDepth 100000 in
theorem save_no (p : Value) (i : Int) (v : Value) (w : World) (h : NoDisk w p) : Calls Tryz.prog 13 #[p, .int .i64 i, v] w fun e w' => e = .returned (.int .i64 1) ∧ Below w.heap.size w w' := by
  have z := noSectors h
  clear h
  go_enter Tryz.func13, Tryz.ntmps13
  go_wp2_with (go_at_call 29; refine z.mono ?_; (rintro e w1 ⟨rfl, rfl⟩))
  go_ret
  exact ⟨rfl, Below.refl _ _⟩
end Go.Proofs.YtcahpodmcklnbaaGreatDoor
