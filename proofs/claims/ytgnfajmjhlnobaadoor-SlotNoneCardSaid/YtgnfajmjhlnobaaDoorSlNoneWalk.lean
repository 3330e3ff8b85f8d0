/-
  The walk of SlotNone. Conditions: the table of crc lies as the program's text lays it.
-/
import Derived.Test.YtgnfajmjhlnobaaDoorSlAwake
import Derived.Test.YtgnfajmjhlnobaaDoorDmNone
import Derived.Test.YtgnfajmjhlnobaaDoorDiskAny
namespace Go.Proofs.YtgnfajmjhlnobaaDoor
open Go.RowKit Fix

theorem NoDisk.step {w w' : World} {p : Value} (h : NoDisk w p) (hb : Below w.heap.size w w') : NoDisk w' p := by
  rcases h with h | ⟨b, e, h⟩
  · exact .inl h
  · exact .inr ⟨b, e, (hb.cell (p := ⟨b, 0, none⟩) (World.block_lt_of_cell? w _ h)).trans h⟩
set_option maxRecDepth 100000 in
theorem look_no (p : Value) (i : Int) (w : World) (h : NoDisk w p) : Calls Tryd.prog 60 #[p, .int .i64 i] w (LookIs 1 0 0 [] w) := by
  have z : ∀ w, NoDisk w p → _ := fun w h => noRead (w := w) h i
  go_enter Tryd.func60, Tryd.ntmps60
  go_wp2_with (first
    | ((with_reducible refine atWorld w ?_); refine wpList_allocRow (w := w) halfTy rfl rfl ?_; (intro w0 b0 B0 s0; have h0 := h.step B0; have b0 := Lib.hid b0))
    | (go_at_call 49; refine (z w0 h0).mono ?_; (rintro e w1 ⟨rfl, hw1⟩; have B1 : Below w0.heap.size w0 w1 := (by rw [hw1]; exact Below.refl _ _); clear hw1))
    | ((with_reducible refine atWorld w1 ?_); refine wpList_storeRow (w := w1) halfTy rfl (.tmp 4) (.tmp 19) rfl w.heap.size [.int .i64 1, .int .i64 0, .int .i64 0, .slice none 0 0] halfZ rfl rfl rfl rfl half_one (BlkR.step b0.out B1) ?_; (intro w3 b3 B3 s3 k3)))
  refine bodyPost_ret (w := w3) (results_cell1 Tryd.results60 _ _ _ _ _ rfl (loadRow halfTy (by rfl) b3)) rfl ⟨none, 0, rfl, by decide, Whole.none_, ?_⟩
  exact B0.trans ((B1.mono B0.size).trans B3)
theorem both_no (p : Value) (i : Int) (w : World) (h : NoDisk w p) : Calls Tryd.prog 42 #[p, .int .i64 i] w (BothIs 1 0 0 [] 1 0 0 [] 1 w) :=
  both_go p (fun w => NoDisk w p) (fun _ _ h hB => h.step hB) i (nxt i) rfl _ _ _ _ _ _ _ _ _ rfl (fun w h => look_no p i w h) (fun w h => look_no p (nxt i) w h) w h
theorem load_no (p : Value) (i : Int) (w : World) (h : NoDisk w p) : Calls Tryd.prog 20 #[p, .int .i64 i] w fun e w' => e = .returned (.tuple #[.slice none 0 0, .int .i64 1]) ∧ Below w.heap.size w w' :=
  load_err w p i _ _ _ _ _ _ _ _ _ (both_no p i w h) (by decide)
set_option maxRecDepth 100000 in
theorem save_no (p : Value) (i : Int) (v : Value) (w : World) (h : NoDisk w p) : Calls Tryd.prog 21 #[p, .int .i64 i, v] w fun e w' => e = .returned (.int .i64 1) ∧ Below w.heap.size w w' := by
  have z := noSectors h
  clear h
  go_enter Tryd.func21, Tryd.ntmps21
  go_wp2_with (go_at_call 44; refine z.mono ?_; (rintro e w1 ⟨rfl, rfl⟩))
  go_ret
  exact ⟨rfl, Below.refl _ _⟩
set_option maxRecDepth 100000 in
set_option maxHeartbeats 1000000 in
theorem none_any (n : Int) (A : Option Addr) (k c : Nat) (w : World) (ht : TabAt w) : Calls Tryd.prog 4 #[.int .i64 n, .slice A k c] w fun e w' => e = .returned (.bool true) ∧ Below w.heap.size w w' := by
  by_cases hk : 100 < (k : Int)
  · have za := awake_any disks w ht
    go_enter Tryd.func4, Tryd.ntmps4
    go_wp2_with (go_at_call 19; refine za.mono ?_; (rintro e w2 ⟨rfl, hB2⟩))
    go_ret
    exact ⟨rfl, hB2⟩
  · go_enter Tryd.func4, Tryd.ntmps4
    go_wp2
    have e1 : (w.alloc (.cells #[.pointer none, .slice none 0 0, .map none, .int .i64 0, .int .i64 0, .bool false] 42)).heap.size = w.heap.size + 1 := by simp
    have hb1 := MapKept.heap_alloc (w.alloc (.cells #[.pointer none, .slice none 0 0, .map none, .int .i64 0, .int .i64 0, .bool false] 42)) (.cells #[.pointer none, .pointer (some ⟨w.heap.size, 0, none⟩)] 33)
    have hb0 := MapKept.heap_alloc w (.cells #[.pointer none, .slice none 0 0, .map none, .int .i64 0, .int .i64 0, .bool false] 42)
    rw [e1] at hb1
    have g0 : ((w.alloc (.cells #[.pointer none, .slice none 0 0, .map none, .int .i64 0, .int .i64 0, .bool false] 42)).alloc (.cells #[.pointer none, .pointer (some ⟨w.heap.size, 0, none⟩)] 33)).heap[w.heap.size]? = some (.cells #[.pointer none, .slice none 0 0, .map none, .int .i64 0, .int .i64 0, .bool false] 42) := (hb1.2 _ (by omega)).trans hb0.1
    have g1 : ((w.alloc (.cells #[.pointer none, .slice none 0 0, .map none, .int .i64 0, .int .i64 0, .bool false] 42)).alloc (.cells #[.pointer none, .pointer (some ⟨w.heap.size, 0, none⟩)] 33)).heap[w.heap.size + 1]? = some (.cells #[.pointer none, .pointer (some ⟨w.heap.size, 0, none⟩)] 33) := hb1.1
    have hB : Below w.heap.size w ((w.alloc (.cells #[.pointer none, .slice none 0 0, .map none, .int .i64 0, .int .i64 0, .bool false] 42)).alloc (.cells #[.pointer none, .pointer (some ⟨w.heap.size, 0, none⟩)] 33)) := ((Below.refl _ w).alloc (Nat.le_refl _) _).alloc (by simp) _
    clear hb0 hb1 e1
    generalize hW : ((w.alloc (.cells #[.pointer none, .slice none 0 0, .map none, .int .i64 0, .int .i64 0, .bool false] 42)).alloc (.cells #[.pointer none, .pointer (some ⟨w.heap.size, 0, none⟩)] 33)) = W2 at g0 g1 hB ⊢
    clear hW
    have y0 : W2.cell? ⟨w.heap.size + 1, 0, none⟩ = some (.pointer none) := cell_of_row W2 _ 0 _ _ _ g1
    have y1 : W2.cell? ⟨w.heap.size + 1, 1, none⟩ = some (.pointer (some ⟨w.heap.size, 0, none⟩)) := cell_of_row W2 _ 1 _ _ _ g1
    have n0 : NoDisk W2 (.pointer none) := .inl rfl
    have n1 : NoDisk W2 (.pointer (some ⟨w.heap.size, 0, none⟩)) := .inr ⟨_, rfl, cell_of_row W2 _ 0 _ _ _ g0⟩
    have t2 := ht.below hB (Nat.le_refl _)
    clear g0 g1
    obtain ⟨g, hg⟩ : ∃ g, g = w.heap.size := ⟨_, rfl⟩
    rw [← hg] at y0 y1 n1 ⊢
    have HB := Lib.hid (And.intro hg hB)
    have HT := Lib.hid t2
    clear hg hB ht t2
    have N0 := Lib.hid n0
    have N1 := Lib.hid n1
    have Y := Lib.hid (And.intro y0 y1)
    clear n0 n1 y0 y1
    go_loopw [6] (fun ix wr => ∃ i : Nat, i ≤ 2 ∧ ix = .int .i64 (i : Int) ∧ Below W2.heap.size W2 wr) (fun ix _ => 2 - vNat ix)
    case atStart => exact ⟨0, by omega, rfl, Below.refl _ _⟩
    case round =>
      obtain ⟨i, hi, rfl, hbr⟩ := hrel
      have tr := HT.out.below hbr (Nat.le_refl _)
      by_cases h2 : i = 2
      · subst h2
        have za := awake_any disks wr tr
        go_wp2_with (go_at_call 19; refine za.mono ?_; (rintro e w2 ⟨rfl, hB2⟩))
        go_ret
        have hr := HB.out.2.trans ((step_trans hbr hB2).mono HB.out.2.size)
        exact ⟨by simp [HB.out.1], hr⟩
      · obtain ⟨p, hp, hy⟩ : ∃ p, NoDisk W2 p ∧ W2.cell? ⟨g + 1, i, none⟩ = some p := by
          rcases (show i = 0 ∨ i = 1 by omega) with rfl | rfl
          · exact ⟨_, N0.out, Y.out.1⟩
          · exact ⟨_, N1.out, Y.out.2⟩
        have pr := hp.step hbr
        have yr := (hbr.cell (p := ⟨g + 1, i, none⟩) (World.block_lt_of_cell? W2 _ hy)).trans hy
        have zl := load_no p n wr pr
        have hi2 : (i : Int) < 2 := by omega
        have hw1 : IntKind.i64.wrap ((i : Int) + 1) = (i : Int) + 1 := IntWalk.i64_in _ (by omega)
        have HBR := Lib.hid hbr
        have key : ∀ w3, Below wr.heap.size wr w3 → NoDisk w3 p ∧ w3.cell? ⟨g + 1, i, none⟩ = some p := fun w3 h => ⟨pr.step h, (h.cell (p := ⟨g + 1, i, none⟩) (World.block_lt_of_cell? wr _ yr)).trans yr⟩
        have KEY := Lib.hid key
        clear hp hy h2 hbr pr key tr
        go_wp2_with (first
          | (go_at_call 20; refine zl.mono ?_; (rintro e w3 ⟨rfl, B3⟩; obtain ⟨p3, y3⟩ := KEY.out w3 B3))
          | (go_at_call 21; refine (save_no p n (.slice A k c) w3 p3).mono ?_; (rintro e w4 ⟨rfl, B4⟩)))
        go_roundw
        case rel => exact ⟨i + 1, by omega, by go_num, step_trans HBR.out (step_trans B3 B4)⟩
        case measure => simp [vNat]; omega
end Go.Proofs.YtgnfajmjhlnobaaDoor
