/-
  dirty.Open over any disk that does what the document says. Conditions: the table of crc lies as the program's text lays it.
-/
import Derived.Test.YtcahpodmcklnbaaGreatDoorDyProg
namespace Go.Proofs.YtcahpodmcklnbaaGreatDoor
open Go.RowKit Fix

section
variable {At : World → Nat → (Nat → Prop) → DS → Prop} (D : Disks Tryz.prog At)
include D
set_option maxRecDepth 100000 in
theorem mpOpen_any (w : World) (b : Nat) (F : Nat → Prop) (S : DS) (p : Int) (ht : TabAt w) (h : At w b F S) :
    Calls Tryz.prog 20 #[.pointer (some ⟨b, 0, none⟩), .int .i64 p] w (OpPost b S p w) := by
  have bx := mpBox w b p
  obtain ⟨W, hW⟩ : ∃ W, W = w.alloc (.cells #[.pointer (some ⟨b, 0, none⟩), .int .i64 p, .pointer none, .int .u64 0] 102) := ⟨_, rfl⟩
  rw [← hW] at bx
  have x0 := bx.out.1.cell (k := 0) rfl
  have x1 := bx.out.1.cell (k := 1) rfl
  have z := plLoad_any D W b F S p (ht.below bx.out.2 (Nat.le_refl _)) (At_step D h bx.out.2)
  unfold OpPost
  have hl := Dy.openN_lt S p
  obtain ⟨n, hn⟩ : ∃ n, n = Dy.openN S p := ⟨_, rfl⟩
  obtain ⟨E, hE⟩ : ∃ E, E = Dy.openE S p := ⟨_, rfl⟩
  rw [← hn, ← hE] at z ⊢
  rw [← hn] at hl
  have HL := Lib.hid hl
  have BX := bx.out.2
  have SX : Hid (∀ w', Below W.heap.size W w' → Below w.heap.size w w') := Lib.hid fun w' B => step_trans BX B
  have HS := Lib.hid BX.size
  clear BX
  by_cases h0 : E = 0
  · subst h0
    clear hn hE hl h ht
    have key : Calls Tryz.prog 20 #[.pointer (some ⟨b, 0, none⟩), .int .i64 p] w fun e w' => e = .returned (.tuple #[.pointer (some ⟨w.heap.size, 0, none⟩), .int .i64 0]) ∧ MpAt w' w.heap.size b p n ∧ Below w.heap.size w w' := by
      go_enter Tryz.func20, Tryz.ntmps20
      go_wp2_with (go_at_call 55; rw [← hW]; refine z.mono ?_; (rintro e w2 ⟨rfl, B2⟩; have b2 := bx.out.1.step B2; have y2 := b2.frozen 2; have y3 := b2.frozen 3; have y4 := b2.cell (k := 2) rfl; have y5 := b2.cell (k := 3) rfl; have b2 := Lib.hid b2; have B2 := Lib.hid B2))
      go_ret2
      exact ⟨rfl, ⟨(b2.out.set_ 2 _).set_ 3 _, HL.out⟩, ((SX.out w2 B2.out).setCell (Nat.le_refl _) _).setCell (Nat.le_refl _) _⟩
    exact key.mono fun e w' h => ⟨fun _ => h, fun h2 => absurd rfl h2⟩
  · clear hn hE hl h ht
    have hne : (E != 0) = true := by simpa using h0
    have key : Calls Tryz.prog 20 #[.pointer (some ⟨b, 0, none⟩), .int .i64 p] w fun e w' => e = .returned (.tuple #[.pointer none, .int .i64 E]) ∧ Below w.heap.size w w' := by
      clear h0
      go_enter Tryz.func20, Tryz.ntmps20
      go_wp2_with (go_at_call 55; rw [← hW]; refine z.mono ?_; (rintro e w2 ⟨rfl, B2⟩))
      go_ret2
      exact ⟨rfl, SX.out w2 B2⟩
    exact key.mono fun e w' h => ⟨fun h2 => absurd h2 h0, fun _ => h⟩
end
end Go.Proofs.YtcahpodmcklnbaaGreatDoor
