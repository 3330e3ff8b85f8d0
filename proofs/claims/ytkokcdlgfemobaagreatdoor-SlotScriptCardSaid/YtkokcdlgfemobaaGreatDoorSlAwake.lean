/-
  What the statements on slots share: loads, the examples. Conditions: a disk's methods do what the document says; the table of crc lies as the program's text lays it.
-/
import Derived.Test.YtkokcdlgfemobaaGreatDoorSlSave
import Derived.Test.YtkokcdlgfemobaaGreatDoorSlAwake0
import Derived.Lib.SmallJoins
namespace Go.Proofs.YtkokcdlgfemobaaGreatDoor
open Go.RowKit Fix

/-- bytes of a constant, one byte -/
abbrev lit1 (w : World) (x : Int) : World := w.alloc (.cells #[.int .u8 x] 5 (1, 2))
theorem lit1_facts (w : World) (x : UInt8) : BytesAt (lit1 w (x.toNat : Int)) (lit1 w (x.toNat : Int)).heap.size (some ⟨w.heap.size, 0, none⟩) [x] ∧ Below w.heap.size w (lit1 w (x.toNat : Int)) := by
  refine ⟨?_, (Below.refl _ _).alloc (Nat.le_refl _) _⟩
  have := bytes_new_at w [x] 5 (1, 2) w.heap.size (w.heap.size + 1) rfl (Nat.lt_succ_self _)
  exact this.more (by simp)
theorem lit97 (w : World) : BytesAt (lit1 w 97) (lit1 w 97).heap.size (some ⟨w.heap.size, 0, none⟩) [97] ∧ Below w.heap.size w (lit1 w 97) := lit1_facts w 97
theorem lit98 (w : World) : BytesAt (lit1 w 98) (lit1 w 98).heap.size (some ⟨w.heap.size, 0, none⟩) [98] ∧ Below w.heap.size w (lit1 w 98) := lit1_facts w 98
section
variable {At : World → Nat → (Nat → Prop) → DS → Prop} (D : Disks Tryz.prog At)
include D
theorem loads_any (w : World) (b : Nat) (F : Nat → Prop) (S : DS) (A : Option Addr) (l : List UInt8) (n c : Nat) (hn : l.length = n) (ht : TabAt w) (h : At w b F S) (hr : BytesAt w w.heap.size A l) (x : Bool) (hx : (Slot.loadE S 0 == 0 && Slot.loadB S 0 == l) = x) :
    Calls Tryz.prog 39 #[.pointer (some ⟨b, 0, none⟩), .slice A n c] w fun e w' => e = .returned (.bool x) ∧ Below w.heap.size w w' := by
  subst hx
  have z := load_any D w b F S 0 ht h
  unfold LoadPost at z
  obtain ⟨rb, hrb⟩ : ∃ x, x = Slot.loadB S 0 := ⟨_, rfl⟩
  obtain ⟨re, hre⟩ : ∃ x, x = Slot.loadE S 0 := ⟨_, rfl⟩
  rw [← hrb, ← hre] at z
  rw [← hrb, ← hre]
  clear hrb hre
  cases h0 : (re == 0) with
  | true =>
    rw [Bool.true_and]
    go_enter Tryz.func39, Tryz.ntmps39
    go_wp2_with (first
      | (go_at_call 12; refine z.mono ?_; (rintro e w1 ⟨A1, c1, rfl, ho, hB1⟩; have S1 := sameBytes_any A1 rb _ c1 rfl A l n c hn w1.heap.size w1 ho.bytes (hr.step hB1)))
      | (go_at_call 14; refine S1.mono ?_; (rintro e w2 ⟨rfl, rfl⟩)))
    go_ret
    exact ⟨rfl, hB1⟩
  | false =>
    rw [Bool.false_and]
    go_enter Tryz.func39, Tryz.ntmps39
    go_wp2_with (go_at_call 12; refine z.mono ?_; (rintro e w1 ⟨A1, c1, rfl, ho, hB1⟩))
    go_ret
    exact ⟨rfl, hB1⟩
set_option maxRecDepth 100000 in
set_option maxHeartbeats 1000000 in
theorem awake_any (w : World) (ht : TabAt w) : Calls Tryz.prog 17 #[] w fun e w' => e = .returned (.bool true) ∧ Below w.heap.size w w' := by
  have kc := fun (w : World) (C : Array Value) (n c g : Nat) (hg : g = w.heap.size) => Go.Joins.run_convert_bytes_const_at (P := Tryz.prog) w 32 5 C n c g hg Tryz.underlying32 Tryz.underlying5
  have zn := D.new_yes 2 w (by decide) (by decide)
  have z0 : ∀ w b F, TabAt w → At w b F Ex.k0 → _ := fun w b F t h => load_any D w b F Ex.k0 0 t h
  unfold LoadPost at z0
  rw [Ex.e0] at z0
  have z1 : ∀ w b F A, TabAt w → At w b F Ex.k0 → BytesAt w w.heap.size A [97] → _ := fun w b F A t h r => save_any D w b F Ex.k0 0 A [97] 1 1 rfl t h r (by rw [Ex.eops.1]; decide)
  unfold ChgPost at z1
  rw [Ex.e1, show (Slot.save Ex.k0 0 [97]).1 = Ex.k1 from rfl] at z1
  have z2 : ∀ w b F A, TabAt w → At w b F Ex.k1 → BytesAt w w.heap.size A [97] → _ := fun w b F A t h r => loads_any D w b F Ex.k1 A [97] 1 1 rfl t h r true (by rw [Ex.e1l.1, Ex.e1l.2]; rfl)
  have z3 : ∀ w b F A, TabAt w → At w b F Ex.k1 → BytesAt w w.heap.size A [98] → _ := fun w b F A t h r => save_any D w b F Ex.k1 0 A [98] 1 1 rfl t h r (Nat.le_trans Ex.eops.2.1 (by decide))
  unfold ChgPost at z3
  rw [Ex.e2, show (Slot.save Ex.k1 0 [98]).1 = Ex.k2 from rfl] at z3
  have z4 : ∀ w b F, At w b F Ex.k2 → _ := fun w b F h => D.turn w b F Ex.k2 1 0 1 h
  rw [Ex.e3, show (Ex.k2.turn 1 0 1).1 = Ex.k3 from rfl, show (((1 : UInt8).toNat : Nat) : Int) = 1 from rfl] at z4
  have z5 : ∀ w b F A, TabAt w → At w b F Ex.k3 → BytesAt w w.heap.size A [98] → _ := fun w b F A t h r => loads_any D w b F Ex.k3 A [98] 1 1 rfl t h r true (by rw [Ex.e3l.1, Ex.e3l.2]; rfl)
  rw [show ((2 : Nat) : Int) = 2 from rfl, show DS.fresh 2 = Ex.k0 from rfl] at zn
  go_enter Tryz.func17, Tryz.ntmps17
  go_wp2_with (first
    | (go_at_call 6; refine zn.mono ?_; (rintro e w1 ⟨b, F, rfl, h1, hF, B1⟩; have t1 := ht.below B1 (Nat.le_refl _)))
    | (go_at_call 12; (with_reducible refine (z0 w1 b F t1 h1).mono ?_); (rintro e w2 ⟨A2, c2, rfl, _, B2⟩; obtain ⟨r2, L2⟩ := lit97 w2; have C2 := step_trans B1 (step_trans B2 L2); have h2 := At_step D (At_step D h1 B2) L2; have t2 := ht.below C2 (Nat.le_refl _)))
    | (go_at_call 9; first
      | ((with_reducible refine (z1 _ b F _ t2 h2 r2).mono ?_); (rintro e w3 ⟨F3, rfl, h3, hF3, fr3⟩; obtain ⟨C3, G3⟩ := chg_go C2 hF hF3 fr3; obtain ⟨r3, L3⟩ := lit97 w3; have C3' := step_trans C3 L3; have h3' := At_step D h3 L3; have t3 := ht.below C3' (Nat.le_refl _)))
      | ((with_reducible refine (z3 _ b F3 _ t4 h4 r4).mono ?_); (rintro e w5 ⟨F5, rfl, h5, hF5, fr5⟩; obtain ⟨C5, G5⟩ := chg_go C4 G3 hF5 fr5)))
    | (go_at_call 39; first
      | ((with_reducible refine (z2 _ b F3 _ t3 h3' r3).mono ?_); (rintro e w4 ⟨rfl, B4⟩; obtain ⟨r4, L4⟩ := lit98 w4; have C4 := step_trans C3' (step_trans B4 L4); have h4 := At_step D (At_step D h3' B4) L4; have t4 := ht.below C4 (Nat.le_refl _)))
      | ((with_reducible refine (z5 _ b F6 _ t6 h6' r6).mono ?_); (rintro e w7 ⟨rfl, B7⟩)))
    | (go_at_call 29; (with_reducible refine (z4 w5 b F5 h5).mono ?_); (rintro e w6 ⟨F6, rfl, h6, hF6, fr6⟩; obtain ⟨C6, G6⟩ := chg_go C5 G5 hF6 fr6; obtain ⟨r6, L6⟩ := lit98 w6; have C6' := step_trans C6 L6; have h6' := At_step D h6 L6; have t6 := ht.below C6' (Nat.le_refl _))))
  go_ret
  exact ⟨rfl, C6'.trans (B7.mono C6'.size)⟩
end
end Go.Proofs.YtkokcdlgfemobaaGreatDoor
