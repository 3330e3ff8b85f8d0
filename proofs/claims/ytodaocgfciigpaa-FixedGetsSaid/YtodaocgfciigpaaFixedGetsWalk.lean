/-
  The walk of FixedGets. Conditions: the bytes can be read, and are at most as many as the form's own reach.
-/
import Derived.Test.YtodaocgfciigpaaFixAwake
import Derived.Test.YtodaocgfciigpaaKitStep
import Derived.Test.YtodaocgfciigpaaKitFault
namespace Go.Proofs.Ytodaocgfciigpaa
open Go.RowKit Fix

/-- the faults that stand, behind all six calls -/
theorem stand6 (w2 w3 w4 w5 w6 w7 : World) (e1 f1 e2 f2 e3 f3 : Int) (hB3 : Below (w2.alloc (fcells e1 f1)).heap.size (w2.alloc (fcells e1 f1)) w3) (hB4 : Below (w3.alloc (fcells e1 f1)).heap.size (w3.alloc (fcells e1 f1)) w4)
    (hB5 : Below (w4.alloc (fcells e2 f2)).heap.size (w4.alloc (fcells e2 f2)) w5) (hB6 : Below (w5.alloc (fcells e2 f2)).heap.size (w5.alloc (fcells e2 f2)) w6) (hB7 : Below (w6.alloc (fcells e3 f3)).heap.size (w6.alloc (fcells e3 f3)) w7) :
    FltAt (w7.alloc (fcells e3 f3)) w2.heap.size e1 f1 ∧ FltAt (w7.alloc (fcells e3 f3)) w3.heap.size e1 f1 ∧ FltAt (w7.alloc (fcells e3 f3)) w4.heap.size e2 f2 ∧ FltAt (w7.alloc (fcells e3 f3)) w5.heap.size e2 f2 ∧ FltAt (w7.alloc (fcells e3 f3)) w6.heap.size e3 f3 ∧
      Below w2.heap.size w2 (w7.alloc (fcells e3 f3)) := by
  have a6 := (FltAt.new w6 e3 f3).step hB7
  have a5 := (((FltAt.new w5 e2 f2).step hB6).stepA (fcells e3 f3)).step hB7
  have a4 := (((((FltAt.new w4 e2 f2).step hB5).stepA (fcells e2 f2)).step hB6).stepA (fcells e3 f3)).step hB7
  have a3 := (((((((FltAt.new w3 e1 f1).step hB4).stepA (fcells e2 f2)).step hB5).stepA (fcells e2 f2)).step hB6).stepA (fcells e3 f3)).step hB7
  have a2 := (((((((((FltAt.new w2 e1 f1).step hB3).stepA (fcells e1 f1)).step hB4).stepA (fcells e2 f2)).step hB5).stepA (fcells e2 f2)).step hB6).stepA (fcells e3 f3)).step hB7
  refine ⟨a2.stepA _, a3.stepA _, a4.stepA _, a5.stepA _, a6.stepA _, ?_⟩
  have b3 := step_trans (step_alloc (Below.refl _ w2) (fcells e1 f1)) hB3
  have b4 := step_trans (step_alloc b3 (fcells e1 f1)) hB4
  have b5 := step_trans (step_alloc b4 (fcells e2 f2)) hB5
  have b6 := step_trans (step_alloc b5 (fcells e2 f2)) hB6
  exact step_alloc (step_trans (step_alloc b6 (fcells e3 f3)) hB7) _
theorem gets_any (A : Option Addr) (l : List UInt8) (c : Nat) (at_ s : Int) (w : World) (hl : l.length ≤ 140737488351232) (hr : BytesAt w w.heap.size A l) :
    Calls Try.prog 4 #[.slice A l.length c, .int .i64 at_, .int .i64 s] w fun e w' => e = .returned (.bool true) ∧ Below w.heap.size w w' := by
  have P1 := fun (A : Option Addr) (c : Nat) (W : World) (h : l.length ≤ c) (hr : BytesAt W W.heap.size A l) => get_any A l c at_ s W h hl hr
  have R1 := fun (A : Option Addr) (c : Nat) (W : World) (hr : BytesAt W W.heap.size A l) => refGet_any A l c at_ s W hl hr
  have P2 := fun (A : Option Addr) (c : Nat) (W : World) (h : l.length ≤ c) (hr : BytesAt W W.heap.size A l) => getWord_any A l c at_ W h hl hr
  have R2 := fun (A : Option Addr) (c : Nat) (W : World) (hr : BytesAt W W.heap.size A l) => refGetWord_any A l c at_ W hl hr
  have P3 := fun (A : Option Addr) (c : Nat) (W : World) (h : l.length ≤ c) (hr : BytesAt W W.heap.size A l) => getLong_any A l c at_ W h hl hr
  have R3 := fun (A : Option Addr) (c : Nat) (W : World) (hr : BytesAt W W.heap.size A l) => refGetLong_any A l c at_ W hl hr
  generalize getsN l at_ s = n1 at P1 R1
  generalize getsP l.length at_ s = p1 at P1 R1
  generalize getsE l.length at_ s = e1 at P1 R1
  generalize getsA l.length at_ s = f1 at P1 R1
  generalize getN l at_ 4 = n2 at P2 R2
  generalize getP l.length at_ 4 = p2 at P2 R2
  generalize getE l.length at_ 4 = e2 at P2 R2
  generalize getA l.length at_ 4 = f2 at P2 R2
  generalize getN l at_ 8 = n3 at P3 R3
  generalize getP l.length at_ 8 = p3 at P3 R3
  generalize getE l.length at_ 8 = e3 at P3 R3
  generalize getA l.length at_ 8 = f3 at P3 R3
  unfold flt at P1 R1 P2 R2 P3 R3
  go_enter Try.func4, Try.ntmps4
  go_wp2_with (first
    | (go_at_call 17; refine (lentBytes_any A l c _ hl hr).mono ?_; (rintro e w1 ⟨g, rfl, _, hb1, hB1⟩; have r1 := hr.step hB1; have i1 := hb1.bytes l ⟨_, rfl⟩ hb1.lt))
    | (go_at_call 18; refine (P1 _ _ _ (by omega) i1).mono ?_; (rintro e w2 ⟨rfl, hB2⟩; have r2 := (r1.step hB2).stepA (fcells e1 f1); have i2 := (i1.step hB2).stepA (fcells e1 f1)))
    | (go_at_call 19; refine (R1 _ _ _ r2).mono ?_; (rintro e w3 ⟨rfl, hB3⟩; have r3 := (r2.step hB3).stepA (fcells e1 f1); have i3 := (i2.step hB3).stepA (fcells e1 f1)))
    | (go_at_call 20; refine (P2 _ _ _ (by omega) i3).mono ?_; (rintro e w4 ⟨rfl, hB4⟩; have r4 := (r3.step hB4).stepA (fcells e2 f2); have i4 := (i3.step hB4).stepA (fcells e2 f2)))
    | (go_at_call 21; refine (R2 _ _ _ r4).mono ?_; (rintro e w5 ⟨rfl, hB5⟩; have r5 := (r4.step hB5).stepA (fcells e2 f2); have i5 := (i4.step hB5).stepA (fcells e2 f2)))
    | (go_at_call 22; refine (P3 _ _ _ (by omega) i5).mono ?_; (rintro e w6 ⟨rfl, hB6⟩; have r6 := (r5.step hB6).stepA (fcells e3 f3); have i6 := (i5.step hB6).stepA (fcells e3 f3))))
  have T := fun w7 hB7 => stand6 w2 w3 w4 w5 w6 w7 e1 f1 e2 f2 e3 f3 hB3 hB4 hB5 hB6 hB7
  have HK : Hid (∀ w7, Below (w6.alloc (fcells e3 f3)).heap.size (w6.alloc (fcells e3 f3)) w7 → BytesAt (w7.alloc (fcells e3 f3)) (w7.alloc (fcells e3 f3)).heap.size A l ∧ BlkB (w7.alloc (fcells e3 f3)) g (lent l) ∧ Below w.heap.size w (w7.alloc (fcells e3 f3))) := fun w7 hB7 => by
    have h := (T w7 hB7).2.2.2.2.2
    exact ⟨(r6.step hB7).stepA _, (hb1.step hB2).step h, step_trans (step_trans hB1 hB2) h⟩
  clear hB1 hB2 hB3 hB4 hB5 hB6 r1 r2 r3 r4 r5 i1 i2 i3 i4 i5 i6 hb1 P1 P2 P3 R1 R2
  go_wp2_with (first
    | (go_at_call 23; refine (R3 _ _ _ r6).mono ?_; (rintro e w7 ⟨rfl, hB7⟩; obtain ⟨k2, k3, k4, k5, k6, _⟩ := T w7 hB7; have x2 := k2.c0; have y2 := k2.c1; have x3 := k3.c0; have y3 := k3.c1; have x4 := k4.c0; have y4 := k4.c1; have x5 := k5.c0; have y5 := k5.c1; have x6 := k6.c0; have y6 := k6.c1; clear k2 k3 k4 k5 k6 T R3 r6; unfold fcells at x2 x3 x4 x5 x6 y2 y3 y4 y5 y6; have HL := Lib.hid (HK.out w7 hB7); clear hB7 HK))
    | (go_at_call 24; refine (keptBytes_yes g l A c _ hl HL.out.2.1 HL.out.1).mono ?_; (rintro e w8 ⟨rfl, hB8⟩))
    | (go_at_call 16; refine (awake_any _).mono ?_; (rintro e w9 ⟨rfl, hB9⟩)))
  go_ret
  exact ⟨rfl, step_trans (step_trans HL.out.2.2 hB8) hB9⟩
end Go.Proofs.Ytodaocgfciigpaa
