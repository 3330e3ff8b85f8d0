/-
  A call of both nets (tandemlaw14.act): Drop, Double, Cut, Clear, and none. Conditions: how many were lost is a number far from the greatest.
-/
import Derived.Test.YtplfhlmipdlmnaaNtDuo
import Derived.Test.YtplfhlmipdlmnaaNaMem
import Derived.Deep.RegionHeld3
namespace Go.Proofs.Ytplfhlmipdlmnaa
open Go.RowKit Nt

abbrev noW : Nat → Prop := fun _ => False
def ActPost (w0 : World) (b c : Nat) (s : N) (e : Ending) (w' : World) : Prop := e = .returned (.bool true) ∧ Du w0 w' b c s s noW
set_option maxRecDepth 100000 in
/-- the same datagram -/
theorem samePk_yes (p q : Int) (A A' : Option Addr) (l : List UInt8) (n c c' : Nat) (hn : l.length = n) (w : World) (hr : BytesAt w w.heap.size A l) (hr' : BytesAt w w.heap.size A' l) :
    Calls Try.prog 21 #[.agg #[.int .i64 p, .int .i64 q, .slice A n c], .agg #[.int .i64 p, .int .i64 q, .slice A' n c']] w fun e w' => e = .returned (.bool true) ∧ Below w.heap.size w w' := by
  have zs := same_yes A l n c hn A' l n c' hn ((w.alloc (.cells #[.int .i64 p, .int .i64 q, .slice A n c] 48)).alloc (.cells #[.int .i64 p, .int .i64 q, .slice A' n c'] 48)) ((hr.stepA _).stepA _) ((hr'.stepA _).stepA _) rfl
  have ep : (p == p) = true := beq_self_eq_true _
  have eq : (q == q) = true := beq_self_eq_true _
  clear hr hr' hn
  go_enter Try.func21, Try.ntmps21
  go_wp2_with (go_at_call 44; refine zs.mono ?_; (rintro e w2 ⟨rfl, rfl⟩))
  go_ret
  exact ⟨rfl, step_alloc (step_alloc (Below.refl _ w) _) _⟩
section
variable {w0 w w' : World} {b c : Nat} {s t s2 t2 : N} {Ws Wz : Nat → Prop}
theorem DuTo.whole {A : Option Addr} {k base : Nat} {l : List UInt8} (h : DuTo w0 w b c s t Ws w') (hw : ∀ j, BlockOf A k j → Ws j) (o : Whole w base A k l) : Whole w' base A k l := by
  rcases o with o | ⟨g, t, E, rfl, hg, hb, hc⟩
  · exact .inl o
  · by_cases h0 : k = 0
    · exact .inl ⟨List.length_eq_zero_iff.1 (by omega), h0⟩
    · exact .inr ⟨g, t, E, rfl, hg, h.blk (hw g ⟨h0, _, rfl, rfl⟩) hb, hc⟩
/-- the box of the call's row -/
theorem du_box (h : Du w0 w b c s t noW) (o : Obj) : Du w0 (w.alloc o) b c s t (fun j => j = w.heap.size) := h.add (step_alloc (Below.refl _ w) o) fun j hj => .inr (by simp; omega)
set_option maxRecDepth 100000 in
set_option maxHeartbeats 2000000 in
theorem act_drop (h : Du w0 w b c s s noW) (hl : s.lost ≤ 4611686018427387904) (i to_ : Int) (is : Bool) (A : Option Addr) (n cb : Nat) (s2 : N) (hs : s.dropI i = s2) :
    Calls Try.prog 11 #[.pointer (some ⟨b, 0, none⟩), .pointer (some ⟨c, 0, none⟩), .agg #[.int .i64 3, .int .i64 i, .int .i64 to_, .bool is, .slice A n cb]] w (ActPost w0 b c s2) := by
  obtain ⟨w1, hw1⟩ : ∃ w1, w1 = w.alloc (.cells #[.int .i64 3, .int .i64 i, .int .i64 to_, .bool is, .slice A n cb] 34) := ⟨_, rfl⟩
  have b1 : BlkR 34 w1 w.heap.size [.int .i64 3, .int .i64 i, .int .i64 to_, .bool is, .slice A n cb] := by rw [hw1]; exact BlkR.new w _ _
  have h1 : Du w0 w1 b c s s (fun j => j = w.heap.size) := by rw [hw1]; exact du_box h _
  have hd := h1.step (Below.refl _ w1).drew
  have bd : BlkR 34 w1.drew w.heap.size [.int .i64 3, .int .i64 i, .int .i64 to_, .bool is, .slice A n cb] := b1
  obtain ⟨E, hE⟩ : ∃ E, E = s.lookE i := ⟨_, rfl⟩
  have z1 := du_drop hd i hl E s2 hE.symm hs
  have z2 := Lib.hid fun w2 (D : DuTo w0 w1.drew b c s2 s (fun j => j = w.heap.size) w2) => And.intro (show w2.cell? ⟨w.heap.size, 1, none⟩ = some (.int .i64 i) from (D.blk rfl bd).cell (k := 1) rfl) (And.intro (D.blk rfl bd) (du_dropR D.1 i hl E s2 hE.symm hs))
  have x0 := b1.cell (k := 0) rfl
  have C1 : w1.drew.cell? ⟨w.heap.size, 1, none⟩ = some (.int .i64 i) := (bd).cell (k := 1) rfl
  have eE : (E == E) = true := beq_self_eq_true _
  unfold ActPost
  clear h h1 hd bd hE b1 hs hl
  go_enter Try.func11, Try.ntmps11
  go_wp2
  rw [← hw1]
  clear hw1
  go_region_held3 (fun w' => w'.cell? ⟨w.heap.size, 1, none⟩ = some (.int .i64 i)) (first | assumption) (first
    | (go_at_call 22; refine z1.mono ?_; (rintro e w2 ⟨rfl, D2⟩; obtain ⟨C2, b2, z5⟩ := z2.out w2 D2; have b2 := Lib.hid b2; clear D2))
    | (go_at_call 32; refine z5.mono ?_; (rintro e w3 ⟨rfl, D3⟩; have C3 : w3.cell? ⟨w.heap.size, 1, none⟩ = some (.int .i64 i) := (D3.blk rfl b2.out).cell (k := 1) rfl; have H := Lib.hid D3.1; clear D3)))
  go_wp2
  go_ret
  exact ⟨rfl, H.out.less fun _ e => e.elim⟩
end
end Go.Proofs.Ytplfhlmipdlmnaa
