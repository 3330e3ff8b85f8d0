/-
  A call of both nets (tandemlaw14.act): Double, Cut, Clear, and none. Conditions: how many were lost is a number far from the greatest.
-/
import Derived.Test.YtplfhlmipdlmnaaNtAct
namespace Go.Proofs.Ytplfhlmipdlmnaa
open Go.RowKit Nt

section
variable {w0 w w' : World} {b c : Nat} {s t s2 t2 : N} {Ws Wz : Nat → Prop}
set_option maxRecDepth 100000 in
set_option maxHeartbeats 2000000 in
theorem act_double (h : Du w0 w b c s s noW) (i to_ : Int) (is : Bool) (A : Option Addr) (n cb : Nat) (s2 : N) (hs : s.double i = s2) :
    Calls Try.prog 11 #[.pointer (some ⟨b, 0, none⟩), .pointer (some ⟨c, 0, none⟩), .agg #[.int .i64 4, .int .i64 i, .int .i64 to_, .bool is, .slice A n cb]] w (ActPost w0 b c s2) := by
  obtain ⟨w1, hw1⟩ : ∃ w1, w1 = w.alloc (.cells #[.int .i64 4, .int .i64 i, .int .i64 to_, .bool is, .slice A n cb] 34) := ⟨_, rfl⟩
  have b1 : BlkR 34 w1 w.heap.size [.int .i64 4, .int .i64 i, .int .i64 to_, .bool is, .slice A n cb] := by rw [hw1]; exact BlkR.new w _ _
  have h1 : Du w0 w1 b c s s (fun j => j = w.heap.size) := by rw [hw1]; exact du_box h _
  have hd := h1.step (Below.refl _ w1).drew
  have bd : BlkR 34 w1.drew w.heap.size [.int .i64 4, .int .i64 i, .int .i64 to_, .bool is, .slice A n cb] := b1
  obtain ⟨E, hE⟩ : ∃ E, E = s.doubleE i := ⟨_, rfl⟩
  have z1 := du_double hd i E s2 hE.symm hs
  have z2 := Lib.hid fun w2 (D : DuTo w0 w1.drew b c s2 s (fun j => j = w.heap.size) w2) => And.intro (show w2.cell? ⟨w.heap.size, 1, none⟩ = some (.int .i64 i) from (D.blk rfl bd).cell (k := 1) rfl) (And.intro (D.blk rfl bd) (du_doubleR D.1 i E s2 hE.symm hs))
  have x0 := b1.cell (k := 0) rfl
  have C1 : w1.drew.cell? ⟨w.heap.size, 1, none⟩ = some (.int .i64 i) := (bd).cell (k := 1) rfl
  have eE : (E == E) = true := beq_self_eq_true _
  unfold ActPost
  clear h h1 hd bd hE b1 hs
  go_enter Try.func11, Try.ntmps11
  go_wp2
  rw [← hw1]
  clear hw1
  go_region_held3 (fun w' => w'.cell? ⟨w.heap.size, 1, none⟩ = some (.int .i64 i)) (first | assumption) (first
    | (go_at_call 18; refine z1.mono ?_; (rintro e w2 ⟨rfl, D2⟩; obtain ⟨C2, b2, z5⟩ := z2.out w2 D2; have b2 := Lib.hid b2; clear D2))
    | (go_at_call 33; refine z5.mono ?_; (rintro e w3 ⟨rfl, D3⟩; have C3 : w3.cell? ⟨w.heap.size, 1, none⟩ = some (.int .i64 i) := (D3.blk rfl b2.out).cell (k := 1) rfl; have H := Lib.hid D3.1; clear D3)))
  go_wp2
  go_ret
  exact ⟨rfl, H.out.less fun _ e => e.elim⟩
set_option maxRecDepth 100000 in
set_option maxHeartbeats 2000000 in
theorem act_cut (h : Du w0 w b c s s noW) (i to_ : Int) (is : Bool) (A : Option Addr) (n cb : Nat) (s2 : N) (hs : s.cut i to_ is = s2) :
    Calls Try.prog 11 #[.pointer (some ⟨b, 0, none⟩), .pointer (some ⟨c, 0, none⟩), .agg #[.int .i64 5, .int .i64 i, .int .i64 to_, .bool is, .slice A n cb]] w (ActPost w0 b c s2) := by
  obtain ⟨w1, hw1⟩ : ∃ w1, w1 = w.alloc (.cells #[.int .i64 5, .int .i64 i, .int .i64 to_, .bool is, .slice A n cb] 34) := ⟨_, rfl⟩
  have b1 : BlkR 34 w1 w.heap.size [.int .i64 5, .int .i64 i, .int .i64 to_, .bool is, .slice A n cb] := by rw [hw1]; exact BlkR.new w _ _
  have h1 : Du w0 w1 b c s s (fun j => j = w.heap.size) := by rw [hw1]; exact du_box h _
  have hd := h1.step (Below.refl _ w1).drew
  have bd : BlkR 34 w1.drew w.heap.size [.int .i64 5, .int .i64 i, .int .i64 to_, .bool is, .slice A n cb] := b1
  obtain ⟨E, hE⟩ : ∃ E, E = N.cutE i to_ := ⟨_, rfl⟩
  have z1 := du_cut hd i to_ is E s2 hE.symm hs
  have z2 := Lib.hid fun w2 (D : DuTo w0 w1.drew b c s2 s (fun j => j = w.heap.size) w2) => And.intro (show w2.cell? ⟨w.heap.size, 1, none⟩ = some (.int .i64 i) ∧ w2.cell? ⟨w.heap.size, 2, none⟩ = some (.int .i64 to_) ∧ w2.cell? ⟨w.heap.size, 3, none⟩ = some (.bool is) from ⟨(D.blk rfl bd).cell (k := 1) rfl, (D.blk rfl bd).cell (k := 2) rfl, (D.blk rfl bd).cell (k := 3) rfl⟩) (And.intro (D.blk rfl bd) (du_cutR D.1 i to_ is E s2 hE.symm hs))
  have x0 := b1.cell (k := 0) rfl
  have C1 : w1.drew.cell? ⟨w.heap.size, 1, none⟩ = some (.int .i64 i) ∧ w1.drew.cell? ⟨w.heap.size, 2, none⟩ = some (.int .i64 to_) ∧ w1.drew.cell? ⟨w.heap.size, 3, none⟩ = some (.bool is) := ⟨(bd).cell (k := 1) rfl, (bd).cell (k := 2) rfl, (bd).cell (k := 3) rfl⟩
  have eE : (E == E) = true := beq_self_eq_true _
  unfold ActPost
  clear h h1 hd bd hE b1 hs
  go_enter Try.func11, Try.ntmps11
  go_wp2
  rw [← hw1]
  clear hw1
  go_region_held3 (fun w' => w'.cell? ⟨w.heap.size, 1, none⟩ = some (.int .i64 i) ∧ w'.cell? ⟨w.heap.size, 2, none⟩ = some (.int .i64 to_) ∧ w'.cell? ⟨w.heap.size, 3, none⟩ = some (.bool is)) (first | assumption) (first
    | (go_at_call 23; refine z1.mono ?_; (rintro e w2 ⟨rfl, D2⟩; obtain ⟨C2, b2, z5⟩ := z2.out w2 D2; have b2 := Lib.hid b2; clear D2))
    | (go_at_call 34; refine z5.mono ?_; (rintro e w3 ⟨rfl, D3⟩; have C3 : w3.cell? ⟨w.heap.size, 1, none⟩ = some (.int .i64 i) ∧ w3.cell? ⟨w.heap.size, 2, none⟩ = some (.int .i64 to_) ∧ w3.cell? ⟨w.heap.size, 3, none⟩ = some (.bool is) := ⟨(D3.blk rfl b2.out).cell (k := 1) rfl, (D3.blk rfl b2.out).cell (k := 2) rfl, (D3.blk rfl b2.out).cell (k := 3) rfl⟩; have H := Lib.hid D3.1; clear D3)))
  go_wp2
  go_ret
  exact ⟨rfl, H.out.less fun _ e => e.elim⟩
set_option maxRecDepth 100000 in
set_option maxHeartbeats 2000000 in
theorem act_clear (h : Du w0 w b c s s noW) (hl : s.lost ≤ 4611686018427387904) (i to_ : Int) (is : Bool) (A : Option Addr) (n cb : Nat) (s2 : N) (hs : s.clear = s2) :
    Calls Try.prog 11 #[.pointer (some ⟨b, 0, none⟩), .pointer (some ⟨c, 0, none⟩), .agg #[.int .i64 6, .int .i64 i, .int .i64 to_, .bool is, .slice A n cb]] w (ActPost w0 b c s2) := by
  have z1 := du_clearR (du_box h (.cells #[.int .i64 6, .int .i64 i, .int .i64 to_, .bool is, .slice A n cb] 34)) hl s2 hs
  have z2 := Lib.hid fun w2 (D : DuTo w0 (w.alloc (.cells #[.int .i64 6, .int .i64 i, .int .i64 to_, .bool is, .slice A n cb] 34)) b c s s2 (fun j => j = w.heap.size) w2) => du_clear D.1 hl s2 hs
  unfold ActPost
  clear h hs hl
  go_enter Try.func11, Try.ntmps11
  go_wp2_with (first
    | (go_at_call 35; (with_reducible refine z1.mono ?_); (rintro e w2 ⟨rfl, D2⟩; have z5 := z2.out w2 D2; clear D2))
    | (go_at_call 24; (with_reducible refine z5.mono ?_); (rintro e w3 ⟨rfl, D3⟩; have H := Lib.hid D3.1; clear D3)))
  go_ret
  exact ⟨rfl, H.out.less fun _ e => e.elim⟩
set_option maxRecDepth 100000 in
set_option maxHeartbeats 2000000 in
theorem act_none (h : Du w0 w b c s s noW) (k : Int) (h0 : (k == 0) = false) (h1 : (k == 1) = false) (h2 : (k == 2) = false) (h3 : (k == 3) = false) (h4 : (k == 4) = false) (h5 : (k == 5) = false) (h6 : (k == 6) = false) (i to_ : Int) (is : Bool) (A : Option Addr) (n cb : Nat) :
    Calls Try.prog 11 #[.pointer (some ⟨b, 0, none⟩), .pointer (some ⟨c, 0, none⟩), .agg #[.int .i64 k, .int .i64 i, .int .i64 to_, .bool is, .slice A n cb]] w (ActPost w0 b c s) := by
  have H := Lib.hid h
  unfold ActPost
  clear h
  go_enter Try.func11, Try.ntmps11
  go_wp2
  go_ret
  exact ⟨rfl, H.out.step (step_alloc (Below.refl _ w) _)⟩
end
end Go.Proofs.Ytplfhlmipdlmnaa
