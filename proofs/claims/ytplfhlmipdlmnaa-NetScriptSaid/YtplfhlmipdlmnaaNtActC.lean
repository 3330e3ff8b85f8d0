/-
  A call of both nets (tandemlaw14.act): Send. Conditions: how many were lost is a number far from the greatest.
-/
import Derived.Test.YtplfhlmipdlmnaaNtAct
namespace Go.Proofs.Ytplfhlmipdlmnaa
open Go.RowKit Nt

section
variable {w0 w w' : World} {b c : Nat} {s t s2 t2 : N} {Ws Wz : Nat → Prop}
set_option maxRecDepth 100000 in
set_option maxHeartbeats 4000000 in
theorem act_send (h : Du w0 w b c s s noW) (hl : s.lost ≤ 4611686018427387904) (i to_ : Int) (is : Bool) (A : Option Addr) (l : List UInt8) (n cb : Nat) (hn : l.length = n) (h600 : n ≤ 600) (hr : BytesAt w0 w0.heap.size A l) (s2 : N) (hs : s.send i to_ l = s2) :
    Calls Try.prog 11 #[.pointer (some ⟨b, 0, none⟩), .pointer (some ⟨c, 0, none⟩), .agg #[.int .i64 0, .int .i64 i, .int .i64 to_, .bool is, .slice A n cb]] w (ActPost w0 b c s2) := by
  have zl := lentBytes_any A l cb (w.alloc (.cells #[.int .i64 0, .int .i64 i, .int .i64 to_, .bool is, .slice A n cb] 34)) (by omega) (hr.step (h.step (step_alloc (Below.refl _ w) (.cells #[.int .i64 0, .int .i64 i, .int .i64 to_, .bool is, .slice A n cb] 34))).fr)
  unfold LentPost at zl
  rw [hn] at zl
  have HH := Lib.hid (And.intro h (And.intro hl (And.intro hn (And.intro h600 (And.intro hr hs)))))
  unfold ActPost
  clear h hl hn h600 hr hs
  go_enter Try.func11, Try.ntmps11
  go_wp2_with (go_at_call 26; (with_reducible refine zl.mono ?_); (rintro e w2 ⟨g, rfl, hg, hb2, B2⟩))
  obtain ⟨h, hl, hn, h600, hr, hs⟩ := HH.out
  have bx : BlkR 34 w2 w.heap.size [.int .i64 0, .int .i64 i, .int .i64 to_, .bool is, .slice A n cb] := (BlkR.new w [.int .i64 0, .int .i64 i, .int .i64 to_, .bool is, .slice A n cb] 34).below B2 (BlkR.new w [.int .i64 0, .int .i64 i, .int .i64 to_, .bool is, .slice A n cb] 34).lt
  have h2 : Du w0 w2 b c s s (fun j => j = w.heap.size ∨ j = g) := (du_box h _).add B2 fun j hj => hj.imp id fun e => by rw [e]; exact ⟨hg, hb2.lt⟩
  have hd := h2.step (Below.refl _ w2).drew
  have bd : BlkR 34 w2.drew w.heap.size [.int .i64 0, .int .i64 i, .int .i64 to_, .bool is, .slice A n cb] := bx
  have gd : BlkB w2.drew g (lent l) := hb2
  obtain ⟨E, hE⟩ : ∃ E, E = N.sendE i to_ n := ⟨_, rfl⟩
  have z1 := du_send hd i to_ (some ⟨g, 0, none⟩) l n (n + 3) hn (gd.bytes l ⟨_, rfl⟩ gd.lt) hl E s2 hE.symm hs
  have C1 : w2.drew.cell? ⟨w.heap.size, 1, none⟩ = some (.int .i64 i) ∧ w2.drew.cell? ⟨w.heap.size, 2, none⟩ = some (.int .i64 to_) ∧ w2.drew.cell? ⟨w.heap.size, 4, none⟩ = some (.slice A n cb) := ⟨bd.cell (k := 1) rfl, bd.cell (k := 2) rfl, bd.cell (k := 4) rfl⟩
  have z2 := Lib.hid fun w3 (D : DuTo w0 w2.drew b c s2 s (fun j => j = w.heap.size ∨ j = g) w3) => And.intro (show w3.cell? ⟨w.heap.size, 1, none⟩ = some (.int .i64 i) ∧ w3.cell? ⟨w.heap.size, 2, none⟩ = some (.int .i64 to_) ∧ w3.cell? ⟨w.heap.size, 4, none⟩ = some (.slice A n cb) from ⟨(D.blk (.inl rfl) bd).cell (k := 1) rfl, (D.blk (.inl rfl) bd).cell (k := 2) rfl, (D.blk (.inl rfl) bd).cell (k := 4) rfl⟩) (And.intro (And.intro (D.blk (.inl rfl) bd) (D.blkB (.inr rfl) gd)) (du_sendR D.1 i to_ A l n cb hn (hr.step D.1.fr) hl E s2 hE.symm hs))
  have z3 := Lib.hid fun w4 (D : Du w0 w4 b c s2 s2 (fun j => j = w.heap.size ∨ j = g)) (hb : BlkB w4 g (lent l)) => keptBytes_yes g l A cb w4 (by omega) hb (hr.step D.fr)
  have z6 := Lib.hid fun w5 (hb : BlkB w5 g (lent l)) => over_genN 5 g (lent l) n (n + 3) (by simp [lent, marks]; omega) (by omega) w5 hb
  rw [hn] at z3
  unfold OverPostN at z6
  have eE : (E == E) = true := beq_self_eq_true _
  clear h hl hn h600 hr hs HH bx h2 hd bd gd hE hb2 B2 hg
  go_region_held3 (fun w' => w'.cell? ⟨w.heap.size, 1, none⟩ = some (.int .i64 i) ∧ w'.cell? ⟨w.heap.size, 2, none⟩ = some (.int .i64 to_) ∧ w'.cell? ⟨w.heap.size, 4, none⟩ = some (.slice A n cb)) (first | assumption) (first
    | (go_at_call 17; refine z1.mono ?_; (rintro e w3 ⟨rfl, D3⟩; obtain ⟨C3, b3, z5⟩ := z2.out w3 D3; have b3 := Lib.hid b3; clear D3))
    | (go_at_call 27; refine z5.mono ?_; (rintro e w4 ⟨rfl, D4⟩; have bx4 := D4.blk (.inl rfl) b3.out.1; have C4 : w4.cell? ⟨w.heap.size, 1, none⟩ = some (.int .i64 i) ∧ w4.cell? ⟨w.heap.size, 2, none⟩ = some (.int .i64 to_) ∧ w4.cell? ⟨w.heap.size, 4, none⟩ = some (.slice A n cb) := ⟨bx4.cell (k := 1) rfl, bx4.cell (k := 2) rfl, bx4.cell (k := 4) rfl⟩; have g4 := D4.blkB (.inr rfl) b3.out.2; have zk := z3.out w4 D4.1 g4; have H4 := Lib.hid (And.intro D4.1 (And.intro bx4 g4)); clear D4 bx4 g4))
    | (go_at_call 28; refine zk.mono ?_; (rintro e w5 ⟨rfl, B5⟩; have bx5 := H4.out.2.1.below B5 H4.out.2.1.lt; have C5 : w5.cell? ⟨w.heap.size, 1, none⟩ = some (.int .i64 i) ∧ w5.cell? ⟨w.heap.size, 2, none⟩ = some (.int .i64 to_) ∧ w5.cell? ⟨w.heap.size, 4, none⟩ = some (.slice A n cb) := ⟨bx5.cell (k := 1) rfl, bx5.cell (k := 2) rfl, bx5.cell (k := 4) rfl⟩; have zo := z6.out w5 (H4.out.2.2.step B5); have H5 := Lib.hid (H4.out.1.step B5); clear B5 bx5)))
  go_wp2_with (go_at_call 29; (with_reducible refine zo.mono ?_); (rintro e w6 ⟨rfl, F6⟩; have H6 := Lib.hid (H5.out.wrote (F6.mono fun j e => .inr e))))
  go_ret
  exact ⟨rfl, H6.out.less fun _ e => e.elim⟩
end
end Go.Proofs.Ytplfhlmipdlmnaa
