/-
  A call of both nets, whichever; what stands in NetScript's loop. Conditions: how many were lost is a number far from the greatest.
-/
import Derived.Test.YtplfhlmipdlmnaaNtActB
import Derived.Test.YtplfhlmipdlmnaaNtActC
import Derived.Test.YtplfhlmipdlmnaaNtActD
import Derived.Test.YtplfhlmipdlmnaaNtActE
import Derived.Test.YtplfhlmipdlmnaaNtAwake
namespace Go.Proofs.Ytplfhlmipdlmnaa
open Go.RowKit Nt

/-- what a call makes of a net -/
def stp (s : N) (x : NaM) : N :=
  if x.kind = 0 then s.send x.i x.to x.b else if x.kind = 2 then s.del x.i else if x.kind = 3 then s.dropI x.i else if x.kind = 4 then s.double x.i else if x.kind = 5 then s.cut x.i x.to x.is else if x.kind = 6 then s.clear else s
theorem stp_tot (s : N) (x : NaM) : (stp s x).lost + (stp s x).way.length ≤ s.lost + s.way.length + 1 := by
  unfold stp
  split
  · unfold N.send
    split
    · omega
    · split
      · show s.lost + 1 + s.way.length ≤ _; omega
      · show s.lost + (s.way ++ [_]).length ≤ _; rw [List.length_append, List.length_singleton]; omega
  split
  · unfold N.del
    split
    · have := List.length_eraseIdx_le s.way x.i.toNat
      show s.lost + (s.way.eraseIdx x.i.toNat).length ≤ _; omega
    · omega
  split
  · unfold N.dropI
    split
    · have := List.length_eraseIdx_le s.way x.i.toNat
      show s.lost + 1 + (s.way.eraseIdx x.i.toNat).length ≤ _; omega
    · omega
  split
  · unfold N.double
    split
    · show s.lost + (s.way ++ [_]).length ≤ _; rw [List.length_append, List.length_singleton]; omega
    · omega
  split
  · unfold N.cut
    split
    · show s.lost + s.way.length ≤ _; omega
    · omega
  split
  · show s.lost + s.way.length + ([] : List Pk).length ≤ _; simp
  · omega
section
variable {w0 w w' : World} {b c : Nat} {s t s2 t2 : N} {Ws Wz : Nat → Prop}
theorem act_any (h : Du w0 w b c s s noW) (hl : s.lost ≤ 4611686018427387904) (x : NaM) (h600 : x.b.length ≤ 600) (hr : BytesAt w0 w0.heap.size x.A x.b) :
    Calls Try.prog 11 #[.pointer (some ⟨b, 0, none⟩), .pointer (some ⟨c, 0, none⟩), .agg (naCells x).toArray] w (ActPost w0 b c (stp s x)) := by
  obtain ⟨k, i, to_, is, l, A, cb⟩ := x
  unfold stp naCells
  dsimp only at h600 hr ⊢
  by_cases h0 : k = 0
  · subst h0
    rw [if_pos rfl]
    exact act_send h hl i to_ is A l l.length cb rfl h600 hr _ rfl
  rw [if_neg h0]
  by_cases h2 : k = 2
  · subst h2
    rw [if_pos rfl]
    exact act_deliver h i to_ is A l.length cb _ rfl
  rw [if_neg h2]
  by_cases h3 : k = 3
  · subst h3
    rw [if_pos rfl]
    exact act_drop h hl i to_ is A l.length cb _ rfl
  rw [if_neg h3]
  by_cases h4 : k = 4
  · subst h4
    rw [if_pos rfl]
    exact act_double h i to_ is A l.length cb _ rfl
  rw [if_neg h4]
  by_cases h5 : k = 5
  · subst h5
    rw [if_pos rfl]
    exact act_cut h i to_ is A l.length cb _ rfl
  rw [if_neg h5]
  by_cases h6 : k = 6
  · subst h6
    rw [if_pos rfl]
    exact act_clear h hl i to_ is A l.length cb _ rfl
  rw [if_neg h6]
  by_cases h1 : k = 1
  · subst h1
    exact act_look h i to_ is A l.length cb
  · exact act_none h k (beq_eq_false_iff_ne.2 h0) (beq_eq_false_iff_ne.2 h1) (beq_eq_false_iff_ne.2 h2) (beq_eq_false_iff_ne.2 h3) (beq_eq_false_iff_ne.2 h4) (beq_eq_false_iff_ne.2 h5) (beq_eq_false_iff_ne.2 h6) i to_ is A l.length cb
/-- both are new -/
theorem du_new (h : Nz w0 w b Nt.new noW) : Du w0 (w.alloc (.cells (rfCells (fun _ => false) (.slice none 0 0) 0).toArray 30)) b w.heap.size Nt.new Nt.new noW := by
  have B := step_alloc (Below.refl _ w) (.cells (rfCells (fun _ => false) (.slice none 0 0) 0).toArray 30)
  have hs := h.fr.size
  refine ⟨noW, ⟨⟨.slice none 0 0, [], BlkR.new w _ _, ⟨OwnK.nil_, (fun j e => by cases e), (fun m h => by cases h)⟩, rfl⟩, fun e => e, fun j e => e.elim, new_ok⟩, hs, fun j e => e.elim, h.wrote (Frame.of_below B) (fun j e => e.elim) (fun j hj => ?_), fun j e => e.elim⟩
  rcases hj with e | e | e
  · exact .inr ⟨by omega, by simp; omega⟩
  · exact e.elim
  · exact e.elim
theorem du_count (h : Du w0 w b c s t Ws) : Calls Try.prog 12 #[.pointer (some ⟨b, 0, none⟩)] w fun e w' => e = .returned (.int .i64 (s.way.length : Int)) ∧ w = w' := by
  obtain ⟨Wy, h1, _⟩ := h.net
  exact nz_count h1 _ rfl
theorem du_lost (h : Du w0 w b c s t Ws) : Calls Try.prog 13 #[.pointer (some ⟨b, 0, none⟩)] w fun e w' => e = .returned (.int .i64 (s.lost : Int)) ∧ w = w' := by
  obtain ⟨Wy, h1, _⟩ := h.net
  exact nz_lost h1 _ rfl
theorem du_isCut (h : Du w0 w b c s t Ws) (i j : Int) (x : Bool) (hx : N.isCut s i j = x) : Calls Try.prog 14 #[.pointer (some ⟨b, 0, none⟩), .int .i64 i, .int .i64 j] w fun e w' => e = .returned (.bool x) ∧ w = w' := by
  obtain ⟨Wy, h1, _⟩ := h.net
  exact nz_isCut h1 i j x hx
theorem du_isCutR (h : Du w0 w b c s t Ws) (i j : Int) (x : Bool) (hx : N.isCut t i j = x) : Calls Try.prog 15 #[.pointer (some ⟨c, 0, none⟩), .int .i64 i, .int .i64 j] w fun e w' => e = .returned (.bool x) ∧ w = w' := by
  obtain ⟨G, h1, _⟩ := h.ref
  rw [← hx]
  exact rfIsCut_any h1 i j
/-- what the law reads of the document's net -/
theorem Du.cells (h : Du w0 w b c s t Ws) : (∃ A k, w.cell? ⟨c, 0, none⟩ = some (.slice A t.way.length k) ∧ t.way.length ≤ k) ∧ w.cell? ⟨c, 10, none⟩ = some (.int .i64 (t.lost : Int)) := by
  obtain ⟨G, h1, _⟩ := h.ref
  exact ⟨h1.cells.1, h1.cells.2.1⟩
end
end Go.Proofs.Ytplfhlmipdlmnaa
