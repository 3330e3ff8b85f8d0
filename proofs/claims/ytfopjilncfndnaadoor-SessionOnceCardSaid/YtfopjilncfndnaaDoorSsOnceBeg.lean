/-
  SessionOnce: any move; begun. Conditions: the table of crc lies as the program's text lays it.
-/
import Derived.Test.YtfopjilncfndnaaDoorSsOnceDoesC
import Derived.Test.YtfopjilncfndnaaDoorSsAwake
import Derived.Test.YtfopjilncfndnaaDoorSsBoots
namespace Go.Proofs.YtfopjilncfndnaaDoor
open Go.RowKit Fix

section
variable {w0 w w' : World} {q a b mT mL : Nat}
theorem pr_len {V V' : Nat → Value} {T T' : Nat → List (List UInt8)} {D D' : Nat → Nat → Bool} {X X' : Nat → List Tx} {L L' : List Lt} (h : Pr w0 w q a b V T D X L) (h' : Pr w0 w q a b V' T' D' X' L') : L'.length = L.length := by
  have e1 := h.pm.row (k := 2) (by decide) (by decide)
  have e2 := h'.pm.row (k := 2) (by decide) (by decide)
  rw [e1] at e2
  injection e2 with e2
  obtain ⟨A, c, hA, _⟩ := h.way.form
  obtain ⟨A', c', hA', _⟩ := h'.way.form
  rw [hA, hA'] at e2
  injection e2 with _ e2 _
  exact e2.symm
/-- any move -/
theorem pr_does (H : PrX w0 w q a b mT mL) (m : MvM) (hw : -9223372036854775808 ≤ m.who ∧ m.who ≤ 9223372036854775807) (hn : -9223372036854775808 ≤ m.n ∧ m.n ≤ 9223372036854775807) (hB : BytesAt w0 w0.heap.size m.A m.b) (h150 : m.b.length ≤ 150) (hmT : mT < 100) (hmL : mL ≤ 3900) :
    Calls Tryd.prog 14 #[.pointer (some ⟨q, 0, none⟩), .agg #[.int .i64 m.who, .int .i64 m.kind, .int .i64 m.n, .slice m.A m.b.length m.cb]] w (DoTo w0 q a b (mT + 1) (mL + 17)) := by
  by_cases k0 : m.kind = 0
  · exact does_0 H m hw hmL hB h150 hmT k0
  by_cases k1 : m.kind = 1
  · exact does_1 H m hw hmL k1
  by_cases k2 : m.kind = 2
  · exact does_2 H m hw hmL k2
  obtain ⟨V, T, D, X, L, h, hT, hL⟩ := H
  have H : PrX w0 w q a b mT mL := ⟨V, T, D, X, L, h, hT, hL⟩
  by_cases hl : L.length = 0
  · exact does_none H m hw ⟨k0, k1, k2⟩ fun _ _ _ _ _ h' => (pr_len h h').trans hl
  have hN : ∀ V T D X L, Pr w0 w q a b V T D X L → 0 < L.length := fun _ _ _ _ _ h' => by rw [pr_len h h']; omega
  by_cases k3 : m.kind = 3
  · exact does_3 H m hw hn hmL ⟨k0, k1, k2⟩ hN hmT k3
  by_cases k4 : m.kind = 4
  · exact does_4 H m hw hn hmL ⟨k0, k1, k2⟩ hN k4
  · exact does_other H m hw hn hmL ⟨k0, k1, k2⟩ hN ⟨k3, k4⟩
def nilV (_ : Nat) : Value := .slice none 0 0
theorem beg_end {w2 w3 : World} (ht : TabAt w) (S2 : SesAt w2 w.heap.size (fun _ => False) (Ss.new 1)) (B2 : Below w.heap.size w w2) (S3 : SesAt w3 w2.heap.size (fun _ => False) (Ss.new 5)) (B3 : Below w2.heap.size w2 w3) :
    PrX w (w3.alloc (.cells #[.pointer (some ⟨w.heap.size, 0, none⟩), .pointer (some ⟨w2.heap.size, 0, none⟩), .slice none 0 0, .slice none 0 0, .slice none 0 0, .slice none 0 0, .slice none 0 0] 83)) w3.heap.size w.heap.size w2.heap.size 0 0 := by
  have l2 := S2.blt
  have l3 := S3.blt
  have B := (Below.refl _ w3).alloc (Nat.le_refl _) (.cells #[.pointer (some ⟨w.heap.size, 0, none⟩), .pointer (some ⟨w2.heap.size, 0, none⟩), .slice none 0 0, .slice none 0 0, .slice none 0 0, .slice none 0 0, .slice none 0 0] 83)
  have nb : ∀ k g, (nilV k).ownBlock ≠ some g := fun k g e => by cases e
  refine ⟨nilV, fun _ => [], fun _ _ => false, fun _ => [], [], ⟨⟨?_, BlkR.new w3 (prC w.heap.size w2.heap.size nilV) _, fun j k _ _ _ _ _ g e => absurd e (nb j g), fun k _ _ => nb k _, fun k k2 k6 => ?_⟩, (fun m hm => by cases hm), (fun i _ => ⟨rfl, fun t ht => by cases ht⟩), fun i _ n t e => by simp at e⟩, (fun i _ => Nat.le_refl _), Nat.le_refl _⟩
  · refine ((bt_new ht B2 _ S2 (Nat.le_refl _) S3 B3).weak (fun s e => by subst e; exact On.new_side 0 1) (fun s e => by subst e; exact On.new_side 1 0)).wrote (Frame.of_below B) fun j hj => .inr ?_
    rcases hj with hj | ⟨k, _, _, hj⟩
    · subst hj; exact ⟨Nat.le_refl _, by simp⟩
    · exact absurd hj (nb k j)
  · have e1 : prN (fun _ => []) (fun _ => []) [] k = 0 := by unfold prN; split <;> first | rfl | (split <;> rfl)
    have e2 : prX (fun _ => []) (fun _ _ => false) (fun _ => []) [] k = [] := by unfold prX; split <;> first | rfl | (split <;> rfl)
    rw [e1, e2]
    exact OwnK.nil_
set_option maxRecDepth 100000 in
set_option maxHeartbeats 4000000 in
theorem begun_any (w : World) (ht : TabAt w) : Calls Tryd.prog 13 #[] w fun e w' => ∃ q a b, e = .returned (.pointer (some ⟨q, 0, none⟩)) ∧ PrX w w' q a b 0 0 := by
  have z1 := fun w1 => new_at 1 1 rfl w1 (by decide) (by decide)
  have z2 := fun w1 => new_at 5 5 rfl w1 (by decide) (by decide)
  have HT := Lib.hid ht
  clear ht
  go_enter Tryd.func13, Tryd.ntmps13
  go_wp2_with (go_at_call 6; first
    | ((with_reducible refine (z1 w).mono ?_); (rintro e w2 ⟨rfl, S2, B2⟩; have H2 := Lib.hid (And.intro S2 B2); clear S2 B2))
    | ((with_reducible refine (z2 w2).mono ?_); (rintro e w3 ⟨rfl, S3, B3⟩; have H3 := Lib.hid (And.intro S3 B3); clear S3 B3)))
  go_ret
  exact ⟨_, _, _, rfl, beg_end HT.out H2.out.1 H2.out.2 H3.out.1 H3.out.2⟩
end
end Go.Proofs.YtfopjilncfndnaaDoor
