/-
  The walk of LeaseApart. Conditions: the table of bounds lies as the text lays it.
-/
import Derived.Test.YtljgjehecaiohaaDoorLeKnown
import Derived.Test.YtljgjehecaiohaaDoorLeMem
import Derived.Test.YtljgjehecaiohaaDoorRegTail
namespace Go.Proofs.YtljgjehecaiohaaDoor
open Go.RowKit Le

section
variable {A : Option Addr} {l : List TcM} {c : Nat} {w : World} {a g k v : Int}
set_option maxRecDepth 100000 in
theorem lap_out0 (hb : BndAt w) (h0 : 60 < l.length) : Calls Tryd.prog 7 #[.int .i64 a, .int .i64 g, .slice A l.length c, .int .i64 k, .int .i64 v] w (Tlb true w) := by
  have za := leKnown_any w hb
  obtain ⟨n, hn⟩ : ∃ n, n = l.length := ⟨_, rfl⟩
  rw [← hn] at h0 ⊢
  have l0 : (n : Int) > 60 := by omega
  clear hb hn h0
  go_enter Tryd.func7, Tryd.ntmps7
  go_wp2_with (go_at_call 6; (with_reducible refine za.mono ?_); (rintro e w2 ⟨rfl, B2⟩))
  go_ret
  exact ⟨rfl, B2⟩
set_option maxRecDepth 100000 in
theorem lap_out1 (hb : BndAt w) (h0 : ¬ 60 < l.length) (h1 : a < 0) : Calls Tryd.prog 7 #[.int .i64 a, .int .i64 g, .slice A l.length c, .int .i64 k, .int .i64 v] w (Tlb true w) := by
  have za := leKnown_any w hb
  obtain ⟨n, hn⟩ : ∃ n, n = l.length := ⟨_, rfl⟩
  rw [← hn] at h0 ⊢
  have l0 : ¬ (n : Int) > 60 := by omega
  clear hb hn h0
  go_enter Tryd.func7, Tryd.ntmps7
  go_wp2_with (go_at_call 6; (with_reducible refine za.mono ?_); (rintro e w2 ⟨rfl, B2⟩))
  go_ret
  exact ⟨rfl, B2⟩
set_option maxRecDepth 100000 in
theorem lap_out2 (hb : BndAt w) (h0 : ¬ 60 < l.length) (h1 : ¬ a < 0) (h2 : a > 1073741824) : Calls Tryd.prog 7 #[.int .i64 a, .int .i64 g, .slice A l.length c, .int .i64 k, .int .i64 v] w (Tlb true w) := by
  have za := leKnown_any w hb
  obtain ⟨n, hn⟩ : ∃ n, n = l.length := ⟨_, rfl⟩
  rw [← hn] at h0 ⊢
  have l0 : ¬ (n : Int) > 60 := by omega
  clear hb hn h0
  go_enter Tryd.func7, Tryd.ntmps7
  go_wp2_with (go_at_call 6; (with_reducible refine za.mono ?_); (rintro e w2 ⟨rfl, B2⟩))
  go_ret
  exact ⟨rfl, B2⟩
set_option maxRecDepth 100000 in
theorem lap_out3 (hb : BndAt w) (h0 : ¬ 60 < l.length) (h1 : ¬ a < 0) (h2 : ¬ a > 1073741824) (h3 : g < 0) : Calls Tryd.prog 7 #[.int .i64 a, .int .i64 g, .slice A l.length c, .int .i64 k, .int .i64 v] w (Tlb true w) := by
  have za := leKnown_any w hb
  obtain ⟨n, hn⟩ : ∃ n, n = l.length := ⟨_, rfl⟩
  rw [← hn] at h0 ⊢
  have l0 : ¬ (n : Int) > 60 := by omega
  clear hb hn h0
  go_enter Tryd.func7, Tryd.ntmps7
  go_wp2_with (go_at_call 6; (with_reducible refine za.mono ?_); (rintro e w2 ⟨rfl, B2⟩))
  go_ret
  exact ⟨rfl, B2⟩
set_option maxRecDepth 100000 in
theorem lap_out4 (hb : BndAt w) (h0 : ¬ 60 < l.length) (h1 : ¬ a < 0) (h2 : ¬ a > 1073741824) (h3 : ¬ g < 0) (h4 : g > 1073741824) : Calls Tryd.prog 7 #[.int .i64 a, .int .i64 g, .slice A l.length c, .int .i64 k, .int .i64 v] w (Tlb true w) := by
  have za := leKnown_any w hb
  obtain ⟨n, hn⟩ : ∃ n, n = l.length := ⟨_, rfl⟩
  rw [← hn] at h0 ⊢
  have l0 : ¬ (n : Int) > 60 := by omega
  clear hb hn h0
  go_enter Tryd.func7, Tryd.ntmps7
  go_wp2_with (go_at_call 6; (with_reducible refine za.mono ?_); (rintro e w2 ⟨rfl, B2⟩))
  go_ret
  exact ⟨rfl, B2⟩
set_option maxRecDepth 100000 in
theorem lap_out5 (hb : BndAt w) (h0 : ¬ 60 < l.length) (h1 : ¬ a < 0) (h2 : ¬ a > 1073741824) (h3 : ¬ g < 0) (h4 : ¬ g > 1073741824) (h5 : k < 0) : Calls Tryd.prog 7 #[.int .i64 a, .int .i64 g, .slice A l.length c, .int .i64 k, .int .i64 v] w (Tlb true w) := by
  have za := leKnown_any w hb
  obtain ⟨n, hn⟩ : ∃ n, n = l.length := ⟨_, rfl⟩
  rw [← hn] at h0 ⊢
  have l0 : ¬ (n : Int) > 60 := by omega
  clear hb hn h0
  go_enter Tryd.func7, Tryd.ntmps7
  go_wp2_with (go_at_call 6; (with_reducible refine za.mono ?_); (rintro e w2 ⟨rfl, B2⟩))
  go_ret
  exact ⟨rfl, B2⟩
set_option maxRecDepth 100000 in
theorem lap_out6 (hb : BndAt w) (h0 : ¬ 60 < l.length) (h1 : ¬ a < 0) (h2 : ¬ a > 1073741824) (h3 : ¬ g < 0) (h4 : ¬ g > 1073741824) (h5 : ¬ k < 0) (h6 : v < k) : Calls Tryd.prog 7 #[.int .i64 a, .int .i64 g, .slice A l.length c, .int .i64 k, .int .i64 v] w (Tlb true w) := by
  have za := leKnown_any w hb
  obtain ⟨n, hn⟩ : ∃ n, n = l.length := ⟨_, rfl⟩
  rw [← hn] at h0 ⊢
  have l0 : ¬ (n : Int) > 60 := by omega
  clear hb hn h0
  go_enter Tryd.func7, Tryd.ntmps7
  go_wp2_with (go_at_call 6; (with_reducible refine za.mono ?_); (rintro e w2 ⟨rfl, B2⟩))
  go_ret
  exact ⟨rfl, B2⟩
/-- the cells of the tick at i -/
theorem tc_at {w wr : World} {A0 : Option Addr} {l : List TcM} {m : TcM} {i : Nat} (hA : TcsAt w w.heap.size A0 l) (hb : Below w.heap.size w wr) (hm : l[i]? = some m) : ∃ ad, A0 = some ad ∧
    wr.cell? (ad.add (i * 2)) = some (.int .i64 m.a) ∧ wr.cell? ⟨(ad.add (i * 2)).block, (ad.add (i * 2)).off + 1, none⟩ = some (.int .i64 m.g) := by
  obtain ⟨ad, e, hc⟩ := hA.row hb hm
  exact ⟨ad, e, hc 0 _ rfl, hc 1 _ rfl⟩
def TcP (m : TcM) : Prop := Part m.a ∧ Part m.g
/-- what stands in the second loop -/
structure Ap (w0 : World) (gp K V n : Nat) (a g s t f : Int) (i : Nat) (w : World) : Prop where
  fr : Below w0.heap.size w0 w
  blk : BlkR 49 w gp (pmC t f)
  bnd : BndAt w
  ge : w0.heap.size ≤ gp
  at_ : i ≤ n ∧ Apart K V i a g s t f ∨ i = n + 1
def ApRel (w0 : World) (gp K V n : Nat) (ix sx ax gx : Value) (wr : World) : Prop := ∃ (i : Nat) (s a g t f : Int), ix = .int .i64 (i : Int) ∧ sx = .int .i64 s ∧ ax = .int .i64 a ∧ gx = .int .i64 g ∧ Ap w0 gp K V n a g s t f i wr
/-- behind the deeds of a step -/
structure Ap1 (w0 : World) (gp K V n : Nat) (a g s t f : Int) (i : Nat) (w : World) : Prop where
  fr : Below w0.heap.size w0 w
  blk : BlkR 49 w gp (pmC t f)
  bnd : BndAt w
  ge : w0.heap.size ≤ gp
  at_ : Apart1 K V i a g s t f
theorem Ap1.step {w0 w w' : World} {gp K V n i : Nat} {a g s t f : Int} (h : Ap1 w0 gp K V n a g s t f i w) (B : Below w.heap.size w w') : Ap1 w0 gp K V n a g s t f i w' := ⟨step_trans h.fr B, h.blk.below B h.blk.lt, h.bnd.grown B, h.ge, h.at_⟩
end
end Go.Proofs.YtljgjehecaiohaaDoor
