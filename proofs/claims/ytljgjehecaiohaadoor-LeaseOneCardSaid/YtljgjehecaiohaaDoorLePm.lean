/-
  A promise in a block of its own, and calls beside it; LeaseTells. Conditions: the table of bounds lies as the text lays it.
-/
import Derived.Test.YtljgjehecaiohaaDoorLeKeeps
import Derived.Deep.RegionHeld3
namespace Go.Proofs.YtljgjehecaiohaaDoor
open Go.RowKit Le

/-- since w0: a promise at g, the table of bounds -/
structure PmAt (w0 : World) (g : Nat) (t f : Int) (w : World) : Prop where
  fr : Below w0.heap.size w0 w
  blk : BlkR 49 w g (pmC t f)
  bnd : BndAt w
theorem PmAt.step {w0 : World} {g : Nat} {t f : Int} {w w' : World} (h : PmAt w0 g t f w) (B : Below w.heap.size w w') : PmAt w0 g t f w' := ⟨step_trans h.fr B, h.blk.below B h.blk.lt, h.bnd.grown B⟩
theorem PmAt.c {w0 : World} {g : Nat} {t f : Int} {w : World} (h : PmAt w0 g t f w) : w.cell? ⟨g, 0, none⟩ = some (.int .i64 t) ∧ w.cell? ⟨g, 1, none⟩ = some (.int .i64 f) := ⟨h.blk.cell rfl, h.blk.cell rfl⟩
theorem PmAt.new {w : World} (h : BndAt w) (t f : Int) : PmAt w w.heap.size t f (w.alloc (.cells #[.int .i64 t, .int .i64 f] 49)) := ⟨step_alloc (Below.refl _ w) _, BlkR.new w (pmC t f) _, h.grown (step_alloc (Below.refl _ w) _)⟩
/-- told, and the promise is as it was -/
def Tlp (w0 : World) (g : Nat) (t f : Int) (b : Bool) (e : Ending) (w' : World) : Prop := e = .returned (.bool b) ∧ PmAt w0 g t f w'
theorem PmAt.tlb {w0 : World} {g : Nat} {t f : Int} {w : World} (h : PmAt w0 g t f w) {F : FuncId} {args : Array Value} {b : Bool} (z : Calls Tryd.prog F args w (Tlb b w)) : Calls Tryd.prog F args w (Tlp w0 g t f b) := z.mono fun _ _ ⟨x, y⟩ => ⟨x, h.step y⟩
set_option maxRecDepth 100000 in
set_option maxHeartbeats 1000000 in
theorem leTells_any (s n t f d : Int) (w : World) (hb : BndAt w) : Calls Tryd.prog 4 #[.int .i64 s, .int .i64 n, .agg #[.int .i64 t, .int .i64 f], .int .i64 d] w (Tlb true w) := by
  obtain ⟨w1, hw1⟩ : ∃ w1, w1 = w.alloc (.cells #[.int .i64 t, .int .i64 f] 49) := ⟨_, rfl⟩
  have P1 : PmAt w w.heap.size t f w1 := hw1 ▸ PmAt.new hb t f
  have z1 := leValid_any s n w1 P1.bnd
  have z2 := rfValid_any s n w1
  have z3 := leLeft_any s n w1 P1.bnd
  have z4 := rfLeft_any s n w1
  have z5 := fun wy (P : PmAt w w.heap.size t f wy) => P.tlb (leHolds_any t f n wy P.bnd)
  have z6 := fun wy (P : PmAt w w.heap.size t f wy) => P.tlb (rfHolds_any t f n wy)
  have z7 := fun wy (P : PmAt w w.heap.size t f wy) => P.tlb (leBars_any t f d n wy P.bnd)
  have z8 := fun wy (P : PmAt w w.heap.size t f wy) => P.tlb (rfBars_any t f d n wy)
  have z9 := fun wy (P : PmAt w w.heap.size t f wy) => P.tlb (leAwake_any wy P.bnd)
  obtain ⟨r1, h1⟩ : ∃ r, r = decide (Valid s n) := ⟨_, rfl⟩
  obtain ⟨x1, h2⟩ : ∃ x, x = left s n := ⟨_, rfl⟩
  obtain ⟨r2, h3⟩ : ∃ r, r = decide (Holds t f n) := ⟨_, rfl⟩
  obtain ⟨r3, h4⟩ : ∃ r, r = decide (Bars t f d n) := ⟨_, rfl⟩
  rw [← h1] at z1 z2
  rw [← h2] at z3 z4
  simp only [← h3] at z5 z6
  simp only [← h4] at z7 z8
  have Pd := Lib.hid (P1.step (Below.refl _ w1).drew)
  have cd := P1.c
  have cdd := Pd.out.c
  clear h1 h2 h3 h4 P1 hb
  go_enter Tryd.func4, Tryd.ntmps4
  go_wp2_with (first
    | (go_at_call 18; rw [← hw1]; clear hw1; (with_reducible refine z1.mono ?_); (rintro e w2 ⟨rfl, rfl⟩))
    | (go_at_call 19; (with_reducible refine z2.mono ?_); (rintro e w2 ⟨rfl, rfl⟩))
    | (go_at_call 20; (with_reducible refine z3.mono ?_); (rintro e w2 ⟨rfl, rfl⟩))
    | (go_at_call 21; (with_reducible refine z4.mono ?_); (rintro e w2 ⟨rfl, rfl⟩)))
  clear z1 z2 z3 z4
  have q1 := z5 _ Pd.out
  go_region_held3 (fun w' => w'.cell? ⟨w.heap.size, 0, none⟩ = some (.int .i64 t) ∧ w'.cell? ⟨w.heap.size, 1, none⟩ = some (.int .i64 f)) (first | assumption) (first
    | (go_at_call 22; (with_reducible refine q1.mono ?_); (rintro e w2 ⟨rfl, P2⟩; have c2 := P2.c; have q2 := z6 _ P2; clear P2))
    | (go_at_call 23; (with_reducible refine q2.mono ?_); (rintro e w3 ⟨rfl, P3⟩; have c3 := P3.c; have q3 := z7 _ P3; clear P3))
    | (go_at_call 24; (with_reducible refine q3.mono ?_); (rintro e w4 ⟨rfl, P4⟩; have c4 := P4.c; have q4 := z8 _ P4; clear P4))
    | (go_at_call 25; (with_reducible refine q4.mono ?_); (rintro e w5 ⟨rfl, P5⟩; have c5 := P5.c; have q5 := z9 _ P5; clear P5))
    | (go_at_call 26; (with_reducible refine q5.mono ?_); (rintro e w6 ⟨rfl, P6⟩; have c6 := P6.c; have B6 := Lib.hid P6.fr; clear P6)))
  go_wp2
  go_ret
  exact ⟨rfl, B6.out⟩
end Go.Proofs.YtljgjehecaiohaaDoor
