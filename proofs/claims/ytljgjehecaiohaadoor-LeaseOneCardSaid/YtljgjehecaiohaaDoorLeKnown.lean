/-
  The walk of LeaseKnown. Conditions: the table of bounds lies as the text lays it.
-/
import Derived.Test.YtljgjehecaiohaaDoorLePm
namespace Go.Proofs.YtljgjehecaiohaaDoor
open Go.RowKit Le

/-- since w0: the promises p at g1, any at g2 -/
structure Kw (w0 : World) (g1 g2 : Nat) (w : World) : Prop where
  fr : Below w0.heap.size w0 w
  b1 : BlkR 49 w g1 (pmC 1 100)
  b2 : BlkR 49 w g2 (pmC (-2) 100)
  bnd : BndAt w
theorem Kw.step {w0 : World} {g1 g2 : Nat} {w w' : World} (h : Kw w0 g1 g2 w) (B : Below w.heap.size w w') : Kw w0 g1 g2 w' := ⟨step_trans h.fr B, h.b1.below B h.b1.lt, h.b2.below B h.b2.lt, h.bnd.grown B⟩
theorem Kw.tlb {w0 : World} {g1 g2 : Nat} {w : World} (h : Kw w0 g1 g2 w) {F : FuncId} {args : Array Value} {b : Bool} (z : Calls Tryd.prog F args w (Tlb b w)) : Calls Tryd.prog F args w fun e w' => e = .returned (.bool b) ∧ Kw w0 g1 g2 w' := z.mono fun _ _ ⟨x, y⟩ => ⟨x, h.step y⟩
theorem Kw.c {w0 : World} {g1 g2 : Nat} {w : World} (h : Kw w0 g1 g2 w) : w.cell? ⟨g1, 0, none⟩ = some (.int .i64 1) ∧ w.cell? ⟨g1, 1, none⟩ = some (.int .i64 100) ∧ w.cell? ⟨g2, 0, none⟩ = some (.int .i64 (-2)) ∧ w.cell? ⟨g2, 1, none⟩ = some (.int .i64 100) := ⟨h.b1.cell rfl, h.b1.cell rfl, h.b2.cell rfl, h.b2.cell rfl⟩
theorem row_of_lit (w : World) (l : List Int) : RowAt (w.alloc (.cells (iv l).toArray 3)) (w.alloc (.cells (iv l).toArray 3)).heap.size (some ⟨w.heap.size, 0, none⟩) (iv l) :=
  (BlkR.new w (iv l) 3).row ⟨[], by simp⟩ (by simp)
theorem lit_keeps (w : World) (hb : BndAt w) (l : List Int) (n : Nat) (hn : l.length = n) (hl : n ≤ 1000000) (r : Bool) (hr : decide (Parts l) = r) :
    Calls Tryd.prog 27 #[.slice (some ⟨w.heap.size, 0, none⟩) n n] (w.alloc (.cells (iv l).toArray 3)) (Tlb r w) := by
  have B := step_alloc (Below.refl _ w) (.cells (iv l).toArray 3)
  have := leKeeps_any (some ⟨w.heap.size, 0, none⟩) l n _ _ (hb.grown B) (row_of_lit w l) (by omega)
  rw [hn, hr] at this
  exact this.mono fun e w' ⟨h1, h2⟩ => ⟨h1, h2 ▸ B⟩
set_option maxRecDepth 100000 in
set_option maxHeartbeats 1000000 in
theorem leKnown_any (w : World) (hb : BndAt w) : Calls Tryd.prog 6 #[] w (Tlb true w) := by
  have v1 := fun wy g2 (h : Kw w w.heap.size g2 wy) => show Calls Tryd.prog 18 #[.int .i64 100, .int .i64 99] wy (Tls false wy) from leValid_any 100 99 wy h.bnd
  have v2 := fun wy g2 (h : Kw w w.heap.size g2 wy) => show Calls Tryd.prog 20 #[.int .i64 100, .int .i64 1000] wy fun e w' => e = .returned (.int .i64 0) ∧ wy = w' from leLeft_any 100 1000 wy h.bnd
  have v3 := fun wy g2 (h : Kw w w.heap.size g2 wy) => show Calls Tryd.prog 22 #[.agg #[.int .i64 1, .int .i64 100], .int .i64 1200] wy fun e w' => e = .returned (.bool false) ∧ Kw w w.heap.size g2 w' from h.tlb (leHolds_any 1 100 1200 wy h.bnd)
  have v4 := fun wy g2 (h : Kw w w.heap.size g2 wy) => show Calls Tryd.prog 22 #[.agg #[.int .i64 (-1), .int .i64 0], .int .i64 5] wy fun e w' => e = .returned (.bool false) ∧ Kw w w.heap.size g2 w' from h.tlb (leHolds_any (-1) 0 5 wy h.bnd)
  have v5 := fun wy g2 (h : Kw w w.heap.size g2 wy) => show Calls Tryd.prog 24 #[.agg #[.int .i64 1, .int .i64 100], .int .i64 1, .int .i64 150] wy fun e w' => e = .returned (.bool false) ∧ Kw w w.heap.size g2 w' from h.tlb (leBars_any 1 100 1 150 wy h.bnd)
  have v6 := fun wy g2 (h : Kw w w.heap.size g2 wy) => show Calls Tryd.prog 24 #[.agg #[.int .i64 1, .int .i64 100], .int .i64 0, .int .i64 150] wy fun e w' => e = .returned (.bool true) ∧ Kw w w.heap.size g2 w' from h.tlb (leBars_any 1 100 0 150 wy h.bnd)
  have v7 := fun wy g2 (h : Kw w w.heap.size g2 wy) => show Calls Tryd.prog 24 #[.agg #[.int .i64 (-2), .int .i64 100], .int .i64 0, .int .i64 150] wy fun e w' => e = .returned (.bool true) ∧ Kw w w.heap.size g2 w' from h.tlb (leBars_any (-2) 100 0 150 wy h.bnd)
  have v8 := fun wy g2 (h : Kw w w.heap.size g2 wy) => show Calls Tryd.prog 26 #[] wy fun e w' => e = .returned (.bool true) ∧ Kw w w.heap.size g2 w' from h.tlb (leAwake_any wy h.bnd)
  have k1 := fun wy g2 (h : Kw w w.heap.size g2 wy) => show Calls Tryd.prog 27 #[.slice (some ⟨wy.heap.size, 0, none⟩) 3 3] (wy.alloc (.cells #[.int .i64 90, .int .i64 110, .int .i64 100] 3)) fun e w' => e = .returned (.bool true) ∧ Kw w w.heap.size g2 w' from (lit_keeps wy h.bnd [90, 110, 100] 3 rfl (by decide) true (by decide)).mono fun e w' ⟨x, y⟩ => ⟨x, h.step y⟩
  have k2 := fun wy g2 (h : Kw w w.heap.size g2 wy) => show Calls Tryd.prog 27 #[.slice (some ⟨wy.heap.size, 0, none⟩) 1 1] (wy.alloc (.cells #[.int .i64 89] 3)) fun e w' => e = .returned (.bool false) ∧ Kw w w.heap.size g2 w' from (lit_keeps wy h.bnd [89] 1 rfl (by decide) false (by decide)).mono fun e w' ⟨x, y⟩ => ⟨x, h.step y⟩
  have k3 := fun wy g2 (h : Kw w w.heap.size g2 wy) => show Calls Tryd.prog 27 #[.slice none 0 0] wy (Tls true wy) from leKeeps_any none [] 0 wy.heap.size wy h.bnd RowAt.none_ (by decide)
  have HB := Lib.hid hb
  clear hb
  go_enter Tryd.func6, Tryd.ntmps6
  go_wp2_with (first
    | ((with_reducible refine atWorld w ?_); refine wpList_allocRow (w := w) info_prom rfl rfl ?_; (intro w1 b1 B1 s1; have b1 := Lib.hid b1; have C1 := Lib.hid B1; replace s1 := Lib.hid s1; clear B1))
    | ((with_reducible refine atWorld w1 ?_); refine wpList_allocRow (w := w1) info_prom rfl rfl ?_; (intro w2 b2 B2 s2; have b2 := Lib.hid b2; have c1 := Lib.hid (b1.out.below B2 b1.out.lt); have C2 := Lib.hid (step_trans C1.out B2); replace s2 := Lib.hid s2; clear B2))
    | ((with_reducible refine atWorld w2 ?_); refine wpList_storeRow (w := w2) info_prom rfl (.tmp 1) (.tmp 5) rfl w.heap.size (pmC 1 100) _ rfl rfl rfl rfl (by simp [pmC, Value.oneCell']) c1.out ?_; (intro w3 b3 B3 s3 x3; have b3 := Lib.hid b3; have c2 := Lib.hid ((x3 w1.heap.size (by have := s1.out; omega)).trans b2.out); have C3 := Lib.hid (C2.out.trans B3); replace s3 := Lib.hid s3; clear B3 x3))
    | ((with_reducible refine atWorld w3 ?_); refine wpList_storeRow (w := w3) info_prom rfl (.tmp 2) (.tmp 6) rfl w1.heap.size (pmC (-2) 100) _ rfl rfl rfl rfl (by simp [pmC, Value.oneCell']) c2.out ?_; (intro w4 b4 B4 s4 x4; have K4 : Kw w w.heap.size w1.heap.size w4 := ⟨C3.out.trans (B4.mono (by have := s1.out; omega)), (x4 w.heap.size (by have := s1.out; omega)).trans b3.out, b4, HB.out.grown (C3.out.trans (B4.mono (by have := s1.out; omega)))⟩; obtain ⟨y0, y1, y2, y3⟩ := K4.c; have p1 := v1 _ _ K4; have p2 := v2 _ _ K4; have p3 := v3 _ _ K4; clear b4 B4 s4 x4 K4))
    | (go_at_call 18; (with_reducible refine p1.mono ?_); (rintro e w5 ⟨rfl, rfl⟩))
    | (go_at_call 20; (with_reducible refine p2.mono ?_); (rintro e w5 ⟨rfl, rfl⟩))
    | (go_at_call 22; first
      | ((with_reducible refine p3.mono ?_); (rintro e w5 ⟨rfl, K5⟩; have p4 := v4 _ _ K5; clear K5))
      | ((with_reducible refine p4.mono ?_); (rintro e w6 ⟨rfl, K6⟩; obtain ⟨y0, y1, y2, y3⟩ := K6.c; have p5 := v5 _ _ K6; clear K6)))
    | (go_at_call 24; first
      | ((with_reducible refine p5.mono ?_); (rintro e w7 ⟨rfl, K7⟩; obtain ⟨y0, y1, y2, y3⟩ := K7.c; have p6 := v6 _ _ K7; clear K7))
      | ((with_reducible refine p6.mono ?_); (rintro e w8 ⟨rfl, K8⟩; obtain ⟨y0, y1, y2, y3⟩ := K8.c; have p7 := v7 _ _ K8; clear K8))
      | ((with_reducible refine p7.mono ?_); (rintro e w9 ⟨rfl, K9⟩; have p8 := v8 _ _ K9; clear K9)))
    | (go_at_call 26; (with_reducible refine p8.mono ?_); (rintro e w10 ⟨rfl, K10⟩; have q1 := k1 _ _ K10; clear K10))
    | (go_at_call 27; first
      | ((with_reducible refine q1.mono ?_); (rintro e w11 ⟨rfl, K11⟩; have q2 := k2 _ _ K11; clear K11))
      | ((with_reducible refine q2.mono ?_); (rintro e w12 ⟨rfl, K12⟩; have q3 := k3 _ _ K12; have H12 := Lib.hid K12.fr; clear K12))
      | ((with_reducible refine q3.mono ?_); (rintro e w13 ⟨rfl, rfl⟩))))
  go_ret
  exact ⟨rfl, H12.out⟩
end Go.Proofs.YtljgjehecaiohaaDoor
