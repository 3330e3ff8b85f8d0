/-
  The table of lease, as the rows list it: what the condition gives the walks, and a world that meets it. Conditions: none.
-/
import Derived.Test.YtljgjehecaiohaaDoorShell
import Derived.Test.YtljgjehecaiohaaDoorBa
import Derived.Deep.DeepHandedRow
import Derived.Lib.LaidTab
import Derived.OpenShut
namespace Go.Proofs.YtljgjehecaiohaaDoor
open Go.ChangeShapes Go.WideShapes Go.ChangeAt Go.RowKit

theorem gBnd : Tryd.prog.globalNamed "tandem/lease.bounds" = some 0 := by kernel_rfl
theorem gBndType : (Tryd.prog.globals[0]?).map (·.type) = some 108 := by kernel_rfl
theorem cellsBnd : Tryd.prog.cellsOf 108 = 8 := by kernel_rfl
theorem cellsBnd2 : Tryd.prog.cellsOf 107 = 2 := by kernel_rfl
theorem cellsBnd1 : Tryd.prog.cellsOf 3 = 1 := by kernel_rfl
def bndInts : List Int := [0, 1099511627776, 0, 899, -1099511627776, 1099, 90, 110]
/-- the table of bounds -/
def BndAt (w : World) : Prop := ∀ i z, bndInts[i]? = some z → w.cell? ⟨0, i, none⟩ = some (.int .i64 z)
theorem BndAt.below {w w' : World} {B : Nat} (h : BndAt w) (hb : Below B w w') (hB : 0 < B) : BndAt w' := fun i z e => (hb.cell hB).trans (h i z e)
theorem BndAt.lt {w : World} (h : BndAt w) : 0 < w.heap.size := block_lt_of_cell (h 0 0 rfl)
theorem BndAt.grown {w w' : World} (h : BndAt w) (hb : Below w.heap.size w w') : BndAt w' := h.below hb h.lt
set_option maxRecDepth 100000 in
theorem pair_of_trod {H : Type} {enc : TypeId × Value → H} {w : World} {base : Nat} {sp : Nat → Bool} {held : Bool} {m : Nat} {cs : List Value} {x : DataW H × List MemPlace} {a b : Int} (h : DataW.trod enc Tryd.prog w base sp held m 107 cs = some x) (e : x.1 = .agg [.lit (.int .i64 a), .lit (.int .i64 b)]) : cs = [.int .i64 a, .int .i64 b] := by
  obtain ⟨ys, m', _, rfl, hl, hyl, hel⟩ := DataW.trod_array Tryd.underlying107 h
  rw [cellsBnd2] at hl
  match cs, hl, ys, hyl with
  | [v0, v1], _, [y0, y1], _ =>
    have h0 := hel 0 (by decide)
    have h1 := hel 1 (by decide)
    simp [cellsBnd1] at h0 h1
    obtain ⟨z0, e0, q0, _⟩ := DataW.trod_int Tryd.underlying3 h0
    obtain ⟨z1, e1, q1, _⟩ := DataW.trod_int Tryd.underlying3 h1
    simp at e0 e1 e
    subst q0; subst q1
    simp at e
    rw [e0, e1, e.1, e.2]
set_option maxRecDepth 100000 in
theorem bndAt_of_laid {W : World} (h : laidMetH Tryd.prog [("tandem/lease.bounds", Rows.laid_tandem_lease_bounds)] W) : BndAt W := by
  obtain ⟨ps, ⟨g', t', cs, fuel, p, q, hg', ht', hvar, hd, _, _⟩, _⟩ := (h : laidMet Tryd.prog [("tandem/lease.bounds", Rows.laid_tandem_lease_bounds)] W)
  obtain rfl := Option.some.inj (gBnd.symm.trans hg')
  obtain rfl := Option.some.inj (gBndType.symm.trans ht')
  obtain ⟨xs, m, _, hx, hl, hxl, hel⟩ := DataW.trod_array Tryd.underlying108 hd
  rw [cellsBnd] at hl
  have hx := congrArg Prod.fst hx
  rcases cs with ⟨cs⟩
  have hl : cs.length = 8 := hl
  match cs, hl, xs, hxl with
  | [v0, v1, v2, v3, v4, v5, v6, v7], _, [x0, x1, x2, x3], _ =>
    have h0 := hel 0 (by decide)
    have h1 := hel 1 (by decide)
    have h2 := hel 2 (by decide)
    have h3 := hel 3 (by decide)
    simp [cellsBnd2] at h0 h1 h2 h3
    simp [Rows.laid_tandem_lease_bounds] at hx
    obtain ⟨q0, q1, q2, q3⟩ := hx
    have p0 := pair_of_trod h0 q0.symm
    have p1 := pair_of_trod h1 q1.symm
    have p2 := pair_of_trod h2 q2.symm
    have p3 := pair_of_trod h3 q3.symm
    intro i z hz
    rw [World.var?_cell gBnd hvar i]
    simp at p0 p1 p2 p3
    obtain ⟨rfl, rfl⟩ := p0
    obtain ⟨rfl, rfl⟩ := p1
    obtain ⟨rfl, rfl⟩ := p2
    obtain ⟨rfl, rfl⟩ := p3
    have hi := (List.getElem?_eq_some_iff.1 hz).1
    simp only [bndInts, List.length_cons, List.length_nil] at hi
    match i, hi with
    | 0, _ => cases hz; rfl
    | 1, _ => cases hz; rfl
    | 2, _ => cases hz; rfl
    | 3, _ => cases hz; rfl
    | 4, _ => cases hz; rfl
    | 5, _ => cases hz; rfl
    | 6, _ => cases hz; rfl
    | 7, _ => cases hz; rfl

/-- a world for the witness -/
noncomputable def laidWorld (os : Os) : World :=
  { World.holding Tryd.prog os ⟨#[], #[], []⟩ with heap := (World.holding Tryd.prog os ⟨#[], #[], []⟩).heap.modify 0 fun
      | .cells _ t frozen => .cells (bndInts.map fun z => Value.int .i64 z).toArray t frozen
      | o => o }
end Go.Proofs.YtljgjehecaiohaaDoor
