/-
  An entry that came in by value. Conditions: none.
-/
import Derived.Test.YtliiejdhbkmifaaDoorShellHa
import Derived.Test.YtliiejdhbkmifaaDoorJo
namespace Go.Proofs.YtliiejdhbkmifaaDoor
open Go.ChangeShapes Go.WideShapes Go.ChangeAt Go.RowKit Go.Deep
instance : Inhabited Ent := ⟨Jn.zero⟩
section
variable {H : Type} {enc : TypeId × Value → H} {P : Program} {W : World}
/-- three cells that hold an entry -/
theorem trod_ent {n : Nat} {cs : List Value} {x : DataW H × List MemPlace} {tE tB : TypeId} {f0 f1 f2 : Field} (he : P.underlying tE = some (.struct #[f0, f1, f2]))
    (o : f0.offset = 0 ∧ f1.offset = 1 ∧ f2.offset = 2) (c : P.cellsOf f0.type = 1 ∧ P.cellsOf f1.type = 1 ∧ P.cellsOf f2.type = 1)
    (u0 : P.underlying f0.type = some (.int .i64)) (u1 : P.underlying f1.type = some (.int .i64)) (u2 : P.underlying f2.type = some (.slice tB)) (uB : P.underlying tB = some (.int .u8)) (cB : P.cellsOf tB = 1)
    (hl : cs.length = 3) (h : DataW.trod enc P W 0 (fun _ => true) true n tE cs = some x) : ∃ (e : Ent) (A : Option Addr) (c : Nat), cs = entL e A c ∧ e.d.length ≤ c ∧ BytesAt W W.heap.size A e.d ∧ (-9223372036854775808 ≤ e.b ∧ e.b ≤ 9223372036854775807) ∧ (-9223372036854775808 ≤ e.n ∧ e.n ≤ 9223372036854775807) := by
  obtain ⟨o0, o1, o2⟩ := o
  obtain ⟨c0, c1, c2⟩ := c
  obtain ⟨xs, k, _, _, _, hxl, hfs⟩ := DataW.trod_struct he h
  match xs, hxl, cs, hl with
  | [y0, y1, y2], _, [v0, v1, v2], _ =>
    have g0 := hfs 0 f0 rfl
    have g1 := hfs 1 f1 rfl
    have g2 := hfs 2 f2 rfl
    simp [o0, o1, o2, c0, c1, c2] at g0 g1 g2
    obtain ⟨z0, e0, _, w0⟩ := DataW.trod_int u0 g0
    obtain ⟨z1, e1, _, w1⟩ := DataW.trod_int u1 g1
    obtain rfl : v0 = .int .i64 z0 := by simpa using e0
    obtain rfl : v1 = .int .i64 z1 := by simpa using e1
    obtain ⟨A4, l4, k4, rfl, q4, r4⟩ := cell_bytesC u2 uB cB g2
    exact ⟨⟨z0, z1, l4⟩, A4, k4, rfl, q4, r4, bounds_i64 w0, bounds_i64 w1⟩
theorem arr3 {α : Type} {cs : Array α} (h : cs.size = 3) : ∃ c0 c1 c2, cs = #[c0, c1, c2] := by
  rcases cs with ⟨l⟩
  match l, h with
  | [a, b, c], _ => exact ⟨a, b, c, rfl⟩
/-- an entry that came in -/
theorem open_ent {base : Nat} {v : Value} {d : DataW H} {p : List MemPlace} {tE tB : TypeId} {f0 f1 f2 : Field} (he : P.underlying tE = some (.struct #[f0, f1, f2])) (hC : P.cellsOf tE = 3)
    (o : f0.offset = 0 ∧ f1.offset = 1 ∧ f2.offset = 2) (c : P.cellsOf f0.type = 1 ∧ P.cellsOf f1.type = 1 ∧ P.cellsOf f2.type = 1)
    (u0 : P.underlying f0.type = some (.int .i64)) (u1 : P.underlying f1.type = some (.int .i64)) (u2 : P.underlying f2.type = some (.slice tB)) (uB : P.underlying tB = some (.int .u8)) (cB : P.cellsOf tB = 1)
    (hv : Value.okWide P W .any base tE v) (h : DataW.Trod enc P W 0 (fun _ => true) true tE v d p) : ∃ (e : Ent) (A : Option Addr) (c : Nat), v = .agg (entL e A c).toArray ∧ e.d.length ≤ c ∧ BytesAt W W.heap.size A e.d ∧ (-9223372036854775808 ≤ e.b ∧ e.b ≤ 9223372036854775807) ∧ (-9223372036854775808 ≤ e.n ∧ e.n ≤ 9223372036854775807) := by
  obtain ⟨cs, rfl, hsz⟩ := okWide_struct he hv
  obtain ⟨c0, c1, c2, rfl⟩ := arr3 (hsz.trans hC)
  obtain ⟨fuel, hf⟩ := h
  obtain ⟨e, A, cc, h1, h2, h3, h4, h5⟩ := trod_ent he o c u0 u1 u2 uB cB (by rfl) (cs := [c0, c1, c2]) (by simpa [Value.cells] using hf)
  refine ⟨e, A, cc, ?_, h2, h3, h4, h5⟩
  rw [← h1]
end
end Go.Proofs.YtliiejdhbkmifaaDoor
