/-
  A message that came in by value. Conditions: none.
-/
import Derived.Test.YtfiijnpabmocdaaShellSized
import Derived.Test.YtfiijnpabmocdaaShellCells
import Derived.Test.YtfiijnpabmocdaaMgBare
import Derived.Lib.SmallJoins
namespace Go.Proofs.Ytfiijnpabmocdaa
open Go.ChangeShapes Go.WideShapes Go.ChangeAt Go.RowKit Go.Joins Go.Deep
section
variable {H : Type} {enc : TypeId × Value → H} {P : Program} {W : World}
theorem cell_bytesM {v : Value} {n : Nat} {x : DataW H × List MemPlace} {tS tE : TypeId} (ht : P.underlying tS = some (.slice tE)) (he : P.underlying tE = some (.int .u8)) (hc : P.cellsOf tE = 1)
    (hf : DataW.trod enc P W 0 (fun _ => true) true n tS [v] = some x) : ∃ (A : Option Addr) (l : List UInt8) (c : Nat), v = .slice A l.length c ∧ l.length ≤ c ∧ c ≤ maxLen ∧ BytesAt W W.heap.size A l := by
  rcases open_ints ht he hc hf with ⟨hcs, hx⟩ | ⟨a, len, cap, zs, hcs, _, hl, hm, hz, hx, hcell, hwz⟩
  · exact ⟨none, [], 0, by simpa using hcs, Nat.le_refl _, Nat.zero_le _, bytes_nil⟩
  · simp only [if_true] at hz
    have hlen : ((zs.take len).map fun n => UInt8.ofNat n.toNat).length = len := by simp; omega
    refine ⟨some a, (zs.take len).map fun n => UInt8.ofNat n.toNat, cap, by rw [hlen]; simpa using hcs, by rw [hlen]; exact hl, hm, fun hne => ?_⟩
    have hpos : 0 < len := by
      rcases Nat.eq_zero_or_pos len with h0 | h0
      · exact absurd (List.eq_nil_of_length_eq_zero (hlen.trans h0)) hne
      · exact h0
    have hlt : a.block < W.heap.size := by
      have := cell_lt (hcell 0 (by omega))
      rwa [Go.Proofs.Ytfiijnpabmocdaa.block_add] at this
    refine ⟨a, rfl, hlt, fun k hk => ?_⟩
    rw [hlen] at hk
    rw [hcell k (by omega)]
    have hb := range_u8 hwz k
    have hk2 : k < zs.length := by omega
    simp only [List.getElem?_eq_getElem hk2, Option.getD_some] at hb
    simp only [List.getD_eq_getElem?_getD, List.getElem?_map, List.getElem?_take, if_pos hk, List.getElem?_eq_getElem hk2, Option.map_some, Option.getD_some, UInt8.toNat_ofNat']
    congr 2
    omega
theorem trod_recM {t : TypeId} {f0 f1 f2 : Field} {n : Nat} {cs : List Value} {x : DataW H × List MemPlace} (hs : P.underlying t = some (.struct #[f0, f1, f2])) (hone : oneCellFields P #[f0, f1, f2] = true)
    (u0 : P.underlying f0.type = some (.int .i64)) (u1 : P.underlying f1.type = some (.int .i64)) (u2 : P.underlying f2.type = some (.int .i64)) (v0 v1 v2 : Value) (hcs : cs = [v0, v1, v2])
    (h : DataW.trod enc P W 0 (fun _ => true) true n t cs = some x) : ∃ a b c : Int, v0 = .int .i64 a ∧ v1 = .int .i64 b ∧ v2 = .int .i64 c ∧ is64 a ∧ is64 b ∧ is64 c := by
  subst hcs
  obtain ⟨y0, y1, y2, m, hx, _, h0, h1, h2⟩ := Go.Deep.trod_struct3 hs h
  obtain ⟨o0, k0⟩ := hone_of hone 0 f0 rfl
  obtain ⟨o1, k1⟩ := hone_of hone 1 f1 rfl
  obtain ⟨o2, k2⟩ := hone_of hone 2 f2 rfl
  simp only [o0, k0, o1, k1, o2, k2] at h0 h1 h2
  obtain ⟨a, e0, _, wa⟩ := DataW.trod_int u0 h0
  obtain ⟨b, e1, _, wb⟩ := DataW.trod_int u1 h1
  obtain ⟨c, e2, _, wc⟩ := DataW.trod_int u2 h2
  simp at e0 e1 e2
  exact ⟨a, b, c, e0, e1, e2, bounds_i64 wa, bounds_i64 wb, bounds_i64 wc⟩
theorem arr12 {α : Type} {cs : Array α} (h : cs.size = 12) : ∃ c0 c1 c2 c3 c4 c5 c6 c7 c8 c9 c10 c11, cs = #[c0, c1, c2, c3, c4, c5, c6, c7, c8, c9, c10, c11] := by
  rcases cs with ⟨l⟩
  match l, h with
  | [a, b, c, d, e, f, g, i, j, k, m, n], _ => exact ⟨a, b, c, d, e, f, g, i, j, k, m, n, rfl⟩
/-- a message that came in -/
theorem open_msg {base : Nat} {v : Value} {d : DataW H} {p : List MemPlace} {tE tB : TypeId} {f0 f1 f2 f3 f4 f5 f6 f7 f8 f9 g0 g1 g2 : Field} (he : P.underlying tE = some (.struct #[f0, f1, f2, f3, f4, f5, f6, f7, f8, f9])) (hC : P.cellsOf tE = 12)
    (o : f0.offset = 0 ∧ f1.offset = 1 ∧ f2.offset = 2 ∧ f3.offset = 3 ∧ f4.offset = 4 ∧ f5.offset = 5 ∧ f6.offset = 6 ∧ f7.offset = 7 ∧ f8.offset = 10 ∧ f9.offset = 11)
    (c : P.cellsOf f0.type = 1 ∧ P.cellsOf f1.type = 1 ∧ P.cellsOf f2.type = 1 ∧ P.cellsOf f3.type = 1 ∧ P.cellsOf f4.type = 1 ∧ P.cellsOf f5.type = 1 ∧ P.cellsOf f6.type = 1 ∧ P.cellsOf f7.type = 3 ∧ P.cellsOf f8.type = 1 ∧ P.cellsOf f9.type = 1)
    (u0 : P.underlying f0.type = some (.int .i64)) (u1 : P.underlying f1.type = some (.int .i64)) (u2 : P.underlying f2.type = some (.int .i64)) (u3 : P.underlying f3.type = some (.int .i64)) (u4 : P.underlying f4.type = some (.int .i64)) (u5 : P.underlying f5.type = some (.int .i64))
    (u6 : P.underlying f6.type = some .bool) (u7 : P.underlying f7.type = some (.struct #[g0, g1, g2])) (hone : oneCellFields P #[g0, g1, g2] = true)
    (w0 : P.underlying g0.type = some (.int .i64)) (w1 : P.underlying g1.type = some (.int .i64)) (w2 : P.underlying g2.type = some (.int .i64))
    (u8 : P.underlying f8.type = some (.int .u64)) (u9 : P.underlying f9.type = some (.slice tB)) (uB : P.underlying tB = some (.int .u8)) (cB : P.cellsOf tB = 1)
    (hv : Value.okWide P W .any base tE v) (h : DataW.Trod enc P W 0 (fun _ => true) true tE v d p) :
    ∃ (m : Mg.M) (A : Option Addr) (c : Nat), v = .agg (mCells m (.slice A m.data.length c)).toArray ∧ Mg.Wf m ∧ m.data.length ≤ c ∧ c ≤ maxLen ∧ BytesAt W W.heap.size A m.data := by
  obtain ⟨cs, rfl, hsz⟩ := okWide_struct he hv
  obtain ⟨c0, c1, c2, c3, c4, c5, c6, c7, c8, c9, c10, c11, rfl⟩ := arr12 (hsz.trans hC)
  obtain ⟨fuel, hf⟩ := h
  obtain ⟨o0, o1, o2, o3, o4, o5, o6, o7, o8, o9⟩ := o
  obtain ⟨k0, k1, k2, k3, k4, k5, k6, k7, k8, k9⟩ := c
  obtain ⟨xs, k, _, _, _, hxl, hfs⟩ := DataW.trod_struct he hf
  match xs, hxl with
  | [y0, y1, y2, y3, y4, y5, y6, y7, y8, y9], _ =>
    have q0 := hfs 0 f0 rfl
    have q1 := hfs 1 f1 rfl
    have q2 := hfs 2 f2 rfl
    have q3 := hfs 3 f3 rfl
    have q4 := hfs 4 f4 rfl
    have q5 := hfs 5 f5 rfl
    have q6 := hfs 6 f6 rfl
    have q7 := hfs 7 f7 rfl
    have q8 := hfs 8 f8 rfl
    have q9 := hfs 9 f9 rfl
    simp [Value.cells, o0, o1, o2, o3, o4, o5, o6, o7, o8, o9, k0, k1, k2, k3, k4, k5, k6, k7, k8, k9] at q0 q1 q2 q3 q4 q5 q6 q7 q8 q9
    obtain ⟨z0, e0, _, b0⟩ := DataW.trod_int u0 q0
    obtain ⟨z1, e1, _, b1⟩ := DataW.trod_int u1 q1
    obtain ⟨z2, e2, _, b2⟩ := DataW.trod_int u2 q2
    obtain ⟨z3, e3, _, b3⟩ := DataW.trod_int u3 q3
    obtain ⟨z4, e4, _, b4⟩ := DataW.trod_int u4 q4
    obtain ⟨z5, e5, _, b5⟩ := DataW.trod_int u5 q5
    obtain ⟨z6, e6, _⟩ := DataW.trod_bool u6 q6
    obtain ⟨x, y, z, rfl, rfl, rfl, hx, hy, hz⟩ := trod_recM u7 hone w0 w1 w2 c7 c8 c9 (by simp) q7
    obtain ⟨z8, e8, _, b8⟩ := DataW.trod_int u8 q8
    obtain ⟨A, l, kk, rfl, q, qm, r⟩ := cell_bytesM u9 uB cB q9
    simp at e0 e1 e2 e3 e4 e5 e6 e8
    subst e0 e1 e2 e3 e4 e5 e6 e8
    have b8' := bounds_u64 b8
    refine ⟨⟨z0, z1, z2, z3, z4, z5, z6, x, y, z, z8.toNat, l⟩, A, kk, ?_, ⟨bounds_i64 b0, bounds_i64 b1, bounds_i64 b2, bounds_i64 b3, bounds_i64 b4, bounds_i64 b5, hx, hy, hz, ?_⟩, q, qm, r⟩
    · simp only [mCells]
      rw [Int.toNat_of_nonneg b8'.1]
    · show z8.toNat < _
      omega
end
end Go.Proofs.Ytfiijnpabmocdaa
