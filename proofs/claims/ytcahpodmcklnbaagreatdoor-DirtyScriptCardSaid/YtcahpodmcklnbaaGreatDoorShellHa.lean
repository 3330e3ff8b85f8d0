/-
  Six cells that hold a call of a script; a slice of calls that came in. Conditions: none.
-/
import Derived.Test.YtcahpodmcklnbaaGreatDoorShell
import Derived.Test.YtcahpodmcklnbaaGreatDoorHk
import Derived.Deep.Strs
namespace Go.Proofs.YtcahpodmcklnbaaGreatDoor
open Go.ChangeShapes Go.WideShapes Go.ChangeAt Go.RowKit Go.Deep
instance : Inhabited HaM := ⟨⟨0, 0, 0, 0, [], none, 0, [], none, 0⟩⟩
section
variable {H : Type} {enc : TypeId × Value → H} {P : Program}
/-- a cell that holds a slice of bytes -/
theorem cell_bytesC {W : World} {v : Value} {n : Nat} {x : DataW H × List MemPlace} {tS tE : TypeId} (ht : P.underlying tS = some (.slice tE)) (he : P.underlying tE = some (.int .u8)) (hc : P.cellsOf tE = 1)
    (hf : DataW.trod enc P W 0 (fun _ => true) true n tS [v] = some x) : ∃ (A : Option Addr) (l : List UInt8) (c : Nat), v = .slice A l.length c ∧ l.length ≤ c ∧ BytesAt W W.heap.size A l := by
  rcases open_ints ht he hc hf with ⟨hcs, hx⟩ | ⟨a, len, cap, zs, hcs, _, hl, hm, hz, hx, hcell, hwz⟩
  · exact ⟨none, [], 0, by simpa using hcs, Nat.le_refl _, bytes_nil⟩
  · simp only [if_true] at hz
    have hlen : ((zs.take len).map fun n => UInt8.ofNat n.toNat).length = len := by simp; omega
    refine ⟨some a, (zs.take len).map fun n => UInt8.ofNat n.toNat, cap, by rw [hlen]; simpa using hcs, by rw [hlen]; exact hl, fun hne => ?_⟩
    have hpos : 0 < len := by
      rcases Nat.eq_zero_or_pos len with h0 | h0
      · exact absurd (List.eq_nil_of_length_eq_zero (hlen.trans h0)) hne
      · exact h0
    have hlt : a.block < W.heap.size := by
      have := cell_lt (hcell 0 (by omega))
      rwa [Go.Proofs.YtcahpodmcklnbaaGreatDoor.block_add] at this
    refine ⟨a, rfl, hlt, fun k hk => ?_⟩
    rw [hlen] at hk
    rw [hcell k (by omega)]
    have hb := range_u8 hwz k
    have hk2 : k < zs.length := by omega
    simp only [List.getElem?_eq_getElem hk2, Option.getD_some] at hb
    simp only [List.getD_eq_getElem?_getD, List.getElem?_map, List.getElem?_take, if_pos hk, List.getElem?_eq_getElem hk2, Option.map_some, Option.getD_some, UInt8.toNat_ofNat']
    congr 2
    omega
/-- a cell that holds a slice of Bools -/
theorem cell_boolsC {W : World} {v : Value} {n : Nat} {x : DataW H × List MemPlace} {tS tE : TypeId} (ht : P.underlying tS = some (.slice tE)) (he : P.underlying tE = some .bool) (hc : P.cellsOf tE = 1)
    (hf : DataW.trod enc P W 0 (fun _ => true) true n tS [v] = some x) : ∃ (A : Option Addr) (l : List Bool) (c : Nat), v = .slice A l.length c ∧ l.length ≤ c ∧ RowAt W W.heap.size A (l.map Value.bool) := by
  rcases open_slice1 ht hc hf with ⟨hcs, hx⟩ | ⟨a, len, cap, m, n, V, D, Pl, hcs, _, hl, hm, hmm, hx, hel⟩
  · exact ⟨none, [], 0, by simpa using hcs, Nat.le_refl _, RowAt.none_⟩
  · simp only [if_true] at hmm
    subst hmm
    obtain ⟨q, hq⟩ := choose_lt (α := Bool) (p := fun i b => V i = .bool b) (fun i hi => by
      obtain ⟨b, h1, _⟩ := DataW.trod_bool he (hel i hi).2
      exact ⟨b, by simpa using h1⟩)
    have hlen : ((List.range len).map q).length = len := by simp
    refine ⟨some a, (List.range len).map q, m, by rw [hlen]; simpa using hcs, by rw [hlen]; exact hl, fun hne => ?_⟩
    have hpos : 0 < len := by
      rcases Nat.eq_zero_or_pos len with h0 | h0
      · subst h0; exact absurd rfl hne
      · exact h0
    refine ⟨a, rfl, ?_, fun k u hu => ?_⟩
    · have := cell_lt (hel 0 (by omega)).1
      rwa [Go.Proofs.YtcahpodmcklnbaaGreatDoor.block_add] at this
    · skip
      simp only [List.getElem?_map, Option.map_eq_some_iff] at hu
      obtain ⟨b, ⟨i, hi, rfl⟩, rfl⟩ := hu
      obtain ⟨hk, rfl⟩ : ∃ h : k < len, k = i := by
        rw [List.getElem?_eq_some_iff] at hi
        obtain ⟨h1, h2⟩ := hi
        simp at h1 h2
        exact ⟨h1, h2⟩
      rw [(hel k (by omega)).1, hq k (by omega)]
/-- six cells that hold a call -/
theorem trod_ha {W : World} {n : Nat} {cs : List Value} {x : DataW H × List MemPlace} {tE tB tO : TypeId} {f0 f1 f2 f3 f4 f5 : Field} (he : P.underlying tE = some (.struct #[f0, f1, f2, f3, f4, f5]))
    (o : f0.offset = 0 ∧ f1.offset = 1 ∧ f2.offset = 2 ∧ f3.offset = 3 ∧ f4.offset = 4 ∧ f5.offset = 5) (c : P.cellsOf f0.type = 1 ∧ P.cellsOf f1.type = 1 ∧ P.cellsOf f2.type = 1 ∧ P.cellsOf f3.type = 1 ∧ P.cellsOf f4.type = 1 ∧ P.cellsOf f5.type = 1)
    (u0 : P.underlying f0.type = some (.int .i64)) (u1 : P.underlying f1.type = some (.int .i64)) (u2 : P.underlying f2.type = some (.int .i64)) (u3 : P.underlying f3.type = some (.int .u8)) (u4 : P.underlying f4.type = some (.slice tB)) (uB : P.underlying tB = some (.int .u8)) (cB : P.cellsOf tB = 1)
    (u5 : P.underlying f5.type = some (.slice tO)) (uO : P.underlying tO = some .bool) (cO : P.cellsOf tO = 1)
    (hl : cs.length = 6) (h : DataW.trod enc P W 0 (fun _ => true) true n tE cs = some x) : ∃ m : HaM, cs = haCells m ∧ HaIn W W.heap.size m := by
  obtain ⟨o0, o1, o2, o3, o4, o5⟩ := o
  obtain ⟨c0, c1, c2, c3, c4, c5⟩ := c
  obtain ⟨xs, k, _, _, _, hxl, hfs⟩ := DataW.trod_struct he h
  match xs, hxl, cs, hl with
  | [y0, y1, y2, y3, y4, y5], _, [v0, v1, v2, v3, v4, v5], _ =>
    have g0 := hfs 0 f0 rfl
    have g1 := hfs 1 f1 rfl
    have g2 := hfs 2 f2 rfl
    have g3 := hfs 3 f3 rfl
    have g4 := hfs 4 f4 rfl
    have g5 := hfs 5 f5 rfl
    simp [o0, o1, o2, o3, o4, o5, c0, c1, c2, c3, c4, c5] at g0 g1 g2 g3 g4 g5
    obtain ⟨z0, e0, _, w0⟩ := DataW.trod_int u0 g0
    obtain ⟨z1, e1, _, w1⟩ := DataW.trod_int u1 g1
    obtain ⟨z2, e2, _, w2⟩ := DataW.trod_int u2 g2
    obtain ⟨z3, e3, _, w3⟩ := DataW.trod_int u3 g3
    obtain rfl : v0 = .int .i64 z0 := by simpa using e0
    obtain rfl : v1 = .int .i64 z1 := by simpa using e1
    obtain rfl : v2 = .int .i64 z2 := by simpa using e2
    obtain rfl : v3 = .int .u8 z3 := by simpa using e3
    obtain ⟨A4, l4, k4, rfl, q4, r4⟩ := cell_bytesC u4 uB cB g4
    obtain ⟨A5, l5, k5, rfl, q5, r5⟩ := cell_boolsC u5 uO cO g5
    have b3 := bounds_u8 w3
    have hz3 : (((UInt8.ofNat z3.toNat).toNat : Nat) : Int) = z3 := by
      rw [UInt8.toNat_ofNat']
      omega
    refine ⟨⟨z0, z1, z2, UInt8.ofNat z3.toNat, l4, A4, k4, l5, A5, k5⟩, ?_, r4, r5, bounds_i64 w1, q4, q5⟩
    unfold haCells
    rw [hz3]
end
end Go.Proofs.YtcahpodmcklnbaaGreatDoor
