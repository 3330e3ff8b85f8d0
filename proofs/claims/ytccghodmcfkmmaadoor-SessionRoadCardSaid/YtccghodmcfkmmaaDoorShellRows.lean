/-
  A slice of slices of bytes, and a slice of Bools, that came in. Conditions: none.
-/
import Derived.Test.YtccghodmcfkmmaaDoorShell
import Derived.Test.YtccghodmcfkmmaaDoorRowsM
import Derived.Deep.Strs
namespace Go.Proofs.YtccghodmcfkmmaaDoor
open Go.ChangeShapes Go.WideShapes Go.ChangeAt Go.RowKit Go.Deep
instance : Inhabited RowM := ⟨⟨[], none, 0⟩⟩
section
variable {H : Type} {enc : TypeId × Value → H} {P : Program}
/-- a cell that holds a slice of bytes -/
theorem cell_bytes {W : World} {v : Value} {n : Nat} {x : DataW H × List MemPlace} {tS tE : TypeId} (ht : P.underlying tS = some (.slice tE)) (he : P.underlying tE = some (.int .u8)) (hc : P.cellsOf tE = 1)
    (hf : DataW.trod enc P W 0 (fun _ => true) true n tS [v] = some x) : ∃ (A : Option Addr) (l : List UInt8) (c : Nat), v = .slice A l.length c ∧ BytesAt W W.heap.size A l := by
  rcases open_ints ht he hc hf with ⟨hcs, hx⟩ | ⟨a, len, cap, zs, hcs, _, hl, hm, hz, hx, hcell, hwz⟩
  · exact ⟨none, [], 0, by simpa using hcs, bytes_nil⟩
  · simp only [if_true] at hz
    have hlen : ((zs.take len).map fun n => UInt8.ofNat n.toNat).length = len := by simp; omega
    refine ⟨some a, (zs.take len).map fun n => UInt8.ofNat n.toNat, cap, by rw [hlen]; simpa using hcs, fun hne => ?_⟩
    have hpos : 0 < len := by
      rcases Nat.eq_zero_or_pos len with h0 | h0
      · exact absurd (List.eq_nil_of_length_eq_zero (hlen.trans h0)) hne
      · exact h0
    have hlt : a.block < W.heap.size := by
      have := cell_lt (hcell 0 (by omega))
      rwa [Go.Proofs.YtccghodmcfkmmaaDoor.block_add] at this
    refine ⟨a, rfl, hlt, fun k hk => ?_⟩
    rw [hlen] at hk
    rw [hcell k (by omega)]
    have hb := range_u8 hwz k
    have hk2 : k < zs.length := by omega
    simp only [List.getElem?_eq_getElem hk2, Option.getD_some] at hb
    simp only [List.getD_eq_getElem?_getD, List.getElem?_map, List.getElem?_take, if_pos hk, List.getElem?_eq_getElem hk2, Option.map_some, Option.getD_some, UInt8.toNat_ofNat']
    congr 2
    omega
/-- a slice of Bools that came in -/
theorem open_boolsAt {W : World} {base : Nat} {v : Value} {d : DataW H} {p : List MemPlace} {tS tE : TypeId} (ht : P.underlying tS = some (.slice tE)) (he : P.underlying tE = some .bool) (hc : P.cellsOf tE = 1)
    (hval : Value.okWide P W .any base tS v) (h : DataW.Trod enc P W 0 (fun _ => true) true tS v d p) :
    ∃ (A : Option Addr) (l : List Bool) (c : Nat), v = .slice A l.length c ∧ l.length ≤ c ∧ c ≤ maxLen ∧ RowAt W W.heap.size A (l.map Value.bool) ∧ (A = none → l = [] ∧ c = 0) := by
  obtain ⟨a1, len, cap, rfl⟩ := okWide_slice ht hval
  obtain ⟨fuel, hf⟩ := h
  rcases open_slice1 ht hc hf with ⟨hcs, hx⟩ | ⟨a, len', cap', m, n, V, D, Pl, hcs, _, hl, hm, hmm, hx, hel⟩
  · simp [Value.cells] at hcs
    obtain ⟨rfl, rfl, rfl⟩ := hcs
    exact ⟨none, [], 0, rfl, Nat.le_refl _, Nat.zero_le _, RowAt.none_, fun _ => ⟨rfl, rfl⟩⟩
  · simp [Value.cells] at hcs
    obtain ⟨rfl, rfl, rfl⟩ := hcs
    simp only [if_true] at hmm
    subst hmm
    obtain ⟨q, hq⟩ := choose_lt (α := Bool) (p := fun i b => V i = .bool b) (fun i hi => by
      obtain ⟨b, h1, _⟩ := DataW.trod_bool he (hel i hi).2
      exact ⟨b, by simpa using h1⟩)
    have hlen : ((List.range len).map q).length = len := by simp
    refine ⟨some a, (List.range len).map q, m, by rw [hlen], by rw [hlen]; exact hl, hm, fun hne => ?_, by intro h; cases h⟩
    have hpos : 0 < len := by
      rcases Nat.eq_zero_or_pos len with h0 | h0
      · subst h0; exact absurd rfl hne
      · exact h0
    refine ⟨a, rfl, ?_, fun k u hu => ?_⟩
    · have := cell_lt (hel 0 (by omega)).1
      rwa [Go.Proofs.YtccghodmcfkmmaaDoor.block_add] at this
    · simp only [List.getElem?_map, Option.map_eq_some_iff] at hu
      obtain ⟨b, ⟨i, hi, rfl⟩, rfl⟩ := hu
      obtain ⟨hk, rfl⟩ : ∃ h : k < len, k = i := by
        rw [List.getElem?_eq_some_iff] at hi
        obtain ⟨h1, h2⟩ := hi
        simp at h1 h2
        exact ⟨h1, h2⟩
      rw [(hel k (by omega)).1, hq k (by omega)]

/-- a slice of slices of bytes that came in -/
theorem open_rowsAt {W : World} {base : Nat} {v : Value} {d : DataW H} {p : List MemPlace} {tS tE tB : TypeId} (ht : P.underlying tS = some (.slice tE)) (hc : P.cellsOf tE = 1)
    (u0 : P.underlying tE = some (.slice tB)) (uB : P.underlying tB = some (.int .u8)) (cB : P.cellsOf tB = 1)
    (hval : Value.okWide P W .any base tS v) (h : DataW.Trod enc P W 0 (fun _ => true) true tS v d p) :
    ∃ (A : Option Addr) (l : List RowM) (c : Nat), v = .slice A l.length c ∧ l.length ≤ c ∧ c ≤ maxLen ∧ RowsAt W W.heap.size A l ∧ (A = none → l = [] ∧ c = 0) := by
  obtain ⟨a1, len, cap, rfl⟩ := okWide_slice ht hval
  obtain ⟨fuel, hf⟩ := h
  rcases open_slice1 ht hc hf with ⟨hcs, hx⟩ | ⟨a, len', cap', m, n, V, D, Pl, hcs, _, hl, hm, hmm, hx, hel⟩
  · simp [Value.cells] at hcs
    obtain ⟨rfl, rfl, rfl⟩ := hcs
    exact ⟨none, [], 0, rfl, Nat.le_refl _, Nat.zero_le _, ⟨RowAt.none_, by simp⟩, fun _ => ⟨rfl, rfl⟩⟩
  · simp [Value.cells] at hcs
    obtain ⟨rfl, rfl, rfl⟩ := hcs
    simp only [if_true] at hmm
    subst hmm
    obtain ⟨q, hq⟩ := choose_lt (α := RowM) (p := fun i b => V i = rowCell b ∧ BytesAt W W.heap.size b.A b.b) (fun i hi => by
      obtain ⟨A0, l0, k0, e, r0⟩ := cell_bytes u0 uB cB (hel i hi).2
      exact ⟨⟨l0, A0, k0⟩, e, r0⟩)
    have hlen : ((List.range len).map q).length = len := by simp
    refine ⟨some a, (List.range len).map q, m, by rw [hlen], by rw [hlen]; exact hl, hm, ⟨fun hne => ?_, fun x hx => ?_⟩, by intro h; cases h⟩
    · have hpos : 0 < len := by
        rcases Nat.eq_zero_or_pos len with h0 | h0
        · subst h0; exact absurd rfl hne
        · exact h0
      refine ⟨a, rfl, ?_, fun k u hu => ?_⟩
      · have := cell_lt (hel 0 (by omega)).1
        rwa [Go.Proofs.YtccghodmcfkmmaaDoor.block_add] at this
      · simp only [List.getElem?_map, Option.map_eq_some_iff] at hu
        obtain ⟨b, ⟨i, hi, rfl⟩, rfl⟩ := hu
        obtain ⟨hk, rfl⟩ : ∃ h : k < len, k = i := by
          rw [List.getElem?_eq_some_iff] at hi
          obtain ⟨h1, h2⟩ := hi
          simp at h1 h2
          exact ⟨h1, h2⟩
        rw [(hel k (by omega)).1, (hq k (by omega)).1]
    · simp only [List.mem_map, List.mem_range] at hx
      obtain ⟨k, hk, rfl⟩ := hx
      exact (hq k (by omega)).2
end
end Go.Proofs.YtccghodmcfkmmaaDoor
