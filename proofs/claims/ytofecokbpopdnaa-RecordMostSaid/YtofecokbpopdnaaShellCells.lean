/-
  Cells that hold a slice of bytes or of Bools, as they came in. Conditions: none.
-/
import Derived.Test.YtofecokbpopdnaaShell
import Derived.Test.YtofecokbpopdnaaBa
import Derived.Deep.Strs
namespace Go.Proofs.Ytofecokbpopdnaa
open Go.ChangeShapes Go.WideShapes Go.ChangeAt Go.RowKit Go.Deep
section
variable {H : Type} {enc : TypeId × Value → H} {P : Program}
/-- a cell that holds a slice of bytes -/
theorem cell_bytes {W : World} {v : Value} {n : Nat} {x : DataW H × List MemPlace} {tS tE : TypeId} (ht : P.underlying tS = some (.slice tE)) (he : P.underlying tE = some (.int .u8)) (hc : P.cellsOf tE = 1)
    (hf : DataW.trod enc P W 0 (fun _ => true) true n tS [v] = some x) : ∃ (A : Option Addr) (l : List UInt8) (c : Nat), v = .slice A l.length c ∧ BytesAt W W.heap.size A l := by
  rcases open_ints ht he hc hf with ⟨hcs, hx⟩ | ⟨a, len, cap, zs, hcs, _, hl, hm, hz, hx, hcell, hwz⟩
  · exact ⟨none, [], 0, by simpa using hcs, bytes_nil⟩
  · simp only [if_true] at hz
    have hlen : ((zs.take len).map fun n => UInt8.ofNat n.toNat).length = len := by simp; omega
    refine ⟨some a, (zs.take len).map fun n => UInt8.ofNat n.toNat, cap, by rw [hlen]; simpa using hcs, fun hne => ?_⟩
    have hpos : 0 < len := by
      rcases Nat.eq_zero_or_pos len with h0 | h0
      · exact absurd (List.eq_nil_of_length_eq_zero (hlen.trans h0)) hne
      · exact h0
    have hlt : a.block < W.heap.size := by
      have := cell_lt (hcell 0 (by omega))
      rwa [Go.Proofs.Ytofecokbpopdnaa.block_add] at this
    refine ⟨a, rfl, hlt, fun k hk => ?_⟩
    rw [hlen] at hk
    rw [hcell k (by omega)]
    have hb := range_u8 hwz k
    have hk2 : k < zs.length := by omega
    simp only [List.getElem?_eq_getElem hk2, Option.getD_some] at hb
    simp only [List.getD_eq_getElem?_getD, List.getElem?_map, List.getElem?_take, if_pos hk, List.getElem?_eq_getElem hk2, Option.map_some, Option.getD_some, UInt8.toNat_ofNat']
    congr 2
    omega
/-- a cell that holds a slice of Bools -/
theorem cell_bools {W : World} {v : Value} {n : Nat} {x : DataW H × List MemPlace} {tS tE : TypeId} (ht : P.underlying tS = some (.slice tE)) (he : P.underlying tE = some .bool) (hc : P.cellsOf tE = 1)
    (hf : DataW.trod enc P W 0 (fun _ => true) true n tS [v] = some x) : ∃ (A : Option Addr) (l : List Bool) (c : Nat), v = .slice A l.length c ∧ RowAt W W.heap.size A (l.map Value.bool) := by
  rcases open_slice1 ht hc hf with ⟨hcs, hx⟩ | ⟨a, len, cap, m, n, V, D, Pl, hcs, _, hl, hm, hmm, hx, hel⟩
  · exact ⟨none, [], 0, by simpa using hcs, RowAt.none_⟩
  · simp only [if_true] at hmm
    subst hmm
    obtain ⟨q, hq⟩ := choose_lt (α := Bool) (p := fun i b => V i = .bool b) (fun i hi => by
      obtain ⟨b, h1, _⟩ := DataW.trod_bool he (hel i hi).2
      exact ⟨b, by simpa using h1⟩)
    have hlen : ((List.range len).map q).length = len := by simp
    refine ⟨some a, (List.range len).map q, m, by rw [hlen]; simpa using hcs, fun hne => ?_⟩
    have hpos : 0 < len := by
      rcases Nat.eq_zero_or_pos len with h0 | h0
      · subst h0; exact absurd rfl hne
      · exact h0
    refine ⟨a, rfl, ?_, fun k u hu => ?_⟩
    · have := cell_lt (hel 0 (by omega)).1
      rwa [Go.Proofs.Ytofecokbpopdnaa.block_add] at this
    · simp only [List.getElem?_map, Option.map_eq_some_iff] at hu
      obtain ⟨b, ⟨i, hi, rfl⟩, rfl⟩ := hu
      obtain ⟨hk, rfl⟩ : ∃ h : k < len, k = i := by
        rw [List.getElem?_eq_some_iff] at hi
        obtain ⟨h1, h2⟩ := hi
        simp at h1 h2
        exact ⟨h1, h2⟩
      rw [(hel k (by omega)).1, hq k (by omega)]
/-- a cell that holds a slice of Bools, with its room -/
theorem cell_boolsC {W : World} {v : Value} {n : Nat} {x : DataW H × List MemPlace} {tS tE : TypeId} (ht : P.underlying tS = some (.slice tE)) (he : P.underlying tE = some .bool) (hc : P.cellsOf tE = 1)
    (hf : DataW.trod enc P W 0 (fun _ => true) true n tS [v] = some x) : ∃ (A : Option Addr) (l : List Bool) (c : Nat), v = .slice A l.length c ∧ l.length ≤ c ∧ RowAt W W.heap.size A (l.map Value.bool) := by
  rcases open_slice1 ht hc hf with ⟨hcs, hx⟩ | ⟨a, len, cap, m, n, V, D, Pl, hcs, _, hl, hm, hmm, hx, hel⟩
  · exact ⟨none, [], 0, by simpa using hcs, Nat.le_refl _, RowAt.none_⟩
  · simp only [if_true] at hmm
    subst hmm
    obtain ⟨q, hq⟩ := choose_lt (α := Bool) (p := fun i b => V i = .bool b) (fun i hi => by
      obtain ⟨b, h1, _⟩ := DataW.trod_bool he (hel i hi).2
      exact ⟨b, by simpa using h1⟩)
    have hlen : ((List.range len).map q).length = len := by simp
    refine ⟨some a, (List.range len).map q, m, by rw [hlen]; simpa using hcs, by rw [hlen]; exact hl, fun hne => ?_⟩
    have hpos : 0 < len := by
      rcases Nat.eq_zero_or_pos len with h0 | h0
      · subst h0; exact absurd rfl hne
      · exact h0
    refine ⟨a, rfl, ?_, fun k u hu => ?_⟩
    · have := cell_lt (hel 0 (by omega)).1
      rwa [Go.Proofs.Ytofecokbpopdnaa.block_add] at this
    · simp only [List.getElem?_map, Option.map_eq_some_iff] at hu
      obtain ⟨b, ⟨i, hi, rfl⟩, rfl⟩ := hu
      obtain ⟨hk, rfl⟩ : ∃ h : k < len, k = i := by
        rw [List.getElem?_eq_some_iff] at hi
        obtain ⟨h1, h2⟩ := hi
        simp at h1 h2
        exact ⟨h1, h2⟩
      rw [(hel k (by omega)).1, hq k (by omega)]
end
end Go.Proofs.Ytofecokbpopdnaa
