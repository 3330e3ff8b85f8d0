/-
  A slice of saves (structs of a slice of bytes, a number, a slice of Bools, a number) that came in. Conditions: none.
-/
import Derived.Test.YtgnfajmjhlnobaaDoorShell
import Derived.Test.YtgnfajmjhlnobaaDoorSlCrash
import Derived.Deep.Strs
namespace Go.Proofs.YtgnfajmjhlnobaaDoor
open Go.ChangeShapes Go.WideShapes Go.ChangeAt Go.RowKit Go.Deep
instance : Inhabited SaveM := ⟨⟨[], none, 0, 0, [], none, 0, 0⟩⟩
section
variable {H : Type} {enc : TypeId × Value → H} {P : Program}
/-- a cell that holds a slice of bytes -/
theorem cell_bytes {W : World} {v : Value} {n : Nat} {x : DataW H × List MemPlace} {tS tE : TypeId} (ht : P.underlying tS = some (.slice tE)) (he : P.underlying tE = some (.int .u8)) (hc : P.cellsOf tE = 1)
    (hf : DataW.trod enc P W 0 (fun _ => true) true n tS [v] = some x) : ∃ (A : Option Addr) (l : List UInt8) (c : Nat), v = .slice A l.length c ∧ BytesAt W W.heap.size A l := by
  rcases open_ints ht he hc hf with ⟨hcs, hx⟩ | ⟨a, len, cap, zs, hcs, _, hl, hm, hz, hx, hcell, hwz⟩
  · exact ⟨none, [], 0, by simpa using hcs, bytes_nil⟩
  · simp only [if_true] at hz
    have hlen : ((zs.take len).map fun n => UInt8.ofNat n.toNat).length = len := by simp; omega
    refine ⟨some a, (zs.take len).map fun n => UInt8.ofNat n.toNat, cap, by rw [hlen]; simpa using hcs, fun hne => ?_⟩
    have hpos : 0 < len := by
      rcases Nat.eq_zero_or_pos len with h0 | h0
      · exact absurd (List.eq_nil_of_length_eq_zero (hlen.trans h0)) hne
      · exact h0
    have hlt : a.block < W.heap.size := by
      have := cell_lt (hcell 0 (by omega))
      rwa [Go.Proofs.YtgnfajmjhlnobaaDoor.block_add] at this
    refine ⟨a, rfl, hlt, fun k hk => ?_⟩
    rw [hlen] at hk
    rw [hcell k (by omega)]
    have hb := range_u8 hwz k
    have hk2 : k < zs.length := by omega
    simp only [List.getElem?_eq_getElem hk2, Option.getD_some] at hb
    simp only [List.getD_eq_getElem?_getD, List.getElem?_map, List.getElem?_take, if_pos hk, List.getElem?_eq_getElem hk2, Option.map_some, Option.getD_some, UInt8.toNat_ofNat']
    congr 2
    omega
/-- a cell that holds a slice of Bools -/
theorem cell_bools {W : World} {v : Value} {n : Nat} {x : DataW H × List MemPlace} {tS tE : TypeId} (ht : P.underlying tS = some (.slice tE)) (he : P.underlying tE = some .bool) (hc : P.cellsOf tE = 1)
    (hf : DataW.trod enc P W 0 (fun _ => true) true n tS [v] = some x) : ∃ (A : Option Addr) (l : List Bool) (c : Nat), v = .slice A l.length c ∧ RowAt W W.heap.size A (l.map Value.bool) := by
  rcases open_slice1 ht hc hf with ⟨hcs, hx⟩ | ⟨a, len, cap, m, n, V, D, Pl, hcs, _, hl, hm, hmm, hx, hel⟩
  · exact ⟨none, [], 0, by simpa using hcs, RowAt.none_⟩
  · simp only [if_true] at hmm
    subst hmm
    obtain ⟨q, hq⟩ := choose_lt (α := Bool) (p := fun i b => V i = .bool b) (fun i hi => by
      obtain ⟨b, h1, _⟩ := DataW.trod_bool he (hel i hi).2
      exact ⟨b, by simpa using h1⟩)
    have hlen : ((List.range len).map q).length = len := by simp
    refine ⟨some a, (List.range len).map q, m, by rw [hlen]; simpa using hcs, fun hne => ?_⟩
    have hpos : 0 < len := by
      rcases Nat.eq_zero_or_pos len with h0 | h0
      · subst h0; exact absurd rfl hne
      · exact h0
    refine ⟨a, rfl, ?_, fun k u hu => ?_⟩
    · have := cell_lt (hel 0 (by omega)).1
      rwa [Go.Proofs.YtgnfajmjhlnobaaDoor.block_add] at this
    · simp only [List.getElem?_map, Option.map_eq_some_iff] at hu
      obtain ⟨b, ⟨i, hi, rfl⟩, rfl⟩ := hu
      obtain ⟨hk, rfl⟩ : ∃ h : k < len, k = i := by
        rw [List.getElem?_eq_some_iff] at hi
        obtain ⟨h1, h2⟩ := hi
        simp at h1 h2
        exact ⟨h1, h2⟩
      rw [(hel k (by omega)).1, hq k (by omega)]
/-- a slice of saves that came in -/
theorem open_savesAt {W : World} {base : Nat} {v : Value} {d : DataW H} {p : List MemPlace} {tS tE tB tO : TypeId} {f0 f1 f2 f3 : Field} (ht : P.underlying tS = some (.slice tE)) (he : P.underlying tE = some (.struct #[f0, f1, f2, f3])) (hc : P.cellsOf tE = 4)
    (o : f0.offset = 0 ∧ f1.offset = 1 ∧ f2.offset = 2 ∧ f3.offset = 3) (c : P.cellsOf f0.type = 1 ∧ P.cellsOf f1.type = 1 ∧ P.cellsOf f2.type = 1 ∧ P.cellsOf f3.type = 1)
    (u0 : P.underlying f0.type = some (.slice tB)) (uB : P.underlying tB = some (.int .u8)) (cB : P.cellsOf tB = 1) (u1 : P.underlying f1.type = some (.int .i64)) (u2 : P.underlying f2.type = some (.slice tO)) (uO : P.underlying tO = some .bool) (cO : P.cellsOf tO = 1) (u3 : P.underlying f3.type = some (.int .i64))
    (hval : Value.okWide P W .any base tS v) (h : DataW.Trod enc P W 0 (fun _ => true) true tS v d p) :
    ∃ (A : Option Addr) (l : List SaveM) (c : Nat), v = .slice A l.length c ∧ l.length ≤ c ∧ c ≤ maxLen ∧ SavesAt W W.heap.size A l ∧ (A = none → l = [] ∧ c = 0) := by
  obtain ⟨o0, o1, o2, o3⟩ := o
  obtain ⟨c0, c1, c2, c3⟩ := c
  obtain ⟨a1, len, cap, rfl⟩ := okWide_slice ht hval
  obtain ⟨fuel, hf⟩ := h
  rcases open_slice ht hf with ⟨hcs, hx⟩ | ⟨a, len', cap', m, n, D, Pl, hcs, _, hl, hm, hmm, hx, hel⟩
  · simp [Value.cells] at hcs
    obtain ⟨rfl, rfl, rfl⟩ := hcs
    exact ⟨none, [], 0, rfl, Nat.le_refl _, Nat.zero_le _, ⟨fun h => absurd rfl h, by simp, by simp, by simp⟩, fun _ => ⟨rfl, rfl⟩⟩
  · simp [Value.cells] at hcs
    obtain ⟨rfl, rfl, rfl⟩ := hcs
    simp only [if_true] at hmm
    subst hmm
    obtain ⟨q, hq⟩ := choose_lt (α := SaveM) (p := fun i b => (-9223372036854775808 ≤ b.stop ∧ b.stop ≤ 9223372036854775807) ∧ BytesAt W W.heap.size b.A b.b ∧ RowAt W W.heap.size b.AK (b.keeps.map Value.bool) ∧
        ∀ j v, (saveCells b)[j]? = some v → W.cell? ((a.add (i * 4)).add j) = some v) (fun i hi => by
      obtain ⟨cs', h1, h2⟩ := hel i hi
      rw [hc] at h1
      obtain ⟨_, hlen, hcell⟩ := World.cells?_some h1
      obtain ⟨xs, k, _, _, _, hxl, hfs⟩ := DataW.trod_struct he h2
      match xs, hxl, cs', hlen with
      | [y0, y1, y2, y3], _, [v0, v1, v2, v3], _ =>
        have g0 := hfs 0 f0 rfl
        have g1 := hfs 1 f1 rfl
        have g2 := hfs 2 f2 rfl
        have g3 := hfs 3 f3 rfl
        simp [o0, o1, o2, o3, c0, c1, c2, c3] at g0 g1 g2 g3
        obtain ⟨A0, l0, k0, rfl, r0⟩ := cell_bytes u0 uB cB g0
        obtain ⟨z1, e1, _, w1⟩ := DataW.trod_int u1 g1
        obtain ⟨A2, l2, k2, rfl, r2⟩ := cell_bools u2 uO cO g2
        obtain ⟨z3, e3, _, w3⟩ := DataW.trod_int u3 g3
        obtain rfl : v1 = .int .i64 z1 := by simpa using e1
        obtain rfl : v3 = .int .i64 z3 := by simpa using e3
        refine ⟨⟨l0, A0, k0, z1, l2, A2, k2, z3⟩, bounds_i64 w1, r0, r2, fun j v hv => ?_⟩
        have hj : j < 4 := by
          have := (List.getElem?_eq_some_iff.1 hv).1
          simpa [saveCells] using this
        rw [hcell j hj, ← hv]
        rfl)
    have hlen : ((List.range len).map q).length = len := by simp
    have hat : ∀ {k : Nat} {p : SaveM}, ((List.range len).map q)[k]? = some p → k < len ∧ p = q k := fun {k p} hp => by
      rw [List.getElem?_eq_some_iff] at hp
      obtain ⟨h1, h2⟩ := hp
      simp at h1 h2
      exact ⟨h1, h2.symm⟩
    have hmem : ∀ m, m ∈ (List.range len).map q → ∃ k, k < len ∧ m = q k := fun m hm => by
      simp only [List.mem_map, List.mem_range] at hm
      obtain ⟨k, hk, rfl⟩ := hm
      exact ⟨k, hk, rfl⟩
    refine ⟨some a, (List.range len).map q, m, by rw [hlen], by rw [hlen]; exact hl, hm, ⟨fun hne => ?_, fun m hm => ?_, fun m hm => ?_, fun m hm => ?_⟩, (by intro h; cases h)⟩
    · have hpos : 0 < len := by
        rcases Nat.eq_zero_or_pos len with h0 | h0
        · subst h0; exact absurd rfl hne
        · exact h0
      refine ⟨a, rfl, ?_, fun k u hu => ?_⟩
      · have := cell_lt ((hq 0 (by omega)).2.2.2 0 _ rfl)
        rwa [Go.Proofs.YtgnfajmjhlnobaaDoor.block_add, Go.Proofs.YtgnfajmjhlnobaaDoor.block_add] at this
      · obtain ⟨hk, rfl⟩ := hat hu
        exact (hq k (by omega)).2.2.2
    · obtain ⟨k, hk, rfl⟩ := hmem m hm
      exact (hq k (by omega)).2.1
    · obtain ⟨k, hk, rfl⟩ := hmem m hm
      exact (hq k (by omega)).2.2.1
    · obtain ⟨k, hk, rfl⟩ := hmem m hm
      exact (hq k (by omega)).1
end
end Go.Proofs.YtgnfajmjhlnobaaDoor
