/-
  A slice of writes (structs of a number, a byte and a Bool), and a slice of Bools, that came in. Conditions: none.
-/
import Derived.Test.YtmkibkafccgmgaaShell
import Derived.Test.YtmkibkafccgmgaaDiskPuts
import Derived.Deep.Strs
namespace Go.Proofs.Ytmkibkafccgmgaa
open Go.ChangeShapes Go.WideShapes Go.ChangeAt Go.RowKit Go.Deep
instance : Inhabited PutV := ⟨⟨0, 0, false⟩⟩
section
variable {H : Type} {enc : TypeId × Value → H} {P : Program}
/-- a slice of Bools that came in -/
theorem open_boolsAt {W : World} {base : Nat} {v : Value} {d : DataW H} {p : List MemPlace} {tS tE : TypeId} (ht : P.underlying tS = some (.slice tE)) (he : P.underlying tE = some .bool) (hc : P.cellsOf tE = 1)
    (hval : Value.okWide P W .any base tS v) (h : DataW.Trod enc P W 0 (fun _ => true) true tS v d p) :
    ∃ (A : Option Addr) (l : List Bool) (c : Nat), v = .slice A l.length c ∧ l.length ≤ c ∧ c ≤ maxLen ∧ RowAt W W.heap.size A (l.map Value.bool) ∧ (A = none → l = [] ∧ c = 0) := by
  obtain ⟨a1, len, cap, rfl⟩ := okWide_slice ht hval
  obtain ⟨fuel, hf⟩ := h
  rcases open_slice1 ht hc hf with ⟨hcs, hx⟩ | ⟨a, len', cap', m, n, V, D, Pl, hcs, _, hl, hm, hmm, hx, hel⟩
  · simp [Value.cells] at hcs
    obtain ⟨rfl, rfl, rfl⟩ := hcs
    exact ⟨none, [], 0, rfl, Nat.le_refl _, Nat.zero_le _, RowAt.none_, fun _ => ⟨rfl, rfl⟩⟩
  · simp [Value.cells] at hcs
    obtain ⟨rfl, rfl, rfl⟩ := hcs
    simp only [if_true] at hmm
    subst hmm
    obtain ⟨q, hq⟩ := choose_lt (α := Bool) (p := fun i b => V i = .bool b) (fun i hi => by
      obtain ⟨b, h1, _⟩ := DataW.trod_bool he (hel i hi).2
      exact ⟨b, by simpa using h1⟩)
    have hlen : ((List.range len).map q).length = len := by simp
    refine ⟨some a, (List.range len).map q, m, by rw [hlen], by rw [hlen]; exact hl, hm, fun hne => ?_, by intro h; cases h⟩
    have hpos : 0 < len := by
      rcases Nat.eq_zero_or_pos len with h0 | h0
      · subst h0; exact absurd rfl hne
      · exact h0
    refine ⟨a, rfl, ?_, fun k u hu => ?_⟩
    · have := cell_lt (hel 0 (by omega)).1
      rwa [Go.Proofs.Ytmkibkafccgmgaa.block_add] at this
    · simp only [List.getElem?_map, Option.map_eq_some_iff] at hu
      obtain ⟨b, ⟨i, hi, rfl⟩, rfl⟩ := hu
      obtain ⟨hk, rfl⟩ : ∃ h : k < len, k = i := by
        rw [List.getElem?_eq_some_iff] at hi
        obtain ⟨h1, h2⟩ := hi
        simp at h1 h2
        exact ⟨h1, h2⟩
      rw [(hel k (by omega)).1, hq k (by omega)]

/-- a slice of writes that came in -/
theorem open_putsAt {W : World} {base : Nat} {v : Value} {d : DataW H} {p : List MemPlace} {tS tE : TypeId} {f0 f1 f2 : Field} (ht : P.underlying tS = some (.slice tE)) (he : P.underlying tE = some (.struct #[f0, f1, f2])) (hc : P.cellsOf tE = 3)
    (o0 : f0.offset = 0) (o1 : f1.offset = 1) (o2 : f2.offset = 2) (c0 : P.cellsOf f0.type = 1) (c1 : P.cellsOf f1.type = 1) (c2 : P.cellsOf f2.type = 1)
    (u0 : P.underlying f0.type = some (.int .i64)) (u1 : P.underlying f1.type = some (.int .u8)) (u2 : P.underlying f2.type = some .bool)
    (hval : Value.okWide P W .any base tS v) (h : DataW.Trod enc P W 0 (fun _ => true) true tS v d p) :
    ∃ (A : Option Addr) (l : List PutV) (c : Nat), v = .slice A l.length c ∧ l.length ≤ c ∧ c ≤ maxLen ∧ PutsAt W W.heap.size A l ∧ (A = none → l = [] ∧ c = 0) ∧
      (∀ p ∈ l, -9223372036854775808 ≤ p.sector ∧ p.sector ≤ 9223372036854775807) := by
  obtain ⟨a1, len, cap, rfl⟩ := okWide_slice ht hval
  obtain ⟨fuel, hf⟩ := h
  rcases open_slice ht hf with ⟨hcs, hx⟩ | ⟨a, len', cap', m, n, D, Pl, hcs, _, hl, hm, hmm, hx, hel⟩
  · simp [Value.cells] at hcs
    obtain ⟨rfl, rfl, rfl⟩ := hcs
    exact ⟨none, [], 0, rfl, Nat.le_refl _, Nat.zero_le _, fun h => absurd rfl h, fun _ => ⟨rfl, rfl⟩, by simp⟩
  · simp [Value.cells] at hcs
    obtain ⟨rfl, rfl, rfl⟩ := hcs
    simp only [if_true] at hmm
    subst hmm
    obtain ⟨q, hq⟩ := choose_lt (α := PutV) (p := fun i b => (-9223372036854775808 ≤ b.sector ∧ b.sector ≤ 9223372036854775807) ∧ W.cell? (a.add (i * 3)) = some (.int .i64 b.sector) ∧
        W.cell? ((a.add (i * 3)).add 1) = some (.int .u8 (b.byte.toNat : Int)) ∧ W.cell? ((a.add (i * 3)).add 2) = some (.bool b.flush)) (fun i hi => by
      obtain ⟨cs', h1, h2⟩ := hel i hi
      rw [hc] at h1
      obtain ⟨_, hlen, hcell⟩ := World.cells?_some h1
      obtain ⟨y0, y1, y2, n', _, _, g0, g1, g2⟩ := trod_struct3 he h2
      match cs', hlen with
      | [v0, v1, v2], _ =>
        simp [o0, o1, o2, c0, c1, c2] at g0 g1 g2
        obtain ⟨z0, e0, _, w0⟩ := DataW.trod_int u0 g0
        obtain ⟨z1, e1, _, w1⟩ := DataW.trod_int u1 g1
        obtain ⟨z2, e2, _⟩ := DataW.trod_bool u2 g2
        obtain rfl : v0 = .int .i64 z0 := by simpa using e0
        obtain rfl : v1 = .int .u8 z1 := by simpa using e1
        obtain rfl : v2 = .bool z2 := by simpa using e2
        have b1 := bounds_u8 w1
        have k0 := hcell 0 (by omega)
        rw [show (a.add (i * 3)).add 0 = a.add (i * 3) from by simp [Addr.add]] at k0
        refine ⟨⟨z0, UInt8.ofNat z1.toNat, z2⟩, bounds_i64 w0, by simpa using k0, ?_, by simpa using hcell 2 (by omega)⟩
        rw [hcell 1 (by omega)]
        simp only [UInt8.toNat_ofNat', List.getElem?_cons_succ, List.getElem?_cons_zero]
        congr 2
        omega)
    have hlen : ((List.range len).map q).length = len := by simp
    have hat : ∀ {k : Nat} {p : PutV}, ((List.range len).map q)[k]? = some p → k < len ∧ p = q k := fun {k p} hp => by
      rw [List.getElem?_eq_some_iff] at hp
      obtain ⟨h1, h2⟩ := hp
      simp at h1 h2
      exact ⟨h1, h2.symm⟩
    refine ⟨some a, (List.range len).map q, m, by rw [hlen], by rw [hlen]; exact hl, hm, fun hne => ?_, (by intro h; cases h), fun p hp => ?_⟩
    · have hpos : 0 < len := by
        rcases Nat.eq_zero_or_pos len with h0 | h0
        · subst h0; exact absurd rfl hne
        · exact h0
      refine ⟨a, rfl, ?_, fun k u hu => ?_⟩
      · have := cell_lt (hq 0 (by omega)).2.1
        rwa [Go.Proofs.Ytmkibkafccgmgaa.block_add] at this
      · obtain ⟨hk, rfl⟩ := hat hu
        exact (hq k (by omega)).2
    · simp only [List.mem_map, List.mem_range] at hp
      obtain ⟨k, hk, rfl⟩ := hp
      exact (hq k (by omega)).1
end
end Go.Proofs.Ytmkibkafccgmgaa
