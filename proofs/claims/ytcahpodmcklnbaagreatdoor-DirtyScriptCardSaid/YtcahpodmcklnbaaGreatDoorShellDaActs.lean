/-
  A slice of calls of a script of maps of dirty blocks that came in. Conditions: none.
-/
import Derived.Test.YtcahpodmcklnbaaGreatDoorShellHa
import Derived.Test.YtcahpodmcklnbaaGreatDoorDaActs
import Derived.Deep.Strs
namespace Go.Proofs.YtcahpodmcklnbaaGreatDoor
open Go.ChangeShapes Go.WideShapes Go.ChangeAt Go.RowKit Go.Deep
instance : Inhabited DaM := ⟨⟨default, 0⟩⟩
section
variable {H : Type} {enc : TypeId × Value → H} {P : Program}
/-- a slice of calls that came in -/
theorem open_dactsAt {W : World} {base : Nat} {v : Value} {d : DataW H} {p : List MemPlace} {tS tE tB tO : TypeId} {fx fm f0 f1 f2 f3 f4 f5 : Field} (ht : P.underlying tS = some (.slice tE)) (he : P.underlying tE = some (.struct #[fx, fm])) (hc : P.cellsOf tE = 7)
    (oo : fx.offset = 0 ∧ fm.offset = 6) (cc : P.cellsOf fx.type = 6 ∧ P.cellsOf fm.type = 1)
    (hx : P.underlying fx.type = some (.struct #[f0, f1, f2, f3, f4, f5]))
    (o : f0.offset = 0 ∧ f1.offset = 1 ∧ f2.offset = 2 ∧ f3.offset = 3 ∧ f4.offset = 4 ∧ f5.offset = 5) (c : P.cellsOf f0.type = 1 ∧ P.cellsOf f1.type = 1 ∧ P.cellsOf f2.type = 1 ∧ P.cellsOf f3.type = 1 ∧ P.cellsOf f4.type = 1 ∧ P.cellsOf f5.type = 1)
    (u0 : P.underlying f0.type = some (.int .i64)) (u1 : P.underlying f1.type = some (.int .i64)) (u2 : P.underlying f2.type = some (.int .i64)) (u3 : P.underlying f3.type = some (.int .u8)) (u4 : P.underlying f4.type = some (.slice tB)) (uB : P.underlying tB = some (.int .u8)) (cB : P.cellsOf tB = 1)
    (u5 : P.underlying f5.type = some (.slice tO)) (uO : P.underlying tO = some .bool) (cO : P.cellsOf tO = 1)
    (um : P.underlying fm.type = some (.int .u64))
    (hval : Value.okWide P W .any base tS v) (h : DataW.Trod enc P W 0 (fun _ => true) true tS v d p) :
    ∃ (A : Option Addr) (l : List DaM) (c : Nat), v = .slice A l.length c ∧ l.length ≤ c ∧ c ≤ maxLen ∧ DasAt W W.heap.size A l ∧ (A = none → l = [] ∧ c = 0) := by
  obtain ⟨o0, o1⟩ := oo
  obtain ⟨c0, c1⟩ := cc
  obtain ⟨a1, len, cap, rfl⟩ := okWide_slice ht hval
  obtain ⟨fuel, hf⟩ := h
  rcases open_slice ht hf with ⟨hcs, hx⟩ | ⟨a, len', cap', m, n, D, Pl, hcs, _, hl, hm, hmm, hx2, hel⟩
  · simp [Value.cells] at hcs
    obtain ⟨rfl, rfl, rfl⟩ := hcs
    exact ⟨none, [], 0, rfl, Nat.le_refl _, Nat.zero_le _, ⟨fun h => absurd rfl h, by simp, by simp⟩, fun _ => ⟨rfl, rfl⟩⟩
  · simp [Value.cells] at hcs
    obtain ⟨rfl, rfl, rfl⟩ := hcs
    simp only [if_true] at hmm
    subst hmm
    obtain ⟨q, hq⟩ := choose_lt (α := DaM) (p := fun i b => HaIn W W.heap.size b.h ∧ b.v < 2 ^ 64 ∧ ∀ j v, (daCells b)[j]? = some v → W.cell? ((a.add (i * 7)).add j) = some v) (fun i hi => by
      obtain ⟨cs', h1, h2⟩ := hel i hi
      rw [hc] at h1
      obtain ⟨_, hlen, hcell⟩ := World.cells?_some h1
      obtain ⟨xs, k, _, _, _, hxl, hfs⟩ := DataW.trod_struct he h2
      match xs, hxl, cs', hlen with
      | [y0, y1], _, [v0, v1, v2, v3, v4, v5, v6], _ =>
        have t0 := hfs 0 fx rfl
        have t1 := hfs 1 fm rfl
        simp [o0, o1, c0, c1] at t0 t1
        obtain ⟨hm, eh, hin⟩ := trod_ha hx o c u0 u1 u2 u3 u4 uB cB u5 uO cO (by rfl) t0
        obtain ⟨z, em, _, wz⟩ := DataW.trod_int um t1
        have bz := bounds_u64 wz
        obtain ⟨u, rfl⟩ : ∃ u : Nat, z = (u : Int) := ⟨z.toNat, by omega⟩
        simp only [haCells, List.cons.injEq, and_true] at eh
        obtain rfl : v6 = .int .u64 (u : Int) := by simpa using em
        obtain ⟨rfl, rfl, rfl, rfl, rfl, rfl⟩ := eh
        refine ⟨⟨hm, u⟩, hin, by show u < 2 ^ 64; omega, fun j v hv => ?_⟩
        have hj : j < 7 := by
          have := (List.getElem?_eq_some_iff.1 hv).1
          simpa [daCells] using this
        rw [hcell j hj, ← hv]
        rfl)
    have hlen : ((List.range len).map q).length = len := by simp
    have hat : ∀ {k : Nat} {p : DaM}, ((List.range len).map q)[k]? = some p → k < len ∧ p = q k := fun {k p} hp => by
      rw [List.getElem?_eq_some_iff] at hp
      obtain ⟨h1, h2⟩ := hp
      simp at h1 h2
      exact ⟨h1, h2.symm⟩
    refine ⟨some a, (List.range len).map q, m, by rw [hlen], by rw [hlen]; exact hl, hm, ⟨fun hne => ?_, fun m hm => ?_, fun m hm => ?_⟩, (by intro h; cases h)⟩
    · have hpos : 0 < len := by
        rcases Nat.eq_zero_or_pos len with h0 | h0
        · subst h0; exact absurd rfl hne
        · exact h0
      refine ⟨a, rfl, ?_, fun k u hu => ?_⟩
      · have := cell_lt ((hq 0 (by omega)).2.2 0 _ rfl)
        rwa [Go.Proofs.YtcahpodmcklnbaaGreatDoor.block_add, Go.Proofs.YtcahpodmcklnbaaGreatDoor.block_add] at this
      · obtain ⟨hk, rfl⟩ := hat hu
        exact (hq k (by omega)).2.2
    · simp only [List.mem_map, List.mem_range] at hm
      obtain ⟨k, hk, rfl⟩ := hm
      exact (hq k (by omega)).1
    · simp only [List.mem_map, List.mem_range] at hm
      obtain ⟨k, hk, rfl⟩ := hm
      exact (hq k (by omega)).2.1
end
end Go.Proofs.YtcahpodmcklnbaaGreatDoor
