/-
  Append of noughts. Conditions: none.
-/
import Derived.Test.YtmbloclkinghnaaDoorKitCopy
import Derived.Lib.AppendZerosOnto
namespace Go.Proofs.YtmbloclkinghnaaDoor
open Go.RowKit

theorem run_zerosB {w : World} {base n cap : Nat} {A : Option Addr} {l : List UInt8} (hown : OwnB w base (.slice A n cap) l) (h0 : 0 < l.length) (k : Nat) (hk : 0 < k) (hsz : l.length + k ≤ 1000000) (hbase : base ≤ w.heap.size) (ty : TypeId) :
    ∃ v' w', (Builtin.append_ #[22, 3] ty #[.slice A n cap, .int .i64 (k : Int)]).run Tryd.prog w = .ok v' w' ∧ OwnB w' base v' (l ++ List.replicate k 0) ∧ Below base w w' := by
  obtain ⟨i, h1, h2, h3, h4⟩ := infoU8
  rcases hown.2 with ⟨_, hl⟩ | ⟨g, cap', cur, hv, hbg, hg, hnc, hcm, hcs, htake⟩
  · omega
  · injection hv with e1 e2 e3
    subst e1; subst e2; subst e3
    have hz : (Builtin.zeroCells (Value.int .u8 0).cells k) = (List.replicate k (Value.int .u8 0)).toArray := by
      apply Array.toList_inj.1
      simp [Builtin.zeroCells, Value.cells, Nat.mod_one, List.map_const']
    have hcz : cellsOfBytes (l ++ List.replicate k 0) = cellsOfBytes l ++ List.replicate k (Value.int .u8 0) := by simp [cellsOfBytes]
    by_cases hroom : l.length + k ≤ cap
    · have hw : IntKind.i64.wrap (k : Int) = k := by rw [IntKind.wrap_i64]; omega
      have hneg : ¬ ((k : Int) < 0) := by omega
      have hb1 : ¬ (281474976710656 < (k : Int) * (i.bytes : Int)) := by rw [h4]; omega
      have hst := run_storeCells_at Tryd.prog g l.length 5 (List.replicate k (Value.int .u8 0)) 0 cur w hg (by simp [hcs]; omega) (fun v hv => by rw [List.eq_of_mem_replicate hv]; rfl)
      simp only [Nat.add_zero] at hst
      have hk0 : k ≠ 0 := by omega
      have hrun : (Builtin.append_ #[22, 3] ty #[.slice (some ⟨g, 0, none⟩) l.length cap, .int .i64 (k : Int)]).run Tryd.prog w = .ok (.slice (some ⟨g, 0, none⟩) (l.length + k) cap) (w.setRow g (cur.toList.take l.length ++ List.replicate k (Value.int .u8 0) ++ cur.toList.drop (l.length + (List.replicate k (Value.int .u8 0)).length)).toArray) := by
        simp [Builtin.append_, run_underlying Tryd.underlying22, run_underlying Tryd.underlying3, sizeOf, typeInfo, zeroValue, h1, h2, h3, asInt, asIntOf, hw, hneg, hb1, hk0, hroom, hz, Addr.add_lit, hst]
      refine ⟨_, _, hrun, ⟨by rw [cellsOfBytes_length]; simp, .inr ⟨g, cap, _, by rw [List.length_append, List.length_replicate], hbg, setRow_heap w g cur _ _ _ hg, by rw [List.length_append, List.length_replicate]; exact hroom, hcm, ?_, ?_⟩⟩, below_setRow (Below.refl _ _) hbg _⟩
      · simp; omega
      · rw [hcz, ← htake]
        simp only [Nat.mul_one]
        exact List.take_left' (by simp [hcs]; omega)
    · have hold : (Builtin.firstCells i.size l.length (.slice (some ⟨g, 0, none⟩) l.length cap)).run Tryd.prog w.drew = .ok (cellsOfBytes l).toArray w.drew :=
        run_firstCells_some (P := Tryd.prog) w.drew i.size l.length ⟨g, 0, none⟩ l.length cap (cellsOfBytes l) (by rw [cellsOfBytes_length, h3, Nat.mul_one]) (fun j v hv => World.ownsRow.cells hown (g := g) rfl j v hv)
      have hrun := Lib.run_append_grow_zeros (P := Tryd.prog) w 22 3 ty 5 i (.int .u8 0) .i64 .i64 Tryd.underlying22 Tryd.underlying3 h1 h2 (some ⟨g, 0, none⟩) l.length cap (cellsOfBytes l) hold k hk (by omega) (by omega) (by omega) (by rw [h4]; omega) (growslice_fits (by omega) (by rw [h4]; omega))
      have hge := grownCap_ge w (l.length + k) cap 5
      have hle := grownCap_le_maxLen w (l.length + k) cap 5 (by unfold maxLen; omega)
      refine ⟨_, _, hrun, ⟨by rw [cellsOfBytes_length]; simp, .inr ⟨w.heap.size, _, _, by rw [List.length_append, List.length_replicate], hbase, heap_alloc_new w.drew _, by rw [List.length_append, List.length_replicate]; exact hge, hle, ?_, ?_⟩⟩, (Below.refl base w).drew.alloc hbase _⟩
      · simp [size_zeroCells, cellsOfBytes_length, Value.cells]; omega
      · rw [hcz, hz]
        simp only [Array.toList_append]
        exact List.take_left' (by simp [cellsOfBytes_length])
end Go.Proofs.YtmbloclkinghnaaDoor
