/-
  Torn sectors: plain mathematics; append of noughts. Conditions: none.
-/
import Derived.Test.YtgnfajmjhlnobaaDoorSlBackWalk
import Derived.Test.YtgnfajmjhlnobaaDoorKitCopy
import Derived.Lib.AppendZerosOnto
namespace Go.Proofs.YtgnfajmjhlnobaaDoor
open Go.RowKit Fix

namespace Slot
/-- the number once more -/
def again (b : List UInt8) : Nat := Fix.le ((b.drop 54).take 6)
theorem sect_again (n : Nat) (r : List UInt8) (h : r.length ≤ 40) (hn : n ≤ 1099511627776) : again (sect n r) = n := by
  have l54 : (Fix.dig n 8 ++ (Fix.dig r.length 2 ++ (r ++ List.replicate (44 - r.length) 0))).length = 54 := by
    simp only [List.length_append, Fix.dig_length, List.length_replicate]; omega
  have e : sect n r = (Fix.dig n 8 ++ (Fix.dig r.length 2 ++ (r ++ List.replicate (44 - r.length) 0))) ++ (Fix.dig n 6 ++ Fix.dig (Crc.sum (body n r)) 4) := by
    unfold sect seal_
    conv => lhs; lhs; unfold body
    simp only [List.append_assoc]
  unfold again
  rw [e, List.drop_left' l54, List.take_left' (Fix.dig_length n 6), Fix.le_dig_self n 6 (by omega)]
theorem again_right {b : List UInt8} (h : right b = true) : again b = num b := by
  obtain ⟨_, _, h2, h3, h4⟩ := (right_iff b).1 h
  have e := sect_again (num b) (rec b) (rec_length b h) h2
  rwa [h4] at e
theorem unlike {b : List UInt8} (h : again b ≠ num b) : right b = false := by
  rw [← Bool.not_eq_true]
  exact fun x => h (again_right x)
/-- half of one, and half of another one -/
def torn (a b : List UInt8) : List UInt8 := a.take 32 ++ b.drop 32
theorem torn_length (a b : List UInt8) (ha : a.length = 64) (hb : b.length = 64) : (torn a b).length = 64 := by
  unfold torn; rw [List.length_append, List.length_take, List.length_drop]; omega
theorem torn_num (a b : List UInt8) (ha : a.length = 64) : num (torn a b) = num a := by
  unfold num torn
  rw [List.take_append_of_le_length (by rw [List.length_take]; omega), List.take_take]
  rfl
theorem torn_again (a b : List UInt8) (ha : a.length = 64) : again (torn a b) = again b := by
  unfold again torn
  have l : (a.take 32).length = 32 := by rw [List.length_take]; omega
  rw [List.drop_append, List.drop_of_length_le (by omega), List.nil_append, l, List.drop_drop]
theorem num_nots : num nots = 0 := by decide
theorem again_nots : again nots = 0 := by decide
theorem torn_bad (a b : List UInt8) (ha : a.length = 64) (hb : b.length = 64) (h : num a ≠ again b) (h0 : num a ≠ 0) : readE (torn a b) = 11 ∧ right (torn a b) = false := by
  have hr : right (torn a b) = false := unlike (by rw [torn_num a b ha, torn_again a b ha]; exact h.symm)
  refine ⟨bad_e (torn_length a b ha hb) (fun e => ?_) hr, hr⟩
  have := torn_num a b ha
  rw [e, num_nots] at this
  exact h0 this.symm
end Slot
theorem run_zerosB {w : World} {base n cap : Nat} {A : Option Addr} {l : List UInt8} (hown : OwnB w base (.slice A n cap) l) (h0 : 0 < l.length) (k : Nat) (hk : 0 < k) (hsz : l.length + k ≤ 1000000) (hbase : base ≤ w.heap.size) (ty : TypeId) :
    ∃ v' w', (Builtin.append_ #[22, 3] ty #[.slice A n cap, .int .i64 (k : Int)]).run Tryd.prog w = .ok v' w' ∧ OwnB w' base v' (l ++ List.replicate k 0) ∧ Below base w w' := by
  obtain ⟨i, h1, h2, h3, h4⟩ := infoU8
  rcases hown.2 with ⟨_, hl⟩ | ⟨g, cap', cur, hv, hbg, hg, hnc, hcm, hcs, htake⟩
  · omega
  · injection hv with e1 e2 e3
    subst e1; subst e2; subst e3
    have hz : (Builtin.zeroCells (Value.int .u8 0).cells k) = (List.replicate k (Value.int .u8 0)).toArray := by
      apply Array.toList_inj.1
      simp [Builtin.zeroCells, Value.cells, Nat.mod_one, List.map_const']
    have hcz : cellsOfBytes (l ++ List.replicate k 0) = cellsOfBytes l ++ List.replicate k (Value.int .u8 0) := by simp [cellsOfBytes]
    by_cases hroom : l.length + k ≤ cap
    · have hw : IntKind.i64.wrap (k : Int) = k := by rw [IntKind.wrap_i64]; omega
      have hneg : ¬ ((k : Int) < 0) := by omega
      have hb1 : ¬ (281474976710656 < (k : Int) * (i.bytes : Int)) := by rw [h4]; omega
      have hst := run_storeCells_at Tryd.prog g l.length 5 (List.replicate k (Value.int .u8 0)) 0 cur w hg (by simp [hcs]; omega) (fun v hv => by rw [List.eq_of_mem_replicate hv]; rfl)
      simp only [Nat.add_zero] at hst
      have hk0 : k ≠ 0 := by omega
      have hrun : (Builtin.append_ #[22, 3] ty #[.slice (some ⟨g, 0, none⟩) l.length cap, .int .i64 (k : Int)]).run Tryd.prog w = .ok (.slice (some ⟨g, 0, none⟩) (l.length + k) cap) (w.setRow g (cur.toList.take l.length ++ List.replicate k (Value.int .u8 0) ++ cur.toList.drop (l.length + (List.replicate k (Value.int .u8 0)).length)).toArray) := by
        simp [Builtin.append_, run_underlying Tryd.underlying22, run_underlying Tryd.underlying3, sizeOf, typeInfo, zeroValue, h1, h2, h3, asInt, asIntOf, hw, hneg, hb1, hk0, hroom, hz, Addr.add_lit, hst]
      refine ⟨_, _, hrun, ⟨by rw [cellsOfBytes_length]; simp, .inr ⟨g, cap, _, by rw [List.length_append, List.length_replicate], hbg, setRow_heap w g cur _ _ _ hg, by rw [List.length_append, List.length_replicate]; exact hroom, hcm, ?_, ?_⟩⟩, below_setRow (Below.refl _ _) hbg _⟩
      · simp; omega
      · rw [hcz, ← htake]
        simp only [Nat.mul_one]
        exact List.take_left' (by simp [hcs]; omega)
    · have hold : (Builtin.firstCells i.size l.length (.slice (some ⟨g, 0, none⟩) l.length cap)).run Tryd.prog w.drew = .ok (cellsOfBytes l).toArray w.drew :=
        run_firstCells_some (P := Tryd.prog) w.drew i.size l.length ⟨g, 0, none⟩ l.length cap (cellsOfBytes l) (by rw [cellsOfBytes_length, h3, Nat.mul_one]) (fun j v hv => World.ownsRow.cells hown (g := g) rfl j v hv)
      have hrun := Lib.run_append_grow_zeros (P := Tryd.prog) w 22 3 ty 5 i (.int .u8 0) .i64 .i64 Tryd.underlying22 Tryd.underlying3 h1 h2 (some ⟨g, 0, none⟩) l.length cap (cellsOfBytes l) hold k hk (by omega) (by omega) (by omega) (by rw [h4]; omega) (growslice_fits (by omega) (by rw [h4]; omega))
      have hge := grownCap_ge w (l.length + k) cap 5
      have hle := grownCap_le_maxLen w (l.length + k) cap 5 (by unfold maxLen; omega)
      refine ⟨_, _, hrun, ⟨by rw [cellsOfBytes_length]; simp, .inr ⟨w.heap.size, _, _, by rw [List.length_append, List.length_replicate], hbase, heap_alloc_new w.drew _, by rw [List.length_append, List.length_replicate]; exact hge, hle, ?_, ?_⟩⟩, (Below.refl base w).drew.alloc hbase _⟩
      · simp [size_zeroCells, cellsOfBytes_length, Value.cells]; omega
      · rw [hcz, hz]
        simp only [Array.toList_append]
        exact List.take_left' (by simp [cellsOfBytes_length])
end Go.Proofs.YtgnfajmjhlnobaaDoor
