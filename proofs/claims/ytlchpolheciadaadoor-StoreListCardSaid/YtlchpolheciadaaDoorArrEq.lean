/-
  Two arrays of bytes, compared. Conditions: none.
-/
import Derived.Test.YtlchpolheciadaaDoorBa
import Derived.Laws.StructEq
namespace Go.Proofs.YtlchpolheciadaaDoor
open Go.RowKit

theorem run_part_byte (P : Program) (e : TypeId) (he : P.underlying e = some (.int .u8)) (l : List UInt8) (i : Nat) (hi : i < l.length) (w : World) : (part e (cellsOfBytes l).toArray i).run P w = .ok (.int .u8 ((l.getD i 0).toNat : Int)) w := by
  have h := cellsOfBytes_get l i hi
  simp only [part, isAgg, Sem.run_bind, run_underlying he, Result.andThen_ok, Sem.run_pure]
  simp [h]
theorem run_equalIn_arr (P : Program) (w : World) (d : Nat) (t e : TypeId) (n : Nat) (l m : List UInt8) (ht : P.underlying t = some (.array n e)) (he : P.underlying e = some (.int .u8)) (hs : (sizeOf e).run P w = .ok 1 w) (hl : l.length = n) (hm : m.length = n) :
    (Op.equalIn (d + 2) t (.agg (cellsOfBytes l).toArray) (.agg (cellsOfBytes m).toArray)).run P w = .ok (l == m) w := by
  have step : ∀ i, i < n → ∀ w : World, ((do
      let x ← part e (cellsOfBytes l).toArray i
      let y ← part e (cellsOfBytes m).toArray i
      let b ← Op.equalIn (d + 1) e x y
      if (!b) = true then pure (ForInStep.done (some false, ())) else pure (ForInStep.yield (none, ()))) : Sem (ForInStep (Option Bool × Unit))).run P w = .ok (if l.getD i 0 = m.getD i 0 then .yield (none, ()) else .done (some false, ())) w := by
    intro i hi w
    simp only [Sem.run_bind, run_part_byte P e he l i (by omega), run_part_byte P e he m i (by omega), Result.andThen_ok, run_equalIn_int w d e .u8 .u8 _ _ he]
    by_cases h : l.getD i 0 = m.getD i 0
    · rw [if_pos h, h]
      simp
    · rw [if_neg h]
      have : (((l.getD i 0).toNat : Int) == ((m.getD i 0).toNat : Int)) = false := by
        rw [beq_eq_false_iff_ne]
        exact fun x => h (UInt8.toNat_inj.1 (Int.ofNat_inj.1 x))
      rw [this]
      simp
  have loop : ∀ k a, a + k = n → ∀ w : World, (forIn (List.range' a k) (none, ()) fun i (_ : Option Bool × Unit) => (do
      let x ← part e (cellsOfBytes l).toArray i
      let y ← part e (cellsOfBytes m).toArray i
      let b ← Op.equalIn (d + 1) e x y
      if (!b) = true then pure (ForInStep.done (some false, ())) else pure (ForInStep.yield (none, ())) : Sem (ForInStep (Option Bool × Unit)))).run P w = .ok (if l.drop a = m.drop a then (none, ()) else (some false, ())) w := by
    intro k
    induction k with
    | zero =>
      intro a ha w
      rw [List.drop_of_length_le (by omega), List.drop_of_length_le (by omega), if_pos rfl]
      simp
    | succ k ih =>
      intro a ha w
      rw [List.range'_succ, List.forIn_cons, Sem.run_bind, step a (by omega) w, Result.andThen_ok]
      have e1 : l.drop a = l.getD a 0 :: l.drop (a + 1) := by rw [List.drop_eq_getElem_cons (by omega : a < l.length)]; simp [show a < l.length by omega]
      have e2 : m.drop a = m.getD a 0 :: m.drop (a + 1) := by rw [List.drop_eq_getElem_cons (by omega : a < m.length)]; simp [show a < m.length by omega]
      rw [e1, e2]
      by_cases h : l.getD a 0 = m.getD a 0
      · rw [if_pos h]
        show (forIn (List.range' (a + 1) k) (none, ()) _ : Sem _).run P w = _
        rw [ih (a + 1) (by omega) w, h]
        simp
      · rw [if_neg h, if_neg (fun x => h (List.cons.inj x).1)]
        simp
  unfold Op.equalIn
  simp only [Sem.run_bind, run_underlying ht, Result.andThen_ok, hs, Nat.mul_one]
  simp only [Std.Legacy.Range.forIn_eq_forIn_range']
  have h := loop n 0 (Nat.zero_add n) w
  rw [show ([:n] : Std.Legacy.Range).size = n by simp [Std.Legacy.Range.size], h, Result.andThen_ok]
  rw [List.drop_zero, List.drop_zero]
  by_cases hx : l = m
  · rw [if_pos hx, hx]
    simp
  · rw [if_neg hx, beq_eq_false_iff_ne.2 hx]
    simp
end Go.Proofs.YtlchpolheciadaaDoor
