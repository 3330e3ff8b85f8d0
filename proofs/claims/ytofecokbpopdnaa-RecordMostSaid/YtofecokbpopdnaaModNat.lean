/-
  Numbers modulo c, as Go tells them. Conditions: none.
-/
import Derived.Test.YtofecokbpopdnaaBa
import Derived.IntWalk
namespace Go.Proofs.Ytofecokbpopdnaa

theorem lt3 {k : Nat} (h : k < 3) : k = 0 ∨ k = 1 ∨ k = 2 := by omega
theorem lt2 {k : Nat} (h : k < 2) : k = 0 ∨ k = 1 := by omega
/-- an act's node, modulo 2 -/
theorem and_one (x : Int) : ∃ n : Nat, n < 2 ∧ bits .and .i64 x 1 = (n : Int) := by
  refine ⟨(BitVec.ofInt 64 x &&& BitVec.ofInt 64 1).toNat, ?_, ?_⟩
  · rw [BitVec.toNat_and]
    exact Nat.lt_of_le_of_lt Nat.and_le_right (by decide)
  · show IntKind.i64.wrap ((BitVec.ofInt 64 x &&& BitVec.ofInt 64 1).toNat : Int) = _
    refine IntWalk.i64_in _ ?_
    have : (BitVec.ofInt 64 x &&& BitVec.ofInt 64 1).toNat ≤ 1 := by
      rw [BitVec.toNat_and]
      exact Nat.le_trans Nat.and_le_right (by decide)
    omega
/-- a number, modulo c, from 0 on -/
theorem mod_nat (x : Int) (c : Nat) (d : Int) (hd : d = (c : Int)) (hc : 0 < c) (hm : c ≤ 1000000) : ∃ n : Nat, n < c ∧ IntKind.i64.wrap (x.tmod d + d) = x.tmod d + d ∧ (x.tmod d + d).tmod d = (n : Int) := by
  subst hd
  have h1 := Int.lt_tmod_of_pos x (b := (c : Int)) (by omega)
  have h2 := Int.tmod_lt_of_pos x (b := (c : Int)) (by omega)
  refine ⟨((x.tmod c + c).tmod c).toNat, ?_, IntWalk.i64_in _ (by omega), ?_⟩
  · have := Int.tmod_lt_of_pos (x.tmod c + c) (b := (c : Int)) (by omega)
    omega
  · rw [Int.tmod_eq_emod_of_nonneg (by omega)]
    have := Int.emod_nonneg (x.tmod c + c) (b := (c : Int)) (by omega)
    omega
end Go.Proofs.Ytofecokbpopdnaa
