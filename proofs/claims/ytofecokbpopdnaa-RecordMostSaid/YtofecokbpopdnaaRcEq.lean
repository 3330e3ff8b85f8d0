/-
  Two records, compared; a record in a block of its own, and calls beside it; the laws' of and awake. Conditions: none.
-/
import Derived.Test.YtofecokbpopdnaaRcRef2
import Derived.Laws.StructEq
import Derived.Deep.RegionHeld3
namespace Go.Proofs.Ytofecokbpopdnaa
open Go.RowKit Rc

def eqR (a b : R) : Bool := (a.t == b.t) && ((a.n == b.n) && (a.s == b.s))
theorem eqR_iff (a b : R) : eqR a b = true ↔ a = b := by
  obtain ⟨a1, a2, a3⟩ := a
  obtain ⟨b1, b2, b3⟩ := b
  simp [eqR]
set_option maxRecDepth 100000 in
theorem eq_rec (a b s c d u : Int) (w : World) : (binOp .eql 23 (.agg #[.int .i64 a, .int .i64 b, .int .i64 s]) (.agg #[.int .i64 c, .int .i64 d, .int .i64 u])).run Try.prog w = .ok (.bool (eqR ⟨a, b, s⟩ ⟨c, d, u⟩)) w := by
  obtain ⟨f0, f1, f2, hu, t0, t1, t2, n0, n1, n2, o0, o1, o2⟩ : ∃ f0 f1 f2 : Field, Try.prog.underlying 23 = some (.struct #[f0, f1, f2]) ∧ f0.type = 3 ∧ f1.type = 3 ∧ f2.type = 3 ∧ f0.name ≠ "_" ∧ f1.name ≠ "_" ∧ f2.name ≠ "_" ∧ f0.offset = 0 ∧ f1.offset = 1 ∧ f2.offset = 2 := ⟨_, _, _, Try.underlying23, rfl, rfl, rfl, by decide, by decide, by decide, rfl, rfl, rfl⟩
  have hf : Try.prog.fieldsOf 23 = #[f0, f1, f2] := by simp [Program.fieldsOf, hu]
  have hu : Try.prog.underlying 23 = some (.struct (Try.prog.fieldsOf 23)) := by rw [hf]; exact hu
  rw [run_eql_struct, run_equalIn_struct w 9999 _ _ _ hu (by kernel_rfl), hf]
  have p : ∀ (z : List Value) (k : Nat) (v : Int), z[k]? = some (.int .i64 v) → ∀ w, (part 3 z.toArray k).run Try.prog w = .ok (.int .i64 v) w := fun z k v h w => by
    simp [part, isAgg, run_underlying Try.underlying3, h]
  have q : ∀ (u v : Int) w, (Op.equalIn 9999 3 (.int .i64 u) (.int .i64 v)).run Try.prog w = .ok (u == v) w := fun u v w => run_equalIn_int w 9998 _ .i64 .i64 u v Try.underlying3
  have p0 := p [.int .i64 a, .int .i64 b, .int .i64 s] 0 a rfl
  have p1 := p [.int .i64 a, .int .i64 b, .int .i64 s] 1 b rfl
  have p2 := p [.int .i64 a, .int .i64 b, .int .i64 s] 2 s rfl
  have q0 := p [.int .i64 c, .int .i64 d, .int .i64 u] 0 c rfl
  have q1 := p [.int .i64 c, .int .i64 d, .int .i64 u] 1 d rfl
  have q2 := p [.int .i64 c, .int .i64 d, .int .i64 u] 2 u rfl
  by_cases h0 : a = c
  · by_cases h1 : b = d
    · by_cases h2 : s = u
      · subst h0; subst h1; subst h2
        simp [Op.eqFields, p0, p1, p2, q, eqR, t0, t1, t2, o0, o1, o2]
      · subst h0; subst h1
        simp [Op.eqFields, p0, p1, p2, q0, q1, q2, q, eqR, t0, t1, t2, o0, o1, o2, n0, n1, n2, h2]
    · subst h0
      simp [Op.eqFields, p0, p1, q0, q1, q, eqR, t0, t1, t2, o0, o1, o2, n0, n1, h1]
  · simp [Op.eqFields, p0, q0, q, eqR, t0, t1, t2, o0, o1, o2, n0, h0]
end Go.Proofs.Ytofecokbpopdnaa
