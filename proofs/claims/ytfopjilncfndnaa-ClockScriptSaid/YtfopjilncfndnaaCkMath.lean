/-
  Clocks by the document: plain mathematics. Conditions: none.
-/
import Derived.Test.YtfopjilncfndnaaTkMem
namespace Go.Proofs.Ytfopjilncfndnaa
def T3.plus (x y : T3) : T3 := ⟨x.a + y.a, x.b + y.b, x.c + y.c⟩
end Go.Proofs.Ytfopjilncfndnaa
namespace Go.Proofs.Ytfopjilncfndnaa.Ck

/-- all three between -/
def Btw (lo hi : Int) (t : T3) : Prop := (lo ≤ t.a ∧ t.a ≤ hi) ∧ (lo ≤ t.b ∧ t.b ≤ hi) ∧ (lo ≤ t.c ∧ t.c ≤ hi)
instance (lo hi : Int) (t : T3) : Decidable (Btw lo hi t) := by unfold Btw; infer_instance
/-- what clocks show; whether all ticks kept the bound; how many there were -/
structure S where
  t : T3
  kept : Bool
  n : Nat
def M : Int := 1099511627776
def S.Ok (s : S) : Prop := Btw 0 M s.t
def new (t : T3) : S := ⟨t, true, 0⟩
def newE (t : T3) : Int := if Btw 0 M t then 0 else 5
/-- one part is below 0 -/
def Neg (b : T3) : Prop := b.a < 0 ∨ b.b < 0 ∨ b.c < 0
instance (b : T3) : Decidable (Neg b) := by unfold Neg; infer_instance
/-- one clock would show too much -/
def Full (s : S) (b : T3) : Prop := M - s.t.a < b.a ∨ M - s.t.b < b.b ∨ M - s.t.c < b.c
instance (s : S) (b : T3) : Decidable (Full s b) := by unfold Full; infer_instance
def S.tickE (s : S) (b : T3) : Int := if Neg b then 5 else if Full s b then 8 else 0
def S.go (s : S) (b : T3) : S := ⟨s.t.plus b, s.kept && decide (Btw 90 110 b), s.n + 1⟩
def S.tick (s : S) (b : T3) : S := if s.tickE b = 0 then s.go b else s
def S.now (s : S) (k : Int) : Int := if k = 0 then s.t.a else if k = 1 then s.t.b else if k = 2 then s.t.c else 0
theorem tickE_0 {s : S} {b : T3} : s.tickE b = 0 ↔ ¬ Neg b ∧ ¬ Full s b := by
  unfold S.tickE
  split
  · simp [*]
  · split <;> simp [*]
theorem tickE_cases (s : S) (b : T3) : s.tickE b = 5 ∨ s.tickE b = 8 ∨ s.tickE b = 0 := by
  unfold S.tickE
  split
  · exact .inl rfl
  · split
    · exact .inr (.inl rfl)
    · exact .inr (.inr rfl)
theorem newE_0 {t : T3} : newE t = 0 ↔ Btw 0 M t := by
  unfold newE
  split <;> simp [*]
theorem S.tick_ok {s : S} {b : T3} (h : s.Ok) : (s.tick b).Ok := by
  unfold S.tick
  split
  · rename_i e
    obtain ⟨h1, h2⟩ := tickE_0.1 e
    unfold Neg at h1
    unfold Full at h2
    unfold S.Ok Btw at h ⊢
    dsimp only [S.go, T3.plus]
    omega
  · exact h
theorem S.tick_n (s : S) (b : T3) : (s.tick b).n ≤ s.n + 1 := by
  unfold S.tick
  split
  · exact Nat.le_refl _
  · exact Nat.le_succ _
theorem S.now_le {s : S} (h : s.Ok) (k : Int) : 0 ≤ s.now k ∧ s.now k ≤ M := by
  unfold S.Ok Btw at h
  unfold S.now
  have : (0 : Int) ≤ M := by decide
  split
  · omega
  · split
    · omega
    · split <;> omega
end Go.Proofs.Ytfopjilncfndnaa.Ck
