/-
  Clocks whose ticks come in another order: plain mathematics. Conditions: none.
-/
import Derived.Test.YtfopjilncfndnaaCkRuns
namespace Go.Proofs.Ytfopjilncfndnaa.Ck

def tot : List T3 → T3
  | [] => ⟨0, 0, 0⟩
  | b :: r => b.plus (tot r)
theorem plus_zero (x : T3) : x.plus ⟨0, 0, 0⟩ = x := by simp [T3.plus]
theorem plus_assoc (x y z : T3) : (x.plus y).plus z = x.plus (y.plus z) := by simp [T3.plus, Int.add_assoc]
theorem plus_comm (x y : T3) : x.plus y = y.plus x := by simp [T3.plus, Int.add_comm]
theorem tot_append : ∀ a b : List T3, tot (a ++ b) = (tot a).plus (tot b)
  | [], b => by rw [List.nil_append]; show _ = T3.plus ⟨0, 0, 0⟩ _; rw [plus_comm, plus_zero]
  | x :: a, b => by rw [List.cons_append]; show x.plus (tot (a ++ b)) = (x.plus (tot a)).plus (tot b); rw [tot_append a b, plus_assoc]
theorem tot_one (b : T3) : tot [b] = b := plus_zero b
theorem tot_reverse : ∀ a : List T3, tot a.reverse = tot a
  | [] => rfl
  | x :: a => by rw [List.reverse_cons, tot_append, tot_reverse a, tot_one, plus_comm]; rfl
def Pos (b : T3) : Prop := 0 ≤ b.a ∧ 0 ≤ b.b ∧ 0 ≤ b.c
theorem tot_pos : ∀ a : List T3, (∀ q ∈ a, Pos q) → Pos (tot a)
  | [], _ => ⟨Int.le_refl _, Int.le_refl _, Int.le_refl _⟩
  | x :: a, h => by
    have h1 := h x (List.mem_cons_self ..)
    have h2 := tot_pos a fun q hq => h q (List.mem_cons_of_mem _ hq)
    unfold Pos at h1 h2 ⊢
    show 0 ≤ x.a + (tot a).a ∧ 0 ≤ x.b + (tot a).b ∧ 0 ≤ x.c + (tot a).c
    omega
/-- s: clocks that showed t at first, behind the ticks Q, all of them OK -/
structure Sm (t : T3) (s : S) (Q : List T3) : Prop where
  t_ : s.t = t.plus (tot Q)
  k : s.kept = Q.all fun b => decide (Btw 90 110 b)
  n : s.n = Q.length
  pos : ∀ q ∈ Q, Pos q
theorem Sm.new_ (t : T3) : Sm t (new t) [] := ⟨(plus_zero t).symm, rfl, rfl, fun q h => by cases h⟩
theorem pos_of {s : S} {b : T3} (h : s.tickE b = 0) : Pos b := by
  obtain ⟨h1, _⟩ := tickE_0.1 h
  unfold Ck.Neg at h1
  unfold Pos
  omega
theorem Sm.tick {t b : T3} {s : S} {Q : List T3} (h : Sm t s Q) (he : s.tickE b = 0) : Sm t (s.tick b) (Q ++ [b]) := by
  have hp := pos_of he
  unfold S.tick
  rw [if_pos he]
  refine ⟨?_, ?_, ?_, fun q hq => ?_⟩
  · show s.t.plus b = _
    rw [tot_append, tot_one, ← plus_assoc, ← h.t_]
  · show (s.kept && _) = _
    rw [List.all_append, ← h.k]
    simp
  · show s.n + 1 = _
    rw [List.length_append, h.n]; rfl
  · rcases List.mem_append.1 hq with hq | hq
    · exact h.pos q hq
    · rw [List.mem_singleton.1 hq]; exact hp
theorem Sm.rev {t r : T3} {s s' : S} {Q : List T3} {j : Nat} (h : Sm t s Q) (ho : s.Ok) (h' : Sm t s' (Q.reverse.take j)) (hr : Q.reverse[j]? = some r) : s'.tickE r = 0 := by
  have e1 : Q.reverse = Q.reverse.take j ++ r :: Q.reverse.drop (j + 1) := by
    conv => lhs; rw [← List.take_append_drop j Q.reverse]
    rw [List.drop_eq_getElem_cons (List.getElem?_eq_some_iff.1 hr).1, (List.getElem?_eq_some_iff.1 hr).2]
  have e2 : tot Q = (tot (Q.reverse.take j)).plus (r.plus (tot (Q.reverse.drop (j + 1)))) := by
    rw [← tot_reverse Q]
    conv => lhs; rw [e1]
    rw [tot_append]; rfl
  have hp := h.pos r (List.mem_reverse.1 (List.mem_of_getElem? hr))
  have hd := tot_pos (Q.reverse.drop (j + 1)) fun q hq => h.pos q (List.mem_reverse.1 (List.mem_of_mem_drop hq))
  have e3 := h.t_
  rw [e2] at e3
  have e4 := h'.t_
  unfold S.Ok Btw at ho
  rw [e3] at ho
  obtain ⟨a, b, c⟩ := r
  generalize tot (Q.reverse.take j) = u at e4 ho
  generalize tot (Q.reverse.drop (j + 1)) = v at hd ho
  obtain ⟨u0, u1, u2⟩ := u
  obtain ⟨v0, v1, v2⟩ := v
  obtain ⟨t0, t1, t2⟩ := t
  unfold Pos at hp hd
  dsimp only [T3.plus] at ho hp hd e4
  refine tickE_0.2 ⟨?_, ?_⟩
  · unfold Ck.Neg
    dsimp only
    omega
  · unfold Full
    rw [e4]
    dsimp only
    omega
theorem Sm.same {t : T3} {s s' : S} {Q : List T3} (h : Sm t s Q) (h' : Sm t s' Q.reverse) : s' = s := by
  obtain ⟨a, k, n⟩ := s
  obtain ⟨a', k', n'⟩ := s'
  have h1 := h.t_; have h2 := h.k; have h3 := h.n
  have h4 := h'.t_; have h5 := h'.k; have h6 := h'.n
  dsimp only at h1 h2 h3 h4 h5 h6
  rw [tot_reverse] at h4
  rw [List.all_reverse] at h5
  rw [List.length_reverse] at h6
  rw [h1, h2, h3, h4, h5, h6]
end Go.Proofs.Ytfopjilncfndnaa.Ck
