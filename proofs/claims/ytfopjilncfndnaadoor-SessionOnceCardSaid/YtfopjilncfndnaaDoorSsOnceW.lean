/-
  Two sessions that send to each other: what stands between two moves; plain mathematics. Conditions: none.
-/
import Derived.Test.YtfopjilncfndnaaDoorSsOnceM
namespace Go.Proofs.YtfopjilncfndnaaDoor
open Fix

namespace On
open Ss
/-- the boots of both -/
def bo (i : Nat) : Nat := if i = 0 then 1 else 5
theorem bo_pos (i : Nat) : 1 ≤ bo i := by unfold bo; split <;> omega
theorem bo_le (i : Nat) : bo i ≤ 5 := by unfold bo; split <;> omega
/-- f, at i turned to x -/
def upf {α : Type} (f : Nat → α) (i : Nat) (x : α) : Nat → α := fun j => if j = i then x else f j
theorem upf_at {α : Type} (f : Nat → α) (i : Nat) (x : α) : upf f i x i = x := if_pos rfl
theorem upf_ne {α : Type} (f : Nat → α) {i j : Nat} (x : α) (h : j ≠ i) : upf f i x j = f j := if_neg h
/-- session i: T j is what j sent, D j what of it the other one was told -/
structure Side (T : Nat → List (List UInt8)) (D : Nat → Nat → Bool) (i j : Nat) (s : S) : Prop where
  boot : s.boot = bo i
  sends : Sends (T i) (D i) s
  hears : Hears (bo j) (T j).length (D j) s.o
/-- a datagram on its way, from i to j -/
def Goes (T : Nat → List (List UInt8)) (D : Nat → Nat → Bool) (i j : Nat) (d : Ss.D) : Prop := Way (bo i) (bo j) (T j).length (T i) (D j) d
theorem Hears.grow {x n n2 : Nat} {D : Nat → Bool} {k : K} (h : Hears x n D k) (hn : n ≤ n2) : Hears x n2 D k :=
  ⟨h.toKnows.grow hn fun _ e => e, h.all, fun m e => ⟨(h.le m e).1, Nat.le_trans (h.le m e).2 hn⟩⟩
section
variable {T : Nat → List (List UInt8)} {D : Nat → Nat → Bool} {i j : Nat} {s : S} {d : Ss.D}
/-- i sends p -/
theorem Side.send (h : Side T D i j s) (hij : j ≠ i) (p : List UInt8) : Side (upf T i (T i ++ [p])) D i j (s.send p) := by
  refine ⟨h.boot, ?_, ?_⟩
  · rw [upf_at]; exact h.sends.send p
  · rw [upf_ne _ _ hij]; exact h.hears
theorem Side.sent (h : Side T D j i s) (hij : j ≠ i) (p : List UInt8) : Side (upf T i (T i ++ [p])) D j i s := by
  refine ⟨h.boot, ?_, ?_⟩
  · rw [upf_ne _ _ hij]; exact h.sends
  · rw [upf_at]; exact h.hears.grow (by simp)
theorem get_push {l : List (List UInt8)} {p : List UInt8} (k : Nat) (q : List UInt8) (h : l[k]? = some q) : (l ++ [p])[k]? = some q := by
  rw [List.getElem?_append_left (List.getElem?_eq_some_iff.1 h).1]; exact h
theorem Goes.sent (h : Goes T D i j d) (hij : j ≠ i) (p : List UInt8) : Goes (upf T i (T i ++ [p])) D i j d := by
  unfold Goes at h ⊢
  rw [upf_at, upf_ne _ _ hij]
  exact h.grow (Nat.le_refl _) get_push fun _ e => e
theorem Goes.sentO (h : Goes T D j i d) (hij : j ≠ i) (p : List UInt8) : Goes (upf T i (T i ++ [p])) D j i d := by
  unfold Goes at h ⊢
  rw [upf_at, upf_ne _ _ hij]
  exact h.grow (by simp) (fun _ _ e => e) fun _ e => e
/-- what i tells: a payload that waits, an Ack -/
theorem Side.dat (h : Side T D i j s) (m : Nat × List UInt8) (hm : m ∈ s.wait) : Goes T D i j (s.dat m) := ⟨h.boot, .inr (h.sends.wait m hm).2, h.hears.toKnows⟩
theorem Side.ack (h : Side T D i j s) : Goes T D i j (s.dat (0, [])) := ⟨h.boot, .inl rfl, h.hears.toKnows⟩
theorem Side.datS (h : Side T D i j s) (hij : j ≠ i) (p : List UInt8) : Goes (upf T i (T i ++ [p])) D i j ((s.send p).dat (s.sent + 1, p)) := by
  refine ⟨h.boot, .inr ?_, ?_⟩
  · show (upf T i (T i ++ [p]) i)[s.sent + 1 - 1]? = some p
    rw [upf_at, h.sends.sent]
    simp
  · show Knows (bo j) (upf T i (T i ++ [p]) j).length (D j) s.o
    rw [upf_ne _ _ hij]
    exact h.hears.toKnows
/-- what i is told of j -/
def told (D : Nat → Nat → Bool) (j : Nat) (s : S) (d : Ss.D) : Nat → Nat → Bool := if s.news d = true then upf D j (tell (D j) d.num) else D
theorem told_le {s : S} {d : Ss.D} {k m : Nat} (h : D k m = true) : told D j s d k m = true := by
  unfold told
  split
  · unfold upf
    split
    · rename_i e; subst e; exact tell_le h
    · exact h
  · exact h
/-- d, of j, comes to i -/
theorem Side.recv (h : Side T D i j s) (hij : j ≠ i) (hd : Goes T D j i d) : (s.news d = true → 1 ≤ d.num ∧ d.num ≤ (T j).length ∧ D j d.num = false ∧ (T j)[d.num - 1]? = some d.pay) ∧ Side T (told D j s d) i j (s.recv d) ∧
    (1 ≤ d.num → (s.recv d).o.boot = bo j ∧ (s.recv d).o.has d.num = true) := by
  obtain ⟨h1, h2, h3⟩ := Hears.recv rfl h.hears hd.boot hd.num
  refine ⟨h1, ⟨?_, ?_, ?_⟩, h3⟩
  · rw [← h.boot]
    unfold S.recv S.told
    split <;> split <;> first | rfl | (split <;> rfl)
  · have hk := hd.says
    have hs := Sends.told (d := d) h.sends (by rw [h.boot]; exact hk)
    have e : told D j s d i = D i := by
      unfold told
      split
      · exact upf_ne _ _ fun e => hij e.symm
      · rfl
    rw [e]
    have ew : (s.recv d).sent = (s.told d).sent ∧ (s.recv d).wait = (s.told d).wait := by
      unfold S.recv
      split
      · exact ⟨rfl, rfl⟩
      · split <;> exact ⟨rfl, rfl⟩
    exact ⟨by rw [ew.1]; exact hs.sent, by rw [ew.2]; exact hs.wait, by rw [ew.2]; exact hs.rise, by rw [ew.2]; exact hs.many, by rw [ew.2]; exact hs.last⟩
  · have e : told D j s d j = if s.news d = true then tell (D j) d.num else D j := by
      unfold told
      split
      · exact upf_at ..
      · rfl
    rw [e]
    exact h2
theorem Side.more {D2 : Nat → Nat → Bool} (h : Side T D j i s) (hi : D2 i = D i) (hj : ∀ m, D j m = true → D2 j m = true) : Side T D2 j i s :=
  ⟨h.boot, h.sends.more hj, by rw [hi]; exact h.hears⟩
theorem Goes.more {D2 : Nat → Nat → Bool} (h : Goes T D i j d) (hj : ∀ m, D j m = true → D2 j m = true) : Goes T D2 i j d := Way.grow h (Nat.le_refl _) (fun _ _ e => e) hj
theorem told_i (hij : j ≠ i) {s : S} {d : Ss.D} : told D j s d i = D i := by
  unfold told
  split
  · exact upf_ne _ _ fun e => hij e.symm
  · rfl
end
theorem new_side (i j : Nat) : Side (fun _ => []) (fun _ _ => false) i j (Ss.new (bo i)) := by
  refine ⟨rfl, ⟨rfl, (fun m hm => by cases hm), trivial, Nat.zero_le _, fun m h1 h2 => by simp at h2; omega⟩, ⟨⟨Nat.zero_le _, fun _ => rfl, ?_, fun m _ h2 _ => ?_⟩, (fun m _ e => by cases e), (fun m e => by cases e)⟩⟩
  · unfold ken; split <;> exact Nat.zero_le _
  · have := bo_pos j
    have : (0 : Nat) = bo j := h2
    omega
end On
end Go.Proofs.YtfopjilncfndnaaDoor
