/-
  A row of calls that a script's statement owns; tandemlaw05.Long of it. Conditions: none.
-/
import Derived.Test.YtcahpodmcklnbaaGreatDoorHaMid
import Derived.Laws.AppendOwn
namespace Go.Proofs.YtcahpodmcklnbaaGreatDoor
open Go.RowKit Fix

theorem flat_len {α : Type} (f : α → List Value) (hf : ∀ x, (f x).length = 6) : ∀ l : List α, (l.flatMap f).length = l.length * 6
  | [] => rfl
  | a :: l => by rw [List.flatMap_cons, List.length_append, hf, flat_len f hf l, List.length_cons, Nat.add_mul]; omega
theorem flat_at {α : Type} (f : α → List Value) (hf : ∀ x, (f x).length = 6) : ∀ (l : List α) (k : Nat) (x : α), l[k]? = some x → ∀ j v, (f x)[j]? = some v → (l.flatMap f)[k * 6 + j]? = some v
  | [], k, x, h, j, v, hv => by simp at h
  | a :: l, 0, x, h, j, v, hv => by
    have e : a = x := by simpa using h
    subst e
    have hj := (List.getElem?_eq_some_iff.1 hv).1
    rw [List.flatMap_cons, Nat.zero_mul, Nat.zero_add, List.getElem?_append_left hj]
    exact hv
  | a :: l, k + 1, x, h, j, v, hv => by
    have h' : l[k]? = some x := by simpa using h
    have := flat_at f hf l k x h' j v hv
    rw [List.flatMap_cons, List.getElem?_append_right (by rw [hf]; omega), hf, show (k + 1) * 6 + j - 6 = k * 6 + j by omega]
    exact this
theorem flat_succ {α : Type} (f : α → List Value) {l : List α} {k : Nat} {x : α} (h : l[k]? = some x) : (l.take (k + 1)).flatMap f = (l.take k).flatMap f ++ f x := by
  rw [List.take_add_one, h, Option.toList_some, List.flatMap_append]
  simp
set_option maxRecDepth 100000 in
theorem actInfo : ∃ i z, Tryz.prog.info? 35 = some i ∧ i.zero = some z ∧ i.size = 6 ∧ i.bytes = 80 ∧ z.cells.size = 6 := ⟨_, _, rfl, rfl, by kernel_rfl, by kernel_rfl, by kernel_rfl⟩
/-- a row that the call owns, as calls -/
theorem owns_run {w : World} {base : Nat} {v : Value} {hs : List HaM} (h : w.ownsRow base 35 6 v hs.length (hs.flatMap haCells)) : ∃ A c, v = .slice A hs.length c ∧ RunAt w 6 0 A hs := by
  rcases h.2 with ⟨rfl, h0⟩ | ⟨g, cap, cur, rfl, _⟩
  · have e : hs = [] := List.eq_nil_of_length_eq_zero h0
    subst e
    exact ⟨none, 0, rfl, fun hne => absurd rfl hne⟩
  · refine ⟨some ⟨g, 0, none⟩, cap, rfl, fun _ => ⟨⟨g, 0, none⟩, rfl, fun k m hm j u hu => ?_⟩⟩
    have := h.cells (g := g) rfl (k * 6 + j) u (flat_at haCells haCells_len hs k m hm j u hu)
    rw [Nat.zero_add]
    have e : ((⟨g, 0, none⟩ : Addr).add (k * 6)).add j = (⟨g, 0, none⟩ : Addr).add (k * 6 + j) := by
      unfold Addr.add
      by_cases a : k * 6 = 0
      · by_cases b : j = 0
        · simp [a, b]
        · simp [a, b]
      · by_cases b : j = 0
        · simp [a, b]
        · have : ¬ k * 6 + j = 0 := by omega
          rw [if_neg a, if_neg b, if_neg this]
          simp
    rw [e]
    exact this
theorem owns_run_k {w : World} {base k : Nat} {v : Value} {hs : List HaM} (hk : hs.length = k) (h : w.ownsRow base 35 6 v k (hs.flatMap haCells)) : ∃ A c, v = .slice A k c ∧ RunAt w 6 0 A hs := by
  subst hk
  exact owns_run h
theorem haLong_k (w : World) (A0 : Option Addr) (ms : List HaM) (k c0 : Nat) (hk : ms.length = k) (h : RunAt w 6 0 A0 ms) (hm : k ≤ 9223372036854775807) : Calls Tryz.prog 7 #[.slice A0 k c0] w (HaLongPost ms w) := by
  subst hk
  exact haLong_any w A0 ms c0 h hm
theorem BlkR.add_cell {E : TypeId} {w : World} {g : Nat} {xs : List Value} (h : BlkR E w g xs) {j : Nat} {u : Value} (hu : xs[j]? = some u) : w.cell? ((⟨g, 0, none⟩ : Addr).add j) = some u := by
  have := h.cell hu
  unfold Addr.add
  by_cases a : j = 0
  · subst a; simpa using this
  · rw [if_neg a]; simpa using this
end Go.Proofs.YtcahpodmcklnbaaGreatDoor
