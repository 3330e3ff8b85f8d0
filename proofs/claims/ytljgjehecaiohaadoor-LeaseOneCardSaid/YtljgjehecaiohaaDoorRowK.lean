/-
  Slices of structs of k cells each, of the program's own: laid flat; append, a cut, clear. Conditions: none.
-/
import Derived.Test.YtljgjehecaiohaaDoorBa
import Derived.Maps.AppendAt
import Derived.Deep.RegionLaw
import Derived.Lib.SliceRun
namespace Go.Proofs.YtljgjehecaiohaaDoor
open Go.RowKit

section
variable {α : Type} {f : α → List Value} {k : Nat}
theorem flk_len (hf : ∀ x, (f x).length = k) : ∀ l : List α, (l.flatMap f).length = l.length * k
  | [] => by simp
  | a :: l => by rw [List.flatMap_cons, List.length_append, hf, flk_len hf l, List.length_cons, Nat.add_mul]; omega
theorem flk_at (hf : ∀ x, (f x).length = k) : ∀ (l : List α) (i : Nat) (x : α), l[i]? = some x → ∀ j v, (f x)[j]? = some v → (l.flatMap f)[i * k + j]? = some v
  | [], i, x, h, j, v, hv => by simp at h
  | a :: l, 0, x, h, j, v, hv => by
    have e : a = x := by simpa using h
    subst e
    have hj := (List.getElem?_eq_some_iff.1 hv).1
    rw [List.flatMap_cons, Nat.zero_mul, Nat.zero_add, List.getElem?_append_left hj]
    exact hv
  | a :: l, i + 1, x, h, j, v, hv => by
    have h' : l[i]? = some x := by simpa using h
    have := flk_at hf l i x h' j v hv
    rw [List.flatMap_cons, List.getElem?_append_right (by rw [hf, Nat.add_mul]; omega), hf, show (i + 1) * k + j - k = i * k + j by rw [Nat.add_mul]; omega]
    exact this
theorem flk_take (hf : ∀ x, (f x).length = k) : ∀ (l : List α) (i : Nat), (l.flatMap f).take (i * k) = (l.take i).flatMap f
  | [], i => by simp
  | a :: l, 0 => by simp
  | a :: l, i + 1 => by
    rw [List.flatMap_cons, List.take_succ_cons, List.flatMap_cons, Nat.add_mul, Nat.one_mul, List.take_append, hf, show i * k + k - k = i * k by omega, flk_take hf l i, List.take_of_length_le (by rw [hf]; omega)]
theorem flk_drop (hf : ∀ x, (f x).length = k) : ∀ (l : List α) (i : Nat), (l.flatMap f).drop (i * k) = (l.drop i).flatMap f
  | [], i => by simp
  | a :: l, 0 => by simp
  | a :: l, i + 1 => by
    rw [List.flatMap_cons, List.drop_succ_cons, Nat.add_mul, Nat.one_mul, List.drop_append, hf, show i * k + k - k = i * k by omega, flk_drop hf l i, List.drop_eq_nil_of_le (by rw [hf]; omega), List.nil_append]
theorem flk_one {P : Value → Prop} (h : ∀ x, ∀ v ∈ f x, P v) (l : List α) : ∀ v ∈ l.flatMap f, P v := by
  intro v hv
  obtain ⟨x, _, hx⟩ := List.mem_flatMap.1 hv
  exact h x v hx
end
/-- a slice type whose elements are k cells -/
structure ElemK (P : Program) (T E : TypeId) (z : List Value) (k bytes : Nat) : Prop where
  under : P.underlying T = some (.slice E)
  info : ∃ i z0, P.info? E = some i ∧ i.zero = some z0 ∧ i.size = k ∧ i.bytes = bytes ∧ z0.cells = z.toArray
  len : z.length = k
  pos : 0 < k
  one : ∀ v ∈ z, v.oneCell' = true
/-- v is a slice of the program's own, of elements of k cells, that holds just the cells xs -/
def OwnK (E : TypeId) (k : Nat) (w : World) (base : Nat) (v : Value) (n : Nat) (xs : List Value) : Prop := w.ownsRow base E k v n xs
section
variable {P : Program} {T E : TypeId} {z xs ys : List Value} {k bytes n m base : Nat} {w w' : World} {v : Value}
theorem OwnK.form (h : OwnK E k w base v n xs) : ∃ A c, v = .slice A n c ∧ n ≤ c ∧ c ≤ maxLen ∧ (A = none → n = 0 ∧ c = 0) ∧ ∀ ad, A = some ad → ∃ g, ad = ⟨g, 0, none⟩ ∧ base ≤ g ∧ g < w.heap.size := by
  rcases h.2 with ⟨rfl, h0⟩ | ⟨g, cap, cur, rfl, hb, hg, hc, hm, _⟩
  · exact ⟨none, 0, by rw [h0], by omega, by unfold maxLen; omega, fun _ => ⟨h0, rfl⟩, (fun ad e => by cases e)⟩
  · refine ⟨_, cap, rfl, hc, hm, (fun e => by cases e), fun ad e => ?_⟩
    cases e
    exact ⟨g, rfl, hb, (Array.getElem?_eq_some_iff.1 hg).1⟩
theorem OwnK.frame (h : OwnK E k w base v n xs) (hb : ∀ j, v.ownBlock = some j → w'.heap[j]? = w.heap[j]?) : OwnK E k w' base v n xs := by
  refine ⟨h.1, ?_⟩
  rcases h.2 with h2 | ⟨g, cap, cur, e, hg, hgg, rest⟩
  · exact .inl h2
  · exact .inr ⟨g, cap, cur, e, hg, (hb g (by rw [e]; rfl)).trans hgg, rest⟩
theorem OwnK.lt (h : OwnK E k w base v n xs) : ∀ j, v.ownBlock = some j → base ≤ j ∧ j < w.heap.size := World.ownsRow.lt h
theorem OwnK.less (h : OwnK E k w base v n xs) {b : Nat} (hb : b ≤ base) : OwnK E k w b v n xs := by
  obtain ⟨h1, h2⟩ := h
  refine ⟨h1, ?_⟩
  rcases h2 with h2 | ⟨g, cap, cur, e, hg, r⟩
  · exact .inl h2
  · exact .inr ⟨g, cap, cur, e, by omega, r⟩
theorem OwnK.nil_ : OwnK E k w base (.slice none 0 0) 0 [] := World.ownsRow_nil _ _ _ _
theorem OwnK.len (h : OwnK E k w base v n xs) : xs.length = n * k := h.1
theorem OwnK.cell {A : Option Addr} {c g : Nat} (h : OwnK E k w base (.slice A n c) n xs) (hg : A = some ⟨g, 0, none⟩) {j : Nat} {u : Value} (hu : xs[j]? = some u) : w.cell? ⟨g, j, none⟩ = some u := by
  subst hg
  have := World.ownsRow.cells h (g := g) rfl j u hu
  rwa [addr_zero_add] at this
theorem OwnK.at_g {A : Option Addr} {c : Nat} (h : OwnK E k w base (.slice A n c) n xs) (hpos : 0 < n) : ∃ g, A = some ⟨g, 0, none⟩ ∧ base ≤ g ∧ g < w.heap.size := by
  rcases h.2 with ⟨_, h0⟩ | ⟨g, cap, cur, hv, hb, hg, _⟩
  · omega
  · injection hv with h1 h2 h3
    exact ⟨g, h1, hb, (Array.getElem?_eq_some_iff.1 hg).1⟩
/-- append: elements that lie somewhere -/
theorem run_appendK (el : ElemK P T E z k bytes) (hown : OwnK E k w base v n xs) (ad : Addr) (c : Nat) (hm : ys.length = m * k) (hr : ∀ j u, ys[j]? = some u → w.cell? (ad.add j) = some u) (h1 : ∀ u ∈ ys, u.oneCell' = true)
    (hmax : n + m ≤ maxLen) (hsz : (n + m) * bytes ≤ 140737488355328) (hbase : base ≤ w.heap.size) (ty : TypeId) :
    ∃ v' w', (Builtin.append_ #[T, T] ty #[v, .slice (some ad) m c]).run P w = .ok v' w' ∧ OwnK E k w' base v' (n + m) (xs ++ ys) ∧ w.grownBy w' v.ownBlock ∧ (v'.ownBlock = v.ownBlock ∨ v'.ownBlock = some w.heap.size) := by
  obtain ⟨i, z0, i1, i2, i3, i4, i5⟩ := el.info
  obtain ⟨v', w', hrun, g1, g2, _, g4⟩ := run_append_own_at (P := P) w base T ty E i z0 k bytes el.under i1 i2 i3 i4 (by rw [i5, List.size_toArray]; exact el.len) el.pos v n xs hown ad m c ys hm hr h1 hmax hsz hbase
  exact ⟨v', w', hrun, g1, g2, g4⟩
theorem wpList_appendK {ops : Array Oper} {rest : List Oper} {o : Oper} {a : Act} {Q : Exit → Act → World → Prop} (hgd : o.guard = none) (s x : Operand) (el : ElemK P T E z k bytes)
    (ho : o.op = .call { callee := .builtin .append, args := #[s, x], argTypes := #[T, T] }) (v : Value) (n : Nat) (xs ys : List Value) (m base : Nat) (hs : a.eval s = v) (hown : OwnK E k w base v n xs) (ad : Addr) (c : Nat) (hx : a.eval x = .slice (some ad) m c)
    (hm : ys.length = m * k) (hr : ∀ j u, ys[j]? = some u → w.cell? (ad.add j) = some u) (h1 : ∀ u ∈ ys, u.oneCell' = true) (hmax : n + m ≤ maxLen) (hsz : (n + m) * bytes ≤ 140737488355328) (hbase : base ≤ w.heap.size)
    (h : ∀ v' w', OwnK E k w' base v' (n + m) (xs ++ ys) → w.grownBy w' v.ownBlock → (v'.ownBlock = v.ownBlock ∨ v'.ownBlock = some w.heap.size) → wpList P ops Q rest (a.put o.dst v') w') : wpList P ops Q (o :: rest) a w := by
  obtain ⟨v', w', hrun, g1, g2, g3⟩ := run_appendK el hown ad c hm hr h1 hmax hsz hbase o.type
  exact wpList_append_runR hgd s x T ho hs hx hrun (h v' w' g1 g2 g3)
/-- clear of a slice's elements -/
theorem run_clearK (w : World) (t e ty : TypeId) (z : Value) (zs : List Value) (ht : P.underlying t = some (.slice e)) (hv : ∀ w, (zeroValue e).run P w = .ok z w) (b o n c : Nat) (hn : 0 < n) (hz : (Builtin.zeroCells z.cells n).toList = zs) (h1 : ∀ v ∈ zs, v.oneCell' = true)
    (hc : ∀ j, j < zs.length → (w.cell? ⟨b, o + j, none⟩).isSome = true) (hf : ∀ j, j < zs.length → w.frozen? ⟨b, o + j, none⟩ = false) :
    (Builtin.clear_ #[t] ty #[.slice (some ⟨b, o, none⟩) n c]).run P w = .ok (.tuple #[]) (w.setCells b o zs) := by
  have hst := run_storeCells_cells (P := P) b o zs 0 w (by simpa using hc) (by simpa using hf) h1
  simp only [Nat.add_zero] at hst
  obtain ⟨m, rfl⟩ : ∃ m, n = m + 1 := ⟨n - 1, by omega⟩
  simp [Builtin.clear_, run_underlying ht, hv, hz, hst]
/-- an own row's cells are stored over, from element i on -/
theorem OwnK.cells_ {A : Option Addr} {c : Nat} (h : OwnK E k w base (.slice A n c) n xs) (hpos : 0 < n) : ∃ g cur, A = some ⟨g, 0, none⟩ ∧ base ≤ g ∧ g < w.heap.size ∧ n ≤ c ∧ c ≤ maxLen ∧ BlkR E w g cur ∧ cur.length = c * k ∧ cur.take (n * k) = xs := by
  rcases h.2 with ⟨_, h0⟩ | ⟨g, cap, cur, hv, hb, hg, hnc, hcm, hs, ht⟩
  · omega
  · injection hv with h1 h2 h3
    subst h3
    exact ⟨g, cur.toList, h1, hb, (Array.getElem?_eq_some_iff.1 hg).1, hnc, hcm, by unfold BlkR; simpa using hg, by rw [Array.length_toList, hs], ht⟩
theorem OwnK.of_blk {g c : Nat} {cur : List Value} (hb : BlkR E w g cur) (hg : base ≤ g) (hn : n ≤ c) (hc : c ≤ maxLen) (hl : cur.length = c * k) (ht : cur.take (n * k) = xs) : OwnK E k w base (.slice (some ⟨g, 0, none⟩) n c) n xs := by
  refine ⟨?_, .inr ⟨g, c, cur.toArray, rfl, hg, hb, hn, hc, by rw [List.size_toArray, hl], by simpa using ht⟩⟩
  rw [← ht, List.length_take, hl]
  exact Nat.min_eq_left (Nat.mul_le_mul_right _ hn)
end
end Go.Proofs.YtljgjehecaiohaaDoor
