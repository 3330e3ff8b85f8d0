/-
  Words for memory, whatever the element: a slice that reads as a list of cells; a slice of the call's own; a block known whole. Conditions: none.
-/
import Derived.Test.YtebicjblplkdeaaMem0
import Derived.Laws.CopyOwn
import Derived.Laws.MakeOwn
import Derived.Laws.OwnMore
import Derived.Maps.AppendAt
import Derived.Deep.AppendLies
namespace Go.Proofs.Ytebicjblplkdeaa
open Go.RowKit

/-- the slice at A reads as the cells xs, and lies below block B -/
def RowAt (w : World) (B : Nat) (A : Option Addr) (xs : List Value) : Prop :=
  xs ≠ [] → ∃ ad, A = some ad ∧ ad.block < B ∧ ∀ k v, xs[k]? = some v → w.cell? (ad.add k) = some v
/-- v is a slice of the call's own (of blocks from base on, of elements E) that holds just the cells xs -/
def OwnR (E : TypeId) (w : World) (base : Nat) (v : Value) (xs : List Value) : Prop := w.ownsRow base E 1 v xs.length xs
/-- block g is just the cells xs -/
def BlkR (E : TypeId) (w : World) (g : Nat) (xs : List Value) : Prop := w.heap[g]? = some (.cells xs.toArray E (0, 0))

section
variable {w w' : World} {B B' base g : Nat} {A : Option Addr} {xs ys : List Value} {E : TypeId} {v : Value}
theorem RowAt.none_ : RowAt w B A [] := fun h => absurd rfl h
theorem RowAt.keep (h : RowAt w B A xs) (hk : ∀ p : Addr, p.block < B → w'.cell? p = w.cell? p) : RowAt w' B A xs := fun hl => by
  obtain ⟨ad, e, hb, hc⟩ := h hl
  exact ⟨ad, e, hb, fun k u hu => (hk _ (by rw [block_add]; exact hb)).trans (hc k u hu)⟩
theorem RowAt.below (h : RowAt w B A xs) (hb : Below B w w') : RowAt w' B A xs := h.keep fun _ hp => hb.cell hp
theorem RowAt.belowN (h : RowAt w B A xs) (hb : Below B' w w') (hB : B ≤ B') : RowAt w' B A xs := h.keep fun _ hp => hb.cell (by omega)
theorem RowAt.more (h : RowAt w B A xs) (hB : B ≤ B') : RowAt w B' A xs := fun hl => by
  obtain ⟨ad, e, hb, hc⟩ := h hl
  exact ⟨ad, e, by omega, hc⟩
theorem RowAt.drewN (h : RowAt w B A xs) (n : Nat) : RowAt (w.drewN n) B A xs := h
theorem RowAt.drew (h : RowAt w B A xs) : RowAt w.drew B A xs := h
theorem RowAt.alloc (h : RowAt w B A xs) (hB : B ≤ w.heap.size) (o : Obj) : RowAt (w.alloc o) B A xs := h.belowN ((Below.refl _ _).alloc hB o) (Nat.le_refl _)
theorem RowAt.at_ {k : Nat} {u : Value} (h : RowAt w B A xs) (hu : xs[k]? = some u) : ∃ ad, A = some ad ∧ ad.block < B ∧ w.cell? (ad.add k) = some u := by
  obtain ⟨ad, e, hb, hc⟩ := h (by rintro rfl; simp at hu)
  exact ⟨ad, e, hb, hc k u hu⟩
theorem addr_zero_add (g k : Nat) : (⟨g, 0, none⟩ : Addr).add k = ⟨g, k, none⟩ := by
  by_cases h0 : k = 0 <;> simp [Addr.add, h0]
theorem BlkR.lt (h : BlkR E w g xs) : g < w.heap.size := by
  rcases Nat.lt_or_ge g w.heap.size with hlt | hge
  · exact hlt
  · unfold BlkR at h; rw [Array.getElem?_eq_none hge] at h; cases h
theorem BlkR.cell (h : BlkR E w g xs) {k : Nat} {u : Value} (hu : xs[k]? = some u) : w.cell? ⟨g, k, none⟩ = some u := by
  unfold BlkR at h
  simp only [World.cell?, h, List.getElem?_toArray, hu]
  rfl
theorem BlkR.frozen (h : BlkR E w g xs) (k : Nat) : w.frozen? ⟨g, k, none⟩ = false := by
  unfold BlkR at h
  simp [World.frozen?, h]
theorem BlkR.set_ (h : BlkR E w g xs) (k : Nat) (u : Value) : BlkR E (w.setCell ⟨g, k, none⟩ u) g (xs.set k u) := by
  unfold BlkR at h ⊢
  simp only [World.setCell, Array.getElem?_modify, h]
  simp
theorem BlkR.below (h : BlkR E w g xs) (hb : Below B w w') (hg : g < B) : BlkR E w' g xs := (hb.block g hg).trans h
theorem BlkR.drewN (h : BlkR E w g xs) (n : Nat) : BlkR E (w.drewN n) g xs := h
theorem BlkR.new (w : World) (xs : List Value) (E : TypeId) : BlkR E (w.alloc (.cells xs.toArray E)) w.heap.size xs := heap_alloc_new w _
theorem BlkR.row (h : BlkR E w g xs) (hys : ∃ r, xs = ys ++ r) (hB : g < B) : RowAt w B (some ⟨g, 0, none⟩) ys := fun _ => by
  obtain ⟨r, rfl⟩ := hys
  refine ⟨_, rfl, hB, fun k u hu => ?_⟩
  rw [addr_zero_add]
  exact h.cell (by rw [List.getElem?_append_left (List.getElem?_eq_some_iff.1 hu).1]; exact hu)

theorem OwnR.form (h : OwnR E w base v xs) : ∃ A c, v = .slice A xs.length c ∧ xs.length ≤ c ∧ c ≤ maxLen := by
  rcases h.2 with ⟨rfl, h0⟩ | ⟨g, cap, cur, rfl, _, _, hc, hm, _⟩
  · exact ⟨none, 0, by rw [h0], by omega, by unfold maxLen; omega⟩
  · exact ⟨_, cap, rfl, hc, hm⟩
theorem OwnR.row {n c : Nat} (h : OwnR E w base (.slice A n c) xs) : RowAt w w.heap.size A xs := fun hne => by
  have hpos : 0 < xs.length := List.length_pos_iff.2 hne
  obtain ⟨g, cap, hv, _, hlt⟩ := World.ownsRow.form h hpos
  injection hv with h1 h2 h3
  subst h1
  exact ⟨_, rfl, hlt, World.ownsRow.cells h (g := g) rfl⟩
theorem OwnR.below (h : OwnR E w base v xs) (hb : Below B w w') (hB : w.heap.size ≤ B) : OwnR E w' base v xs :=
  World.ownsRow.kept (row := none) h ⟨hb.os, hb.tape, hb.output, hb.size, fun k hk _ => hb.block k (by omega)⟩ (by
    rcases hv : v.ownBlock with _ | k
    · exact .inl rfl
    · exact .inr (by simp))
theorem OwnR.alloc (h : OwnR E w base v xs) (o : Obj) : OwnR E (w.alloc o) base v xs := World.ownsRow.alloc h o
theorem OwnR.drewN (h : OwnR E w base v xs) (n : Nat) : OwnR E (w.drewN n) base v xs := h
theorem OwnR.lt (h : OwnR E w base v xs) : ∀ k, v.ownBlock = some k → base ≤ k ∧ k < w.heap.size := World.ownsRow.lt h
theorem OwnR.nil_ : OwnR E w base (.slice none 0 0) [] := World.ownsRow_nil _ _ _ _
theorem OwnR.less (h : OwnR E w base v xs) {b : Nat} (hb : b ≤ base) : OwnR E w b v xs := by
  obtain ⟨h1, h2⟩ := h
  refine ⟨h1, ?_⟩
  rcases h2 with h2 | ⟨g, cap, cur, e, hg, r⟩
  · exact .inl h2
  · exact .inr ⟨g, cap, cur, e, by omega, r⟩
end

/-- a slice type whose elements are one cell -/
structure Elem (P : Program) (T E : TypeId) (z : Value) (bytes : Nat) : Prop where
  under : P.underlying T = some (.slice E)
  info : ∃ i, P.info? E = some i ∧ i.zero = some z ∧ i.size = 1 ∧ i.bytes = bytes
  one : z.cells.size = 1
  cells : z.cells = #[z]

section
variable {P : Program} {T E : TypeId} {z : Value} {bytes : Nat} {w w' : World} {B base : Nat} {v : Value} {xs ys : List Value}
theorem run_append_nilR (el : Elem P T E z bytes) (ty : TypeId) (hown : OwnR E w base v xs) (c : Nat) : (Builtin.append_ #[T, T] ty #[v, .slice none 0 c]).run P w = .ok v w := by
  obtain ⟨i, hi, _, _, _⟩ := el.info
  rcases hown.2 with ⟨rfl, h0⟩ | ⟨g, cap, cur, rfl, _, _, hnc, _⟩
  · simp [Builtin.append_, run_underlying el.under, sizeOf, typeInfo, hi, Builtin.lenOf, Builtin.firstCells]
  · simp [Builtin.append_, run_underlying el.under, sizeOf, typeInfo, hi, Builtin.lenOf, Builtin.firstCells, hnc, storeCells]
theorem run_appendR (el : Elem P T E z bytes) (hown : OwnR E w base v xs) {A : Option Addr} {m c : Nat} (hm : ys.length = m) (hr : RowAt w B A ys) (h1 : ∀ u ∈ ys, u.oneCell' = true)
    (hmax : xs.length + ys.length ≤ maxLen) (hsz : (xs.length + ys.length) * bytes ≤ 140737488355328) (hbase : base ≤ w.heap.size) (ty : TypeId) :
    ∃ v' w', (Builtin.append_ #[T, T] ty #[v, .slice A m c]).run P w = .ok v' w' ∧ OwnR E w' base v' (xs ++ ys) ∧ w.grownBy w' v.ownBlock ∧ (v'.ownBlock = v.ownBlock ∨ v'.ownBlock = some w.heap.size) := by
  subst hm
  by_cases hne : ys = []
  · subst hne
    rcases A with _ | ad
    · exact ⟨v, w, run_append_nilR el ty hown c, by simpa using hown, World.grownBy.refl w _, .inl rfl⟩
    · obtain ⟨i, i1, i2, i3, i4⟩ := el.info
      obtain ⟨v', w', hrun, g1, g2, _, g4⟩ := run_append_own_at (P := P) w base T ty E i z 1 bytes el.under i1 i2 i3 i4 el.one (by omega) v xs.length xs hown ad 0 c [] rfl (fun j u h => by cases h) (fun u h => by cases h) (by simpa using hmax) (by simpa using hsz) hbase
      refine ⟨v', w', hrun, ?_, g2, g4⟩
      unfold OwnR
      rw [List.length_append]
      exact g1
  · obtain ⟨ad, rfl, _, hc⟩ := hr hne
    obtain ⟨i, i1, i2, i3, i4⟩ := el.info
    obtain ⟨v', w', hrun, g1, g2, _, g4⟩ := run_append_own_at (P := P) w base T ty E i z 1 bytes el.under i1 i2 i3 i4 el.one (by omega) v xs.length xs hown ad ys.length c ys (by omega) hc h1 hmax hsz hbase
    refine ⟨v', w', hrun, ?_, g2, g4⟩
    unfold OwnR
    rw [List.length_append]
    exact g1

theorem wpList_append_runR {ops : Array Oper} {rest : List Oper} {o : Oper} {a : Act} {Q : Exit → Act → World → Prop} (hgd : o.guard = none) (s x : Operand) (t : TypeId)
    (ho : o.op = .call { callee := .builtin .append, args := #[s, x], argTypes := #[t, t] }) {v u v' : Value} (hs : a.eval s = v) (hx : a.eval x = u)
    (hrun : (Builtin.append_ #[t, t] o.type #[v, u]).run P w = .ok v' w') (h : wpList P ops Q rest (a.put o.dst v') w') : wpList P ops Q (o :: rest) a w := by
  refine wpList_plain hgd fun K hK => ?_
  unfold Oper.wp execOp
  simp only [ho, resolve, invoke, builtin, Sem.run_bind, Sem.run_pure, Result.andThen_ok, List.map_toArray, List.map_cons, List.map_nil, hs, hx, hrun]
  exact hK _ _ h
theorem wpList_appendR {ops : Array Oper} {rest : List Oper} {o : Oper} {a : Act} {Q : Exit → Act → World → Prop} (hgd : o.guard = none) (s x : Operand) (el : Elem P T E z bytes)
    (ho : o.op = .call { callee := .builtin .append, args := #[s, x], argTypes := #[T, T] })
    (base : Nat) (v : Value) (xs : List Value) (hs : a.eval s = v) (hown : OwnR E w base v xs) (A : Option Addr) (ys : List Value) (m c B : Nat) (hx : a.eval x = .slice A m c) (hm : ys.length = m) (hr : RowAt w B A ys)
    (h1 : ∀ u ∈ ys, u.oneCell' = true) (hmax : xs.length + ys.length ≤ maxLen) (hsz : (xs.length + ys.length) * bytes ≤ 140737488355328) (hbase : base ≤ w.heap.size)
    (h : ∀ v' w', OwnR E w' base v' (xs ++ ys) → w.grownBy w' v.ownBlock → (v'.ownBlock = v.ownBlock ∨ v'.ownBlock = some w.heap.size) → wpList P ops Q rest (a.put o.dst v') w') : wpList P ops Q (o :: rest) a w := by
  obtain ⟨v', w', hrun, h2, h3, h4⟩ := run_appendR el hown hm hr h1 hmax hsz hbase o.type
  exact wpList_append_runR hgd s x T ho hs hx hrun (h v' w' h2 h3 h4)
theorem grown_belowR {a : World} (hb : Below B a w) (hg : w.grownBy w' v.ownBlock) (hB : B ≤ w.heap.size) (hown : OwnR E w base v xs) (h : B ≤ base) : Below B a w' :=
  hb.grown hg hB fun k hk => Nat.le_trans h (hown.lt k hk).1

/-- make([]T, l, c) -/
theorem make_row (el : Elem P T E z bytes) (l c : Nat) (hlc : l ≤ c) (hc : bytes * c ≤ 281474976710656) (hm : c ≤ maxLen) (w : World) :
    (Instr.makeSlice T (.int .i64 (l : Int)) (.int .i64 (c : Int))).run P w = .ok (.slice (some ⟨w.heap.size, 0, none⟩) l c) (w.alloc (.cells (List.replicate c z).toArray E)) := by
  obtain ⟨i, h1, h2, h3, h4⟩ := el.info
  unfold maxLen at hm
  have hb : (i.bytes : Int) * (c : Int) ≤ 281474976710656 := by
    rw [h4, ← Int.natCast_mul]
    omega
  have h := run_make (P := P) (w := w) T E i z el.under h1 h2 .i64 .i64 (l : Int) (c : Int) (by omega) (by omega) hb (by omega)
  rw [h3] at h
  simp only [Int.toNat_natCast, Nat.mul_one] at h
  rw [h]
  congr 3
  apply Array.toList_inj.1
  rw [el.cells, toList_madeCells_one]
theorem made_own (w : World) (E : TypeId) (z : Value) (c base : Nat) (hc : c ≤ maxLen) (hb : base ≤ w.heap.size) : OwnR E (w.alloc (.cells (List.replicate c z).toArray E)) base (.slice (some ⟨w.heap.size, 0, none⟩) 0 c) [] :=
  ⟨by simp, .inr ⟨w.heap.size, c, (List.replicate c z).toArray, rfl, hb, heap_alloc_new w _, Nat.zero_le _, hc, by rw [List.size_toArray, List.length_replicate, Nat.mul_one], by rw [List.length_nil, Nat.zero_mul, List.take_zero]⟩⟩
end

/-- stores into a slice of the call's own -/
theorem OwnR.at_g {E : TypeId} {w : World} {base n c : Nat} {A : Option Addr} {xs : List Value} (h : OwnR E w base (.slice A n c) xs) (hpos : 0 < xs.length) : ∃ g, A = some ⟨g, 0, none⟩ ∧ base ≤ g ∧ g < w.heap.size ∧ n = xs.length := by
  rcases h.2 with ⟨_, h0⟩ | ⟨g, cap, cur, hv, hb, hg, _⟩
  · omega
  · injection hv with h1 h2 h3
    refine ⟨g, h1, hb, ?_, h2⟩
    rcases Nat.lt_or_ge g w.heap.size with hlt | hge
    · exact hlt
    · rw [Array.getElem?_eq_none hge] at hg; cases hg
theorem OwnR.cell {E : TypeId} {w : World} {base n c g : Nat} {xs : List Value} (h : OwnR E w base (.slice (some ⟨g, 0, none⟩) n c) xs) {k : Nat} {u : Value} (hu : xs[k]? = some u) : w.cell? ⟨g, k, none⟩ = some u := by
  have := World.ownsRow.cells h (g := g) rfl k u hu
  rwa [addr_zero_add] at this
theorem OwnR.frozen {E : TypeId} {w : World} {base n c g : Nat} {xs : List Value} (h : OwnR E w base (.slice (some ⟨g, 0, none⟩) n c) xs) (k : Nat) : w.frozen? ⟨g, k, none⟩ = false := by
  rcases h.2 with ⟨hv, _⟩ | ⟨g', cap, cur, hv, hb, hg, _⟩
  · cases hv
  · injection hv with h1
    injection h1 with h1
    injection h1 with h1
    subst h1
    simp [World.frozen?, hg]
theorem OwnR.store {E : TypeId} {w : World} {base n c g : Nat} {xs : List Value} (h : OwnR E w base (.slice (some ⟨g, 0, none⟩) n c) xs) (k : Nat) (u : Value) : OwnR E (w.setCell ⟨g, k, none⟩ u) base (.slice (some ⟨g, 0, none⟩) n c) (xs.set k u) := by
  refine ⟨by rw [List.length_set, Nat.mul_one], .inr ?_⟩
  rcases h.2 with ⟨hv, _⟩ | ⟨g', cap, cur, hv, hb, hg, hnc, hm, hsz, ht⟩
  · cases hv
  · injection hv with h1 h2 h3
    injection h1 with h1
    injection h1 with h1
    subst h1; subst h2; subst h3
    refine ⟨g, c, cur.setIfInBounds k u, by rw [List.length_set], hb, ?_, by rw [List.length_set]; exact hnc, hm, by rw [Array.size_setIfInBounds]; exact hsz, ?_⟩
    · simp only [World.setCell, Array.getElem?_modify, hg]
      simp
    · rw [List.length_set, Array.toList_setIfInBounds, List.take_set, ht]
theorem OwnR.far {E : TypeId} {w : World} {base : Nat} {v : Value} {xs : List Value} (h : OwnR E w base v xs) {p : Addr} (hp : p.block < base) (u : Value) : OwnR E (w.setCell p u) base v xs := by
  refine ⟨h.1, ?_⟩
  rcases h.2 with h0 | ⟨g, cap, cur, hv, hb, hg, r⟩
  · exact .inl h0
  · refine .inr ⟨g, cap, cur, hv, hb, ?_, r⟩
    exact (Below.heap_setCell w p u g (by omega)).trans hg

/-- numbers as cells -/
def iv (l : List Int) : List Value := l.map (Value.int .i64)
theorem iv_length (l : List Int) : (iv l).length = l.length := by simp [iv]
theorem iv_append (a b : List Int) : iv (a ++ b) = iv a ++ iv b := by simp [iv]
theorem iv_get (l : List Int) (k : Nat) (h : k < l.length) : (iv l)[k]? = some (.int .i64 (l.getD k 0)) := by simp [iv, h]
theorem iv_one (l : List Int) : ∀ u ∈ iv l, u.oneCell' = true := by
  intro v hv
  simp only [iv, List.mem_map] at hv
  obtain ⟨x, _, rfl⟩ := hv
  rfl
theorem iv_set (l : List Int) (k : Nat) (x : Int) : (iv l).set k (.int .i64 x) = iv (l.set k x) := by simp [iv, List.map_set]
end Go.Proofs.Ytebicjblplkdeaa
