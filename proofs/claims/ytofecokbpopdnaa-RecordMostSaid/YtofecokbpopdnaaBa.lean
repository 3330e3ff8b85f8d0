/-
  Several texts in one (Mem0, Mem, Row, RowVar, Undrew, KitQ, Kit, KitLent, KitSame, KitOwn, KitStep, KitOver, KitZ). Conditions: as each says.
-/
import Derived.Test.YtofecokbpopdnaaProg
import Derived.WalkKit
import Derived.Below
import Derived.Lib.Hide
import Derived.Deep.Draws
import Derived.Laws.CopyOwn
import Derived.Laws.MakeOwn
import Derived.Laws.OwnMore
import Derived.Maps.AppendAt
import Derived.Deep.AppendLies
import Derived.Deep.MidRow
import Derived.Laws.ResultCell
import Derived.Outline
import Derived.BigQuiet
import Derived.Deep.QuietTactic
import Derived.Laws.IdiomStrings
import Derived.Laws.BytesString
import Derived.Deep.RegionHeld3
import Derived.Laws.BitsAllLaws
/-
  Words for memory: a slice of bytes that reads as a list. Conditions: none.
-/
namespace Go.Proofs.Ytofecokbpopdnaa
open Go.RowKit

/-- the slice at A reads as the bytes l, and lies below block B -/
def BytesAt (w : World) (B : Nat) (A : Option Addr) (l : List UInt8) : Prop :=
  l ≠ [] → ∃ ad, A = some ad ∧ ad.block < B ∧ ∀ k, k < l.length → w.cell? (ad.add k) = some (.int .u8 ((l.getD k 0).toNat : Int))

variable {w w' : World} {B B' : Nat} {A : Option Addr} {l : List UInt8}
theorem block_add (a : Addr) (n : Nat) : (a.add n).block = a.block := by unfold Addr.add; split <;> rfl
theorem add_zero (a : Addr) : a.add 0 = a := by simp [Addr.add]
theorem add_add (a : Addr) (i j : Nat) : (a.add i).add j = a.add (i + j) := by
  unfold Addr.add
  by_cases hi : i = 0 <;> by_cases hj : j = 0 <;> simp [hi, hj, Nat.add_assoc]
theorem bytes_nil : BytesAt w B A [] := fun h => absurd rfl h
theorem BytesAt.keep (h : BytesAt w B A l) (hk : ∀ p : Addr, p.block < B → w'.cell? p = w.cell? p) : BytesAt w' B A l := fun hl => by
  obtain ⟨ad, e, hb, hc⟩ := h hl
  exact ⟨ad, e, hb, fun k hk' => (hk _ (by rw [block_add]; exact hb)).trans (hc k hk')⟩
theorem BytesAt.below (h : BytesAt w B A l) (hb : Below B w w') : BytesAt w' B A l := h.keep fun _ hp => hb.cell hp
theorem BytesAt.belowN (h : BytesAt w B A l) (hb : Below B' w w') (hB : B ≤ B') : BytesAt w' B A l := h.keep fun _ hp => hb.cell (by omega)
theorem BytesAt.more (h : BytesAt w B A l) (hB : B ≤ B') : BytesAt w B' A l := fun hl => by
  obtain ⟨ad, e, hb, hc⟩ := h hl
  exact ⟨ad, e, by omega, hc⟩
theorem BytesAt.alloc (h : BytesAt w B A l) (hB : B ≤ w.heap.size) (o : Obj) : BytesAt (w.alloc o) B A l := h.belowN ((Below.refl _ _).alloc hB o) (Nat.le_refl _)
theorem BytesAt.drewN (h : BytesAt w B A l) (n : Nat) : BytesAt (w.drewN n) B A l := h
theorem BytesAt.drew (h : BytesAt w B A l) : BytesAt w.drew B A l := h
/-- bytes as cells -/
def cellsOfBytes (l : List UInt8) : List Value := l.map fun x => .int .u8 (x.toNat : Int)
theorem cellsOfBytes_get (l : List UInt8) (k : Nat) (hk : k < l.length) : (cellsOfBytes l)[k]? = some (.int .u8 ((l.getD k 0).toNat : Int)) := by
  simp [cellsOfBytes, hk]
/-- a block whose first cells are the bytes -/
theorem bytes_block {b : Nat} {cs : Array Value} {t : TypeId} {fr : Nat × Nat} (hb : w.heap[b]? = some (.cells cs t fr)) (hB : b < B) (h : ∀ k, k < l.length → cs[k]? = some (.int .u8 ((l.getD k 0).toNat : Int))) :
    BytesAt w B (some ⟨b, 0, none⟩) l := fun _ => ⟨_, rfl, hB, fun k hk => by
  have e : (⟨b, 0, none⟩ : Addr).add k = ⟨b, k, none⟩ := by
    by_cases h0 : k = 0 <;> simp [Addr.add, h0]
  rw [e]
  simp [World.cell?, hb, h k hk]⟩
theorem bytes_new (w : World) (l : List UInt8) (t : TypeId) (fr : Nat × Nat) : BytesAt (w.alloc (.cells (cellsOfBytes l).toArray t fr)) (w.heap.size + 1) (some ⟨w.heap.size, 0, none⟩) l :=
  bytes_block (heap_alloc_new w _) (Nat.lt_succ_self _) fun k hk => by rw [List.getElem?_toArray]; exact cellsOfBytes_get l k hk
theorem bytes_new_at (w : World) (l : List UInt8) (t : TypeId) (fr : Nat × Nat) (g B : Nat) (hg : g = w.heap.size) (hB : g < B) : BytesAt (w.alloc (.cells (cellsOfBytes l).toArray t fr)) B (some ⟨g, 0, none⟩) l := by
  subst hg
  exact (bytes_new w l t fr).more (by omega)

/-- where a slice that is cut ahead begins -/
def cutA (A : Option Addr) (k c : Nat) : Option Addr := if c = k then A else A.map (·.add k)
theorem BytesAt.take (h : BytesAt w B A l) (k : Nat) : BytesAt w B A (l.take k) := fun hne => by
  have hl : l ≠ [] := by rintro rfl; simp at hne
  obtain ⟨ad, e, hb, hc⟩ := h hl
  refine ⟨ad, e, hb, fun j hj => ?_⟩
  simp only [List.length_take] at hj
  rw [hc j (by omega)]
  simp [show j < k by omega]
theorem BytesAt.drop (h : BytesAt w B A l) (k c : Nat) (hc : l.length ≤ c) : BytesAt w B (cutA A k c) (l.drop k) := fun hne => by
  have hk : k < l.length := by
    rcases Nat.lt_or_ge k l.length with h1 | h1
    · exact h1
    · exact absurd (List.drop_eq_nil_of_le h1) hne
  have hl : l ≠ [] := by rintro rfl; simp at hne
  obtain ⟨ad, rfl, hb, hcell⟩ := h hl
  refine ⟨ad.add k, ?_, by rw [block_add]; exact hb, fun j hj => ?_⟩
  · unfold cutA
    rw [if_neg (by omega)]
    rfl
  · simp only [List.length_drop] at hj
    rw [add_add, hcell (k + j) (by omega)]
    simp

section
variable {P : Program} {t : TypeId}
theorem run_cut_to (ht : P.underlying t = some (.slice (P.elem t))) (hs : ∀ w, (sizeOf (P.elem t)).run P w = .ok 1 w) (A : Option Addr) (n c k : Nat) (hk : k ≤ c) (W : World) :
    (Instr.slice t (.slice A n c) none (some (.int .i64 (k : Int))) none).run P W = .ok (.slice A k c) W := by
  rw [run_slice_h W t A n c ht .i64 (k : Int) (by omega) (by omega), hs]
  have e0 : ∀ a : Addr, a.add 0 = a := add_zero
  simp only [Result.andThen, sliced, Int.toNat_natCast, Nat.zero_mul, Nat.sub_zero]
  congr 2
  split
  · rfl
  · cases A <;> simp [e0]
theorem run_cut_from (ht : P.underlying t = some (.slice (P.elem t))) (hs : ∀ w, (sizeOf (P.elem t)).run P w = .ok 1 w) (A : Option Addr) (n c k : Nat) (hk : k ≤ n) (W : World) :
    (Instr.slice t (.slice A n c) (some (.int .i64 (k : Int))) none none).run P W = .ok (.slice (cutA A k c) (n - k) (c - k)) W := by
  rw [run_slice_l W t A n c ht .i64 (k : Int) (by omega) (by omega), hs]
  simp only [Result.andThen, sliced, Int.toNat_natCast, Nat.mul_one, cutA]
end
end Go.Proofs.Ytofecokbpopdnaa
/-
  Words for memory: cuts of slices of bytes. Conditions: none.
-/
namespace Go.Proofs.Ytofecokbpopdnaa
open Go.RowKit

end Go.Proofs.Ytofecokbpopdnaa
/-
  Words for memory, whatever the element: a slice that reads as a list of cells; a slice of the call's own; a block known whole. Conditions: none.
-/
namespace Go.Proofs.Ytofecokbpopdnaa
open Go.RowKit

/-- the slice at A reads as the cells xs, and lies below block B -/
def RowAt (w : World) (B : Nat) (A : Option Addr) (xs : List Value) : Prop :=
  xs ≠ [] → ∃ ad, A = some ad ∧ ad.block < B ∧ ∀ k v, xs[k]? = some v → w.cell? (ad.add k) = some v
/-- v is a slice of the call's own (of blocks from base on, of elements E) that holds just the cells xs -/
def OwnR (E : TypeId) (w : World) (base : Nat) (v : Value) (xs : List Value) : Prop := w.ownsRow base E 1 v xs.length xs
/-- block g is just the cells xs -/
def BlkR (E : TypeId) (w : World) (g : Nat) (xs : List Value) : Prop := w.heap[g]? = some (.cells xs.toArray E (0, 0))

section
variable {w w' : World} {B B' base g : Nat} {A : Option Addr} {xs ys : List Value} {E : TypeId} {v : Value}
theorem RowAt.none_ : RowAt w B A [] := fun h => absurd rfl h
theorem RowAt.keep (h : RowAt w B A xs) (hk : ∀ p : Addr, p.block < B → w'.cell? p = w.cell? p) : RowAt w' B A xs := fun hl => by
  obtain ⟨ad, e, hb, hc⟩ := h hl
  exact ⟨ad, e, hb, fun k u hu => (hk _ (by rw [block_add]; exact hb)).trans (hc k u hu)⟩
theorem RowAt.below (h : RowAt w B A xs) (hb : Below B w w') : RowAt w' B A xs := h.keep fun _ hp => hb.cell hp
theorem RowAt.belowN (h : RowAt w B A xs) (hb : Below B' w w') (hB : B ≤ B') : RowAt w' B A xs := h.keep fun _ hp => hb.cell (by omega)
theorem RowAt.more (h : RowAt w B A xs) (hB : B ≤ B') : RowAt w B' A xs := fun hl => by
  obtain ⟨ad, e, hb, hc⟩ := h hl
  exact ⟨ad, e, by omega, hc⟩
theorem RowAt.drewN (h : RowAt w B A xs) (n : Nat) : RowAt (w.drewN n) B A xs := h
theorem RowAt.drew (h : RowAt w B A xs) : RowAt w.drew B A xs := h
theorem RowAt.alloc (h : RowAt w B A xs) (hB : B ≤ w.heap.size) (o : Obj) : RowAt (w.alloc o) B A xs := h.belowN ((Below.refl _ _).alloc hB o) (Nat.le_refl _)
theorem RowAt.at_ {k : Nat} {u : Value} (h : RowAt w B A xs) (hu : xs[k]? = some u) : ∃ ad, A = some ad ∧ ad.block < B ∧ w.cell? (ad.add k) = some u := by
  obtain ⟨ad, e, hb, hc⟩ := h (by rintro rfl; simp at hu)
  exact ⟨ad, e, hb, hc k u hu⟩
theorem addr_zero_add (g k : Nat) : (⟨g, 0, none⟩ : Addr).add k = ⟨g, k, none⟩ := by
  by_cases h0 : k = 0 <;> simp [Addr.add, h0]
theorem BlkR.lt (h : BlkR E w g xs) : g < w.heap.size := by
  rcases Nat.lt_or_ge g w.heap.size with hlt | hge
  · exact hlt
  · unfold BlkR at h; rw [Array.getElem?_eq_none hge] at h; cases h
theorem BlkR.cell (h : BlkR E w g xs) {k : Nat} {u : Value} (hu : xs[k]? = some u) : w.cell? ⟨g, k, none⟩ = some u := by
  unfold BlkR at h
  simp only [World.cell?, h, List.getElem?_toArray, hu]
  rfl
theorem BlkR.frozen (h : BlkR E w g xs) (k : Nat) : w.frozen? ⟨g, k, none⟩ = false := by
  unfold BlkR at h
  simp [World.frozen?, h]
theorem BlkR.set_ (h : BlkR E w g xs) (k : Nat) (u : Value) : BlkR E (w.setCell ⟨g, k, none⟩ u) g (xs.set k u) := by
  unfold BlkR at h ⊢
  simp only [World.setCell, Array.getElem?_modify, h]
  simp
theorem BlkR.below (h : BlkR E w g xs) (hb : Below B w w') (hg : g < B) : BlkR E w' g xs := (hb.block g hg).trans h
theorem BlkR.drewN (h : BlkR E w g xs) (n : Nat) : BlkR E (w.drewN n) g xs := h
theorem BlkR.new (w : World) (xs : List Value) (E : TypeId) : BlkR E (w.alloc (.cells xs.toArray E)) w.heap.size xs := heap_alloc_new w _
theorem BlkR.row (h : BlkR E w g xs) (hys : ∃ r, xs = ys ++ r) (hB : g < B) : RowAt w B (some ⟨g, 0, none⟩) ys := fun _ => by
  obtain ⟨r, rfl⟩ := hys
  refine ⟨_, rfl, hB, fun k u hu => ?_⟩
  rw [addr_zero_add]
  exact h.cell (by rw [List.getElem?_append_left (List.getElem?_eq_some_iff.1 hu).1]; exact hu)

theorem OwnR.form (h : OwnR E w base v xs) : ∃ A c, v = .slice A xs.length c ∧ xs.length ≤ c ∧ c ≤ maxLen := by
  rcases h.2 with ⟨rfl, h0⟩ | ⟨g, cap, cur, rfl, _, _, hc, hm, _⟩
  · exact ⟨none, 0, by rw [h0], by omega, by unfold maxLen; omega⟩
  · exact ⟨_, cap, rfl, hc, hm⟩
theorem OwnR.row {n c : Nat} (h : OwnR E w base (.slice A n c) xs) : RowAt w w.heap.size A xs := fun hne => by
  have hpos : 0 < xs.length := List.length_pos_iff.2 hne
  obtain ⟨g, cap, hv, _, hlt⟩ := World.ownsRow.form h hpos
  injection hv with h1 h2 h3
  subst h1
  exact ⟨_, rfl, hlt, World.ownsRow.cells h (g := g) rfl⟩
theorem OwnR.below (h : OwnR E w base v xs) (hb : Below B w w') (hB : w.heap.size ≤ B) : OwnR E w' base v xs :=
  World.ownsRow.kept (row := none) h ⟨hb.os, hb.tape, hb.output, hb.size, fun k hk _ => hb.block k (by omega)⟩ (by
    rcases hv : v.ownBlock with _ | k
    · exact .inl rfl
    · exact .inr (by simp))
theorem OwnR.alloc (h : OwnR E w base v xs) (o : Obj) : OwnR E (w.alloc o) base v xs := World.ownsRow.alloc h o
theorem OwnR.drewN (h : OwnR E w base v xs) (n : Nat) : OwnR E (w.drewN n) base v xs := h
theorem OwnR.lt (h : OwnR E w base v xs) : ∀ k, v.ownBlock = some k → base ≤ k ∧ k < w.heap.size := World.ownsRow.lt h
theorem OwnR.nil_ : OwnR E w base (.slice none 0 0) [] := World.ownsRow_nil _ _ _ _
theorem OwnR.less (h : OwnR E w base v xs) {b : Nat} (hb : b ≤ base) : OwnR E w b v xs := by
  obtain ⟨h1, h2⟩ := h
  refine ⟨h1, ?_⟩
  rcases h2 with h2 | ⟨g, cap, cur, e, hg, r⟩
  · exact .inl h2
  · exact .inr ⟨g, cap, cur, e, by omega, r⟩
end

/-- a slice type whose elements are one cell -/
structure Elem (P : Program) (T E : TypeId) (z : Value) (bytes : Nat) : Prop where
  under : P.underlying T = some (.slice E)
  info : ∃ i, P.info? E = some i ∧ i.zero = some z ∧ i.size = 1 ∧ i.bytes = bytes
  one : z.cells.size = 1
  cells : z.cells = #[z]

section
variable {P : Program} {T E : TypeId} {z : Value} {bytes : Nat} {w w' : World} {B base : Nat} {v : Value} {xs ys : List Value}
theorem run_append_nilR (el : Elem P T E z bytes) (ty : TypeId) (hown : OwnR E w base v xs) (c : Nat) : (Builtin.append_ #[T, T] ty #[v, .slice none 0 c]).run P w = .ok v w := by
  obtain ⟨i, hi, _, _, _⟩ := el.info
  rcases hown.2 with ⟨rfl, h0⟩ | ⟨g, cap, cur, rfl, _, _, hnc, _⟩
  · simp [Builtin.append_, run_underlying el.under, sizeOf, typeInfo, hi, Builtin.lenOf, Builtin.firstCells]
  · simp [Builtin.append_, run_underlying el.under, sizeOf, typeInfo, hi, Builtin.lenOf, Builtin.firstCells, hnc, storeCells]
theorem run_appendR (el : Elem P T E z bytes) (hown : OwnR E w base v xs) {A : Option Addr} {m c : Nat} (hm : ys.length = m) (hr : RowAt w B A ys) (h1 : ∀ u ∈ ys, u.oneCell' = true)
    (hmax : xs.length + ys.length ≤ maxLen) (hsz : (xs.length + ys.length) * bytes ≤ 140737488355328) (hbase : base ≤ w.heap.size) (ty : TypeId) :
    ∃ v' w', (Builtin.append_ #[T, T] ty #[v, .slice A m c]).run P w = .ok v' w' ∧ OwnR E w' base v' (xs ++ ys) ∧ w.grownBy w' v.ownBlock ∧ (v'.ownBlock = v.ownBlock ∨ v'.ownBlock = some w.heap.size) := by
  subst hm
  by_cases hne : ys = []
  · subst hne
    rcases A with _ | ad
    · exact ⟨v, w, run_append_nilR el ty hown c, by simpa using hown, World.grownBy.refl w _, .inl rfl⟩
    · obtain ⟨i, i1, i2, i3, i4⟩ := el.info
      obtain ⟨v', w', hrun, g1, g2, _, g4⟩ := run_append_own_at (P := P) w base T ty E i z 1 bytes el.under i1 i2 i3 i4 el.one (by omega) v xs.length xs hown ad 0 c [] rfl (fun j u h => by cases h) (fun u h => by cases h) (by simpa using hmax) (by simpa using hsz) hbase
      refine ⟨v', w', hrun, ?_, g2, g4⟩
      unfold OwnR
      rw [List.length_append]
      exact g1
  · obtain ⟨ad, rfl, _, hc⟩ := hr hne
    obtain ⟨i, i1, i2, i3, i4⟩ := el.info
    obtain ⟨v', w', hrun, g1, g2, _, g4⟩ := run_append_own_at (P := P) w base T ty E i z 1 bytes el.under i1 i2 i3 i4 el.one (by omega) v xs.length xs hown ad ys.length c ys (by omega) hc h1 hmax hsz hbase
    refine ⟨v', w', hrun, ?_, g2, g4⟩
    unfold OwnR
    rw [List.length_append]
    exact g1

theorem wpList_append_runR {ops : Array Oper} {rest : List Oper} {o : Oper} {a : Act} {Q : Exit → Act → World → Prop} (hgd : o.guard = none) (s x : Operand) (t : TypeId)
    (ho : o.op = .call { callee := .builtin .append, args := #[s, x], argTypes := #[t, t] }) {v u v' : Value} (hs : a.eval s = v) (hx : a.eval x = u)
    (hrun : (Builtin.append_ #[t, t] o.type #[v, u]).run P w = .ok v' w') (h : wpList P ops Q rest (a.put o.dst v') w') : wpList P ops Q (o :: rest) a w := by
  refine wpList_plain hgd fun K hK => ?_
  unfold Oper.wp execOp
  simp only [ho, resolve, invoke, builtin, Sem.run_bind, Sem.run_pure, Result.andThen_ok, List.map_toArray, List.map_cons, List.map_nil, hs, hx, hrun]
  exact hK _ _ h
theorem wpList_appendR {ops : Array Oper} {rest : List Oper} {o : Oper} {a : Act} {Q : Exit → Act → World → Prop} (hgd : o.guard = none) (s x : Operand) (el : Elem P T E z bytes)
    (ho : o.op = .call { callee := .builtin .append, args := #[s, x], argTypes := #[T, T] })
    (base : Nat) (v : Value) (xs : List Value) (hs : a.eval s = v) (hown : OwnR E w base v xs) (A : Option Addr) (ys : List Value) (m c B : Nat) (hx : a.eval x = .slice A m c) (hm : ys.length = m) (hr : RowAt w B A ys)
    (h1 : ∀ u ∈ ys, u.oneCell' = true) (hmax : xs.length + ys.length ≤ maxLen) (hsz : (xs.length + ys.length) * bytes ≤ 140737488355328) (hbase : base ≤ w.heap.size)
    (h : ∀ v' w', OwnR E w' base v' (xs ++ ys) → w.grownBy w' v.ownBlock → (v'.ownBlock = v.ownBlock ∨ v'.ownBlock = some w.heap.size) → wpList P ops Q rest (a.put o.dst v') w') : wpList P ops Q (o :: rest) a w := by
  obtain ⟨v', w', hrun, h2, h3, h4⟩ := run_appendR el hown hm hr h1 hmax hsz hbase o.type
  exact wpList_append_runR hgd s x T ho hs hx hrun (h v' w' h2 h3 h4)
theorem grown_belowR {a : World} (hb : Below B a w) (hg : w.grownBy w' v.ownBlock) (hB : B ≤ w.heap.size) (hown : OwnR E w base v xs) (h : B ≤ base) : Below B a w' :=
  hb.grown hg hB fun k hk => Nat.le_trans h (hown.lt k hk).1

/-- make([]T, l, c) -/
theorem make_row (el : Elem P T E z bytes) (l c : Nat) (hlc : l ≤ c) (hc : bytes * c ≤ 281474976710656) (hm : c ≤ maxLen) (w : World) :
    (Instr.makeSlice T (.int .i64 (l : Int)) (.int .i64 (c : Int))).run P w = .ok (.slice (some ⟨w.heap.size, 0, none⟩) l c) (w.alloc (.cells (List.replicate c z).toArray E)) := by
  obtain ⟨i, h1, h2, h3, h4⟩ := el.info
  unfold maxLen at hm
  have hb : (i.bytes : Int) * (c : Int) ≤ 281474976710656 := by
    rw [h4, ← Int.natCast_mul]
    omega
  have h := run_make (P := P) (w := w) T E i z el.under h1 h2 .i64 .i64 (l : Int) (c : Int) (by omega) (by omega) hb (by omega)
  rw [h3] at h
  simp only [Int.toNat_natCast, Nat.mul_one] at h
  rw [h]
  congr 3
  apply Array.toList_inj.1
  rw [el.cells, toList_madeCells_one]
theorem made_own (w : World) (E : TypeId) (z : Value) (c base : Nat) (hc : c ≤ maxLen) (hb : base ≤ w.heap.size) : OwnR E (w.alloc (.cells (List.replicate c z).toArray E)) base (.slice (some ⟨w.heap.size, 0, none⟩) 0 c) [] :=
  ⟨by simp, .inr ⟨w.heap.size, c, (List.replicate c z).toArray, rfl, hb, heap_alloc_new w _, Nat.zero_le _, hc, by rw [List.size_toArray, List.length_replicate, Nat.mul_one], by rw [List.length_nil, Nat.zero_mul, List.take_zero]⟩⟩
end

/-- stores into a slice of the call's own -/
theorem OwnR.at_g {E : TypeId} {w : World} {base n c : Nat} {A : Option Addr} {xs : List Value} (h : OwnR E w base (.slice A n c) xs) (hpos : 0 < xs.length) : ∃ g, A = some ⟨g, 0, none⟩ ∧ base ≤ g ∧ g < w.heap.size ∧ n = xs.length := by
  rcases h.2 with ⟨_, h0⟩ | ⟨g, cap, cur, hv, hb, hg, _⟩
  · omega
  · injection hv with h1 h2 h3
    refine ⟨g, h1, hb, ?_, h2⟩
    rcases Nat.lt_or_ge g w.heap.size with hlt | hge
    · exact hlt
    · rw [Array.getElem?_eq_none hge] at hg; cases hg
theorem OwnR.cell {E : TypeId} {w : World} {base n c g : Nat} {xs : List Value} (h : OwnR E w base (.slice (some ⟨g, 0, none⟩) n c) xs) {k : Nat} {u : Value} (hu : xs[k]? = some u) : w.cell? ⟨g, k, none⟩ = some u := by
  have := World.ownsRow.cells h (g := g) rfl k u hu
  rwa [addr_zero_add] at this
theorem OwnR.frozen {E : TypeId} {w : World} {base n c g : Nat} {xs : List Value} (h : OwnR E w base (.slice (some ⟨g, 0, none⟩) n c) xs) (k : Nat) : w.frozen? ⟨g, k, none⟩ = false := by
  rcases h.2 with ⟨hv, _⟩ | ⟨g', cap, cur, hv, hb, hg, _⟩
  · cases hv
  · injection hv with h1
    injection h1 with h1
    injection h1 with h1
    subst h1
    simp [World.frozen?, hg]
theorem OwnR.store {E : TypeId} {w : World} {base n c g : Nat} {xs : List Value} (h : OwnR E w base (.slice (some ⟨g, 0, none⟩) n c) xs) (k : Nat) (u : Value) : OwnR E (w.setCell ⟨g, k, none⟩ u) base (.slice (some ⟨g, 0, none⟩) n c) (xs.set k u) := by
  refine ⟨by rw [List.length_set, Nat.mul_one], .inr ?_⟩
  rcases h.2 with ⟨hv, _⟩ | ⟨g', cap, cur, hv, hb, hg, hnc, hm, hsz, ht⟩
  · cases hv
  · injection hv with h1 h2 h3
    injection h1 with h1
    injection h1 with h1
    subst h1; subst h2; subst h3
    refine ⟨g, c, cur.setIfInBounds k u, by rw [List.length_set], hb, ?_, by rw [List.length_set]; exact hnc, hm, by rw [Array.size_setIfInBounds]; exact hsz, ?_⟩
    · simp only [World.setCell, Array.getElem?_modify, hg]
      simp
    · rw [List.length_set, Array.toList_setIfInBounds, List.take_set, ht]
theorem OwnR.far {E : TypeId} {w : World} {base : Nat} {v : Value} {xs : List Value} (h : OwnR E w base v xs) {p : Addr} (hp : p.block < base) (u : Value) : OwnR E (w.setCell p u) base v xs := by
  refine ⟨h.1, ?_⟩
  rcases h.2 with h0 | ⟨g, cap, cur, hv, hb, hg, r⟩
  · exact .inl h0
  · refine .inr ⟨g, cap, cur, hv, hb, ?_, r⟩
    exact (Below.heap_setCell w p u g (by omega)).trans hg

/-- numbers as cells -/
def iv (l : List Int) : List Value := l.map (Value.int .i64)
theorem iv_length (l : List Int) : (iv l).length = l.length := by simp [iv]
theorem iv_append (a b : List Int) : iv (a ++ b) = iv a ++ iv b := by simp [iv]
theorem iv_get (l : List Int) (k : Nat) (h : k < l.length) : (iv l)[k]? = some (.int .i64 (l.getD k 0)) := by simp [iv, h]
theorem iv_one (l : List Int) : ∀ u ∈ iv l, u.oneCell' = true := by
  intro v hv
  simp only [iv, List.mem_map] at hv
  obtain ⟨x, _, rfl⟩ := hv
  rfl
theorem iv_set (l : List Int) (k : Nat) (x : Int) : (iv l).set k (.int .i64 x) = iv (l.set k x) := by simp [iv, List.map_set]
end Go.Proofs.Ytofecokbpopdnaa
/-
  Variables of a struct's or an array's type, of any cells: made, loaded whole, stored whole, told. Conditions: none.
-/
namespace Go.Proofs.Ytofecokbpopdnaa
open Go.RowKit

/-- a type whose variables are the cells z when they are new -/
structure RowTy (P : Program) (T : TypeId) (z : List Value) : Prop where
  zero : ∀ w, (zeroValue T).run P w = .ok (.agg z.toArray) w
  size : (P.info? T).map (·.size) = some z.length
  under : ∃ d, P.underlying T = some d ∧ d.isRow = true
section
variable {P : Program} {T E : TypeId} {z xs ys : List Value} {w w' : World} {g : Nat} {ops : Array Oper} {rest : List Oper} {o : Oper} {a : Act} {Q : Exit → Act → World → Prop}
theorem rangeOf (h : BlkR E w g xs) : w.rangeAt g 0 xs := fun j v hv => by rw [Nat.zero_add]; exact h.cell hv
theorem rangeMid (h : BlkR E w g xs) {k n : Nat} {ys : List Value} (e : (xs.drop k).take n = ys) : w.rangeAt g k ys := fun j v hv => by
  subst e
  rw [List.getElem?_take] at hv
  split at hv
  · rw [List.getElem?_drop] at hv; exact h.cell hv
  · cases hv
theorem thereOf (h : BlkR E w g xs) {n : Nat} (hn : n ≤ xs.length) : w.there g 0 n := fun j hj => by
  rw [Nat.zero_add]
  exact ⟨by rw [h.cell (List.getElem?_eq_getElem (by omega : j < xs.length))]; rfl, h.frozen j⟩
theorem setCells_at : ∀ (ys : List Value) (w : World) (o : Nat) (xs : List Value), BlkR E w g xs → o + ys.length ≤ xs.length → BlkR E (w.setCells g o ys) g (xs.take o ++ ys ++ xs.drop (o + ys.length))
  | [], w, o, xs, h, _ => by
    rw [World.setCells, List.append_nil, List.length_nil, Nat.add_zero, List.take_append_drop]
    exact h
  | v :: r, w, o, xs, h, hle => by
    rw [World.setCells]
    rw [List.length_cons] at hle
    have h2 := setCells_at r _ (o + 1) _ (h.set_ o v) (by rw [List.length_set]; omega)
    have e : (xs.set o v).take (o + 1) ++ r ++ (xs.set o v).drop (o + 1 + r.length) = xs.take o ++ (v :: r) ++ xs.drop (o + (v :: r).length) := by
      rw [List.drop_set_of_lt (by omega), List.length_cons, show o + (r.length + 1) = o + 1 + r.length by omega, List.take_add_one, List.take_set_of_le (Nat.le_refl o)]
      simp [show o < xs.length by omega]
    rw [← e]
    exact h2
theorem setCells_keep : ∀ (vs : List Value) (w : World) (g o k : Nat), k ≠ g → (w.setCells g o vs).heap[k]? = w.heap[k]?
  | [], _, _, _, _, _ => rfl
  | v :: r, w, g, o, k, hk => by rw [World.setCells, setCells_keep r _ g (o + 1) k hk]; exact Below.heap_setCell w ⟨g, o, none⟩ v k hk
theorem setCells_frame : ∀ (vs : List Value) (w : World) (g o : Nat), (w.setCells g o vs).os = w.os ∧ (w.setCells g o vs).tape = w.tape ∧ (w.setCells g o vs).output = w.output ∧ (w.setCells g o vs).heap.size = w.heap.size
  | [], _, _, _ => ⟨rfl, rfl, rfl, rfl⟩
  | v :: r, w, g, o => by
    rw [World.setCells]
    obtain ⟨h1, h2, h3, h4⟩ := setCells_frame r (w.setCell ⟨g, o, none⟩ v) g (o + 1)
    exact ⟨h1, h2, h3, by rw [h4]; simp [World.setCell]⟩
theorem atWorld {l : List Oper} (w : World) (h : wpList P ops Q l a w) : wpList P ops Q l a w := h
theorem wpList_allocRow (R : RowTy P T z) (hgd : o.guard = none) (ho : o.op = .alloc T)
    (h : ∀ w', BlkR T w' w.heap.size z → Below w.heap.size w w' → w'.heap.size = w.heap.size + 1 → wpList P ops Q rest (a.put o.dst (.pointer (some ⟨w.heap.size, 0, none⟩))) w') : wpList P ops Q (o :: rest) a w := by
  refine wpList_plain hgd fun K hK => ?_
  have e : (Instr.alloc T true (.tuple #[])).run P w = .ok (.pointer (some ⟨w.heap.size, 0, none⟩)) (w.alloc (.cells z.toArray T)) := by
    obtain ⟨Z, hZ⟩ : ∃ Z, Z = z.toArray := ⟨_, rfl⟩
    have hz : (zeroValue T).run P w = .ok (.agg Z) w := by rw [hZ]; exact R.zero w
    rw [← hZ]
    unfold Instr.alloc
    simp only [Sem.run_bind, hz, Result.andThen_ok, newVar, newRow, Value.cells]
    rfl
  unfold Oper.wp execOp
  simp only [ho, Sem.run_bind, e, Result.andThen_ok]
  exact hK _ _ (h _ (BlkR.new w _ _) ((Below.refl _ _).alloc (Nat.le_refl _) _) (by simp))
theorem loadRow (R : RowTy P T z) (hl : xs.length = z.length) (hr : BlkR E w g xs) : (loadVar T ⟨g, 0, none⟩).run P w = .ok (.agg xs.toArray) w := by
  obtain ⟨d, hu, hd⟩ := R.under
  exact run_loadVar_mid w g 0 T xs d (rangeOf hr) hu hd (by rw [hl]; exact R.size)
theorem wpList_loadRow (R : RowTy P T z) (hgd : o.guard = none) (x : Operand) (ho : o.op = .load T x) (g k : Nat) (xs : List Value) (hx : a.eval x = .pointer (some ⟨g, k, none⟩)) (hl : xs.length = z.length) (hr : w.rangeAt g k xs)
    (h : wpList P ops Q rest (a.put o.dst (.agg xs.toArray)) w) : wpList P ops Q (o :: rest) a w := by
  obtain ⟨d, hu, hd⟩ := R.under
  exact wpList_load_mid hgd T x ho g k hx xs d hr hu hd (by rw [hl]; exact R.size) h
theorem storeRow (R : RowTy P T z) {xs xs0 : List Value} (hl : xs.length = z.length) (hl0 : xs0.length = z.length) (h1 : ∀ v ∈ xs, v.oneCell' = true) (hb : BlkR E w g xs0) :
    ∃ w', (Instr.storeAt T (.pointer (some ⟨g, 0, none⟩)) (.agg xs.toArray)).run P w = .ok () w' ∧ BlkR E w' g xs ∧ Below g w w' ∧ w'.heap.size = w.heap.size ∧ (∀ k, k ≠ g → w'.heap[k]? = w.heap[k]?) := by
  have hb2 := setCells_at xs w 0 xs0 hb (by omega)
  rw [List.take_zero, List.nil_append, Nat.zero_add, hl, ← hl0, List.drop_length, List.append_nil] at hb2
  obtain ⟨f1, f2, f3, f4⟩ := setCells_frame xs w g 0
  have h := run_storeAt_mid (P := P) w g 0 T xs.toArray (by rw [List.size_toArray, hl]; exact thereOf hb (by omega)) (by rw [List.size_toArray, hl]; exact R.size) (all_oneCell_toArray h1)
  rw [List.toList_toArray] at h
  exact ⟨_, h, hb2, ⟨f1, f2, f3, Nat.le_of_eq f4.symm, fun k hk => setCells_keep xs w g 0 k (by omega)⟩, f4, fun k hk => setCells_keep xs w g 0 k hk⟩
/-- a store over a whole block; the world behind it is a letter -/
theorem wpList_storeRow (R : RowTy P T z) (hgd : o.guard = none) (x y : Operand) (ho : o.op = .store T x y) (g : Nat) (xs xs0 : List Value) (hx : a.eval x = .pointer (some ⟨g, 0, none⟩)) (hy : a.eval y = .agg xs.toArray) (hl : xs.length = z.length) (hl0 : xs0.length = z.length)
    (h1 : ∀ v ∈ xs, v.oneCell' = true) (hb : BlkR E w g xs0)
    (h : ∀ w', BlkR E w' g xs → Below g w w' → w'.heap.size = w.heap.size → (∀ k, k ≠ g → w'.heap[k]? = w.heap[k]?) → wpList P ops Q rest (a.put o.dst undef) w') : wpList P ops Q (o :: rest) a w := by
  refine wpList_store_mid hgd T x y ho g 0 xs.toArray hx hy (by rw [List.size_toArray, hl]; exact thereOf hb (by omega)) (by rw [List.size_toArray, hl]; exact R.size) (all_oneCell_toArray h1) ?_
  rw [List.toList_toArray]
  have hb2 := setCells_at xs w 0 xs0 hb (by omega)
  rw [List.take_zero, List.nil_append, Nat.zero_add, hl, ← hl0, List.drop_length, List.append_nil] at hb2
  obtain ⟨f1, f2, f3, f4⟩ := setCells_frame xs w g 0
  exact h _ hb2 ⟨f1, f2, f3, Nat.le_of_eq f4.symm, fun k hk => setCells_keep xs w g 0 k (by omega)⟩ f4 fun k hk => setCells_keep xs w g 0 k hk
/-- what a function with one result variable in memory tells -/
theorem results_cell1 {fn : Func} {p : Tmp} {ty : TypeId} (h : fn.results = #[.cell p ty]) (tmps : Array Value) (P : Program) (w : World) (a : Addr) (v : Value) (hp : tmps.getD p undef = .pointer (some a)) (hl : (loadVar ty a).run P w = .ok v w) :
    (results fn tmps).run P w = .ok v w := by
  have ha : (asAddr (.pointer (some a))).run P w = .ok a w := rfl
  rw [Array.getD_eq_getD_getElem?] at hp
  simp only [results, h]
  simp [Sem.run_bind, Result.andThen, hp, ha, hl]
/-- and with a plain one behind it -/
theorem results_cell2 {fn : Func} {p u : Tmp} {ty : TypeId} (h : fn.results = #[.cell p ty, .tmp u]) (tmps : Array Value) (P : Program) (w : World) (a : Addr) (v x : Value) (hp : tmps.getD p undef = .pointer (some a)) (hu : tmps.getD u undef = x) (hl : (loadVar ty a).run P w = .ok v w) :
    (results fn tmps).run P w = .ok (.tuple #[v, x]) w := by
  have ha : (asAddr (.pointer (some a))).run P w = .ok a w := rfl
  rw [results_cell_tmp h, hp, hu, ha, Result.andThen_ok, hl, Result.andThen_ok]
end
end Go.Proofs.Ytofecokbpopdnaa
/-
  Draws and what lies below. Conditions: none.
-/
namespace Go.Proofs.Ytofecokbpopdnaa
open Go.RowKit
theorem belowDN {B : Nat} {a w : World} (h : Below B a w) (n : Nat) : Below B a (w.drewN n) := ⟨h.os, h.tape, h.output, h.size, h.block⟩
theorem undrewD {B : Nat} {a w : World} (h : Below B a.drew w) : Below B a w := ⟨h.os, h.tape, h.output, h.size, h.block⟩
theorem undrewDN {B n : Nat} {a w : World} (h : Below B (a.drewN n) w) : Below B a w := ⟨h.os, h.tape, h.output, h.size, h.block⟩
end Go.Proofs.Ytofecokbpopdnaa
/-
  Calls that leave all as it is, inside regions that draw; draws and what lies below. Conditions: none.
-/
namespace Go.Proofs.Ytofecokbpopdnaa
open Go.RowKit

/-- a call that leaves all as it is, inside a region that draws its order -/
theorem quiet0 {P : Program} {f : FuncId} {args : Array Value} {w : World} {v : Value} (h : Calls P f args w fun e w' => e = .returned v ∧ w = w') :
    Calls P f args w fun e w'' => e = .returned v ∧ ∃ m, w'' = w.drewN m := h.mono fun _ _ ⟨he, hm⟩ => ⟨he, 0, hm.symm⟩
theorem quietN {P : Program} {f : FuncId} {args : Array Value} {w : World} {n : Nat} {v : Value} (h : Calls P f args (w.drewN n) fun e w' => e = .returned v ∧ w.drewN n = w') :
    Calls P f args (w.drewN n) fun e w'' => e = .returned v ∧ ∃ m, w'' = w.drewN m := h.mono fun _ _ ⟨he, hm⟩ => ⟨he, n, hm.symm⟩
theorem quietA {P : Program} {f : FuncId} {args : Array Value} {w : World} {a n : Nat} {v : Value} (h : Calls P f args (w.drewN (a + n)) fun e w' => e = .returned v ∧ w.drewN (a + n) = w') :
    Calls P f args (w.drewN (a + n)) fun e w'' => e = .returned v ∧ ∃ m, w'' = w.drewN (a + m) := h.mono fun _ _ ⟨he, hm⟩ => ⟨he, n, hm.symm⟩
theorem belowN {B : Nat} {a w : World} (h : Below B a w) (n : Nat) : Below B a (w.drewN n) := ⟨h.os, h.tape, h.output, h.size, h.block⟩
theorem undrew {B : Nat} {a w : World} (h : Below B a.drew w) : Below B a w := ⟨h.os, h.tape, h.output, h.size, h.block⟩
theorem undrewN {B n : Nat} {a w : World} (h : Below B (a.drewN n) w) : Below B a w := ⟨h.os, h.tape, h.output, h.size, h.block⟩
end Go.Proofs.Ytofecokbpopdnaa
/-
  What the functions of the statements' own kit return: Pick. Conditions: the sizes that are named.
-/
namespace Go.Proofs.Ytofecokbpopdnaa
open Go.RowKit

end Go.Proofs.Ytofecokbpopdnaa
/-
  tandemkit.LentBytes: what it returns. Conditions: the bytes can be read, and are at most as many as a slice may hold.
-/
namespace Go.Proofs.Ytofecokbpopdnaa
open Go.RowKit

def mark (n j : Nat) : UInt8 := UInt8.ofNat (160 + (n + j) % 90)
def marks (n k : Nat) : List UInt8 := (List.range k).map (mark n)
def lent (l : List UInt8) : List UInt8 := l ++ marks l.length 3
/-- a block of bytes, known whole -/
def BlkB (w : World) (g : Nat) (l : List UInt8) : Prop := w.heap[g]? = some (.cells (cellsOfBytes l).toArray 5 (0, 0))
def LentPost (l : List UInt8) (w : World) (e : Ending) (w' : World) : Prop :=
  ∃ g, e = .returned (.slice (some ⟨g, 0, none⟩) l.length (l.length + 3)) ∧ w.heap.size ≤ g ∧ BlkB w' g (lent l) ∧ Below w.heap.size w w'

set_option maxRecDepth 100000 in
theorem infoU8 : ∃ i, Try.prog.info? 5 = some i ∧ i.zero = some (.int .u8 0) ∧ i.size = 1 ∧ i.bytes = 1 := by
  refine ⟨_, rfl, ?_, ?_, ?_⟩ <;> kernel_rfl
theorem cellsOfBytes_append (a b : List UInt8) : cellsOfBytes (a ++ b) = cellsOfBytes a ++ cellsOfBytes b := by simp [cellsOfBytes]
theorem cellsOfBytes_length (a : List UInt8) : (cellsOfBytes a).length = a.length := by simp [cellsOfBytes]
theorem splice_lent (l : List UInt8) : splice (List.replicate (l.length + 3) (Value.int .u8 0)) 0 (cellsOfBytes l) = cellsOfBytes (l ++ marks l.length 0 ++ List.replicate 3 0) := by
  simp [splice, cellsOfBytes, marks, List.drop_replicate, Nat.add_sub_cancel_left]
theorem oneCell_bytes (l : List UInt8) : ∀ v ∈ cellsOfBytes l, v.oneCell' = true := by
  intro v hv
  simp only [cellsOfBytes, List.mem_map] at hv
  obtain ⟨x, _, rfl⟩ := hv
  rfl

theorem BlkB.cell {w : World} {g : Nat} {l : List UInt8} (h : BlkB w g l) (k : Nat) (hk : k < l.length) : w.cell? ⟨g, k, none⟩ = some (.int .u8 ((l.getD k 0).toNat : Int)) := by
  unfold BlkB at h
  simp only [World.cell?, h]
  rw [List.getElem?_toArray, cellsOfBytes_get l k hk]
  rfl
theorem BlkB.frozen {w : World} {g : Nat} {l : List UInt8} (h : BlkB w g l) (k : Nat) : w.frozen? ⟨g, k, none⟩ = false := by
  unfold BlkB at h
  simp [World.frozen?, h]
theorem BlkB.set_ {w : World} {g : Nat} {l : List UInt8} (h : BlkB w g l) (k : Nat) (x : UInt8) : BlkB (w.setCell ⟨g, k, none⟩ (.int .u8 (x.toNat : Int))) g (l.set k x) := by
  unfold BlkB at h ⊢
  simp only [World.setCell, Array.getElem?_modify, h]
  simp [cellsOfBytes, List.map_set]
theorem BlkB.lt {w : World} {g : Nat} {l : List UInt8} (h : BlkB w g l) : g < w.heap.size := by
  rcases Nat.lt_or_ge g w.heap.size with hlt | hge
  · exact hlt
  · unfold BlkB at h; rw [Array.getElem?_eq_none hge] at h; cases h
theorem BlkB.bytes {w : World} {g : Nat} {l : List UInt8} (h : BlkB w g l) (m : List UInt8) (hm : ∃ r, l = m ++ r) {B : Nat} (hB : g < B) : BytesAt w B (some ⟨g, 0, none⟩) m := by
  obtain ⟨r, rfl⟩ := hm
  refine bytes_block h hB fun k hk => ?_
  rw [List.getElem?_toArray, cellsOfBytes_get _ k (by simp; omega)]
  simp [List.getElem?_append_left hk]
theorem BlkB.below {w w' : World} {g B : Nat} {l : List UInt8} (h : BlkB w g l) (hb : Below B w w') (hg : g < B) : BlkB w' g l := (hb.block g hg).trans h
theorem BlkB.drewN {w : World} {g : Nat} {l : List UInt8} (h : BlkB w g l) (n : Nat) : BlkB (w.drewN n) g l := h

theorem marks_step (l : List UInt8) (j : Nat) (hj : j < 3) : (l ++ marks l.length j ++ List.replicate (3 - j) 0).set (l.length + j) (mark l.length j) = l ++ marks l.length (j + 1) ++ List.replicate (3 - (j + 1)) 0 := by
  have hm : ∀ k, (marks l.length k).length = k := fun k => by simp [marks]
  have e : 3 - j = (3 - (j + 1)) + 1 := by omega
  rw [e, List.replicate_succ, List.append_assoc, List.set_append_right _ _ (by omega), Nat.add_sub_cancel_left, List.set_append_right _ _ (by rw [hm]; omega), hm, Nat.sub_self, List.set_cons_zero]
  simp [marks, List.range_succ]
theorem marks_get (l : List UInt8) (j : Nat) (hj : j < 3) : (l ++ marks l.length j ++ List.replicate (3 - j) 0).getD (l.length + j) 0 = 0 := by
  have hm : (marks l.length j).length = j := by simp [marks]
  rw [List.getD_eq_getElem?_getD, List.append_assoc, List.getElem?_append_right (by omega), Nat.add_sub_cancel_left, List.getElem?_append_right (by omega), hm, Nat.sub_self]
  rw [List.getElem?_replicate, if_pos (by omega)]
  rfl
theorem mark_toNat (n j : Nat) : (mark n j).toNat = 160 + (n + j) % 90 := by
  simp only [mark, UInt8.toNat_ofNat']
  omega
theorem mark_int (n j : Nat) : (160 : Int) + ((n : Int) + (j : Int)) % 90 = ((mark n j).toNat : Int) := by
  rw [mark_toNat]; omega

end Go.Proofs.Ytofecokbpopdnaa
/-
  tandemkit.SameBytes, tandemkit.KeptBytes: what they return. Conditions: the bytes can be read, and are at most as many as a slice may hold.
-/
namespace Go.Proofs.Ytofecokbpopdnaa
open Go.RowKit

end Go.Proofs.Ytofecokbpopdnaa
/-
  Bytes in a slice of the call's own; append of bytes to it. Conditions: the sizes that are named.
-/
namespace Go.Proofs.Ytofecokbpopdnaa
open Go.RowKit

/-- v is a slice of the call's own (of blocks from base on) that holds just the bytes l -/
def OwnB (w : World) (base : Nat) (v : Value) (l : List UInt8) : Prop := w.ownsRow base 5 1 v l.length (cellsOfBytes l)

section
variable {w w' : World} {base B : Nat} {v : Value} {l : List UInt8}
theorem OwnB.form (h : OwnB w base v l) : ∃ A c, v = .slice A l.length c ∧ l.length ≤ c := by
  rcases h.2 with ⟨rfl, h0⟩ | ⟨g, cap, cur, rfl, _, _, hc, _⟩
  · exact ⟨none, 0, by rw [h0], by omega⟩
  · exact ⟨_, cap, rfl, hc⟩
theorem OwnB.bytes {A : Option Addr} {n c : Nat} (h : OwnB w base (.slice A n c) l) : BytesAt w w.heap.size A l := fun hne => by
  have hpos : 0 < l.length := List.length_pos_iff.2 hne
  obtain ⟨g, cap, hv, _, hlt⟩ := World.ownsRow.form h hpos
  injection hv with h1 h2 h3
  subst h1
  refine ⟨_, rfl, hlt, fun k hk => ?_⟩
  exact World.ownsRow.cells h (g := g) rfl k _ (cellsOfBytes_get l k hk)
theorem OwnB.below (h : OwnB w base v l) (hb : Below w.heap.size w w') : OwnB w' base v l :=
  World.ownsRow.kept (row := none) h ⟨hb.os, hb.tape, hb.output, hb.size, fun k hk _ => hb.block k hk⟩ (by
    rcases hv : v.ownBlock with _ | k
    · exact .inl rfl
    · exact .inr (by simp))
theorem OwnB.alloc (h : OwnB w base v l) (o : Obj) : OwnB (w.alloc o) base v l := World.ownsRow.alloc h o
theorem OwnB.drewN (h : OwnB w base v l) (n : Nat) : OwnB (w.drewN n) base v l := h
theorem OwnB.lt (h : OwnB w base v l) : ∀ k, v.ownBlock = some k → base ≤ k ∧ k < w.heap.size := World.ownsRow.lt h
theorem OwnB.nil_ : OwnB w base (.slice none 0 0) [] := World.ownsRow_nil _ _ _ _

theorem run_append_nilsrc {P : Program} (t ty e : TypeId) (i : TypeInfo) (ht : P.underlying t = some (.slice e)) (hi : P.info? e = some i) {n : Nat} {xs : List Value} {size : Nat}
    (hown : w.ownsRow base e size v n xs) (c : Nat) : (Builtin.append_ #[t, t] ty #[v, .slice none 0 c]).run P w = .ok v w := by
  rcases hown.2 with ⟨rfl, rfl⟩ | ⟨g, cap, cur, rfl, _, _, hnc, _⟩
  · simp [Builtin.append_, run_underlying ht, sizeOf, typeInfo, hi, Builtin.lenOf, Builtin.firstCells]
  · simp [Builtin.append_, run_underlying ht, sizeOf, typeInfo, hi, Builtin.lenOf, Builtin.firstCells, hnc, storeCells]

/-- the row's blocks are from base on: all below is as it was -/
theorem grown_below {B : Nat} {a : World} (hb : Below B a w) (hg : w.grownBy w' v.ownBlock) (hB : B ≤ w.heap.size) (h : ∀ k, v.ownBlock = some k → B ≤ k) : Below B a w' := hb.grown hg hB h

theorem grown_cell (hown : OwnB w base v l) (hg : w.grownBy w' v.ownBlock) {p : Addr} (hp : p.block < base) (hbase : base ≤ w.heap.size) : w'.cell? p = w.cell? p :=
  World.cell?_of_block (hg.block _ (Nat.lt_of_lt_of_le hp hbase) (fun e => by have := (hown.lt _ e.symm).1; omega))

theorem wpList_append_run {P : Program} {ops : Array Oper} {rest : List Oper} {o : Oper} {a : Act} {Q : Exit → Act → World → Prop} (hgd : o.guard = none) (s x : Operand) (t : TypeId)
    (ho : o.op = .call { callee := .builtin .append, args := #[s, x], argTypes := #[t, t] }) {v u v' : Value} (hs : a.eval s = v) (hx : a.eval x = u)
    (hrun : (Builtin.append_ #[t, t] o.type #[v, u]).run P w = .ok v' w') (h : wpList P ops Q rest (a.put o.dst v') w') : wpList P ops Q (o :: rest) a w := by
  refine wpList_plain hgd fun K hK => ?_
  unfold Oper.wp execOp
  simp only [ho, resolve, invoke, builtin, Sem.run_bind, Sem.run_pure, Result.andThen_ok, List.map_toArray, List.map_cons, List.map_nil, hs, hx, hrun]
  exact hK _ _ h

theorem step_append_run {P : Program} {ops : Array Oper} {o : Oper} {a : Act} {K : Act → World → Prop} {Q : Exit → Act → World → Prop} {E : Prop} (hgd : o.guard = none) (s x : Operand) (t : TypeId)
    (ho : o.op = .call { callee := .builtin .append, args := #[s, x], argTypes := #[t, t] }) {v u v' : Value} (hs : a.eval s = v) (hx : a.eval x = u)
    (hrun : (Builtin.append_ #[t, t] o.type #[v, u]).run P w = .ok v' w') (h : K (a.put o.dst v') w') :
    if Region.wanted o (yielded ops a.tmps) = true then Oper.wp P o a w K Q else E := by
  have hw : Region.wanted o (yielded ops a.tmps) = true := by simp [Region.wanted, hgd]
  rw [if_pos hw]
  unfold Oper.wp execOp
  simp only [ho, resolve, invoke, builtin, Sem.run_bind, Sem.run_pure, Result.andThen_ok, List.map_toArray, List.map_cons, List.map_nil, hs, hx, hrun]
  exact h
/-- the same, of an append behind a guard -/
theorem step_append_runW {P : Program} {ops : Array Oper} {o : Oper} {a : Act} {K : Act → World → Prop} {Q : Exit → Act → World → Prop} {E : Prop} (hw : Region.wanted o (yielded ops a.tmps) = true) (s x : Operand) (t : TypeId)
    (ho : o.op = .call { callee := .builtin .append, args := #[s, x], argTypes := #[t, t] }) {v u v' : Value} (hs : a.eval s = v) (hx : a.eval x = u)
    (hrun : (Builtin.append_ #[t, t] o.type #[v, u]).run P w = .ok v' w') (h : K (a.put o.dst v') w') :
    if Region.wanted o (yielded ops a.tmps) = true then Oper.wp P o a w K Q else E := by
  rw [if_pos hw]
  unfold Oper.wp execOp
  simp only [ho, resolve, invoke, builtin, Sem.run_bind, Sem.run_pure, Result.andThen_ok, List.map_toArray, List.map_cons, List.map_nil, hs, hx, hrun]
  exact h
end

end Go.Proofs.Ytofecokbpopdnaa
/-
  From one world to the next: what stands stays; SameBytes of what is the same. Conditions: none.
-/
namespace Go.Proofs.Ytofecokbpopdnaa
open Go.RowKit

section
variable {w w' w'' : World} {B : Nat} {A : Option Addr} {l : List UInt8} {g base : Nat} {v : Value}
theorem BytesAt.step (h : BytesAt w w.heap.size A l) (hb : Below w.heap.size w w') : BytesAt w' w'.heap.size A l := (h.below hb).more hb.size
theorem BytesAt.stepA (h : BytesAt w w.heap.size A l) (o : Obj) : BytesAt (w.alloc o) (w.alloc o).heap.size A l := (h.alloc (Nat.le_refl _) o).more (by simp)
theorem BlkB.step (h : BlkB w g l) (hb : Below w.heap.size w w') : BlkB w' g l := h.below hb h.lt
theorem BlkB.at_ (h : BlkB w g l) : BytesAt w w.heap.size (some ⟨g, 0, none⟩) l := h.bytes l ⟨[], by simp⟩ h.lt
theorem step_trans (h : Below w.heap.size w w') (h2 : Below w'.heap.size w' w'') : Below w.heap.size w w'' := h.trans (h2.mono h.size)
theorem step_alloc (h : Below w.heap.size w w') (o : Obj) : Below w.heap.size w (w'.alloc o) := h.alloc h.size o
end
end Go.Proofs.Ytofecokbpopdnaa
/-
  tandemkit.OverBytes: over a block of bytes, known whole. Conditions: the block's size.
-/
namespace Go.Proofs.Ytofecokbpopdnaa
open Go.RowKit

end Go.Proofs.Ytofecokbpopdnaa
/-
  Bytes in a slice of the call's own whose whole block is bytes; append of bytes to it; tandemkit.OverBytes over it. Conditions: the sizes that are named.
-/
namespace Go.Proofs.Ytofecokbpopdnaa
open Go.RowKit

/-- v is a slice of the call's own (of blocks from base on) that holds just the bytes l, in a block of bytes alone -/
def OwnZ (w : World) (base : Nat) (v : Value) (l : List UInt8) : Prop :=
  (v = .slice none 0 0 ∧ l = []) ∨ ∃ (g c : Nat) (m : List UInt8), v = .slice (some ⟨g, 0, none⟩) l.length c ∧ base ≤ g ∧ BlkB w g m ∧ m.length = c ∧ m.take l.length = l ∧ l.length ≤ c ∧ c ≤ maxLen
theorem cellsOfBytes_app (a b : List UInt8) : cellsOfBytes (a ++ b) = cellsOfBytes a ++ cellsOfBytes b := by simp [cellsOfBytes]
theorem cellsOfBytes_len (a : List UInt8) : (cellsOfBytes a).length = a.length := by simp [cellsOfBytes]
theorem zeroCells_u8 (n : Nat) : Builtin.zeroCells #[Value.int .u8 0] n = (cellsOfBytes (List.replicate n 0)).toArray := by
  apply Array.ext
  · simp [Builtin.zeroCells, cellsOfBytes]
  · intro i h1 h2
    simp only [Builtin.zeroCells, cellsOfBytes, Array.getElem_map, List.getElem_toArray, List.getElem_map, List.getElem_replicate]
    simp [Nat.mod_one]
section
variable {w w' : World} {base B : Nat} {v : Value} {l : List UInt8}
theorem OwnZ.nil_ : OwnZ w base (.slice none 0 0) [] := .inl ⟨rfl, rfl⟩
theorem OwnZ.own (h : OwnZ w base v l) : OwnB w base v l := by
  rcases h with ⟨rfl, rfl⟩ | ⟨g, c, m, rfl, hb, hk, hm, ht, hl, hc⟩
  · exact OwnB.nil_
  · refine ⟨by rw [cellsOfBytes_len, Nat.mul_one], .inr ⟨g, c, _, rfl, hb, hk, hl, hc, by rw [List.size_toArray, cellsOfBytes_len, hm, Nat.mul_one], ?_⟩⟩
    rw [Nat.mul_one, List.toList_toArray]
    unfold cellsOfBytes
    rw [← List.map_take, ht]
theorem OwnZ.below (h : OwnZ w base v l) (hb : Below w.heap.size w w') : OwnZ w' base v l := by
  rcases h with h | ⟨g, c, m, e, hg, hk, r⟩
  · exact .inl h
  · exact .inr ⟨g, c, m, e, hg, hk.below hb hk.lt, r⟩
theorem OwnZ.alloc (h : OwnZ w base v l) (o : Obj) : OwnZ (w.alloc o) base v l := h.below ((Below.refl _ _).alloc (Nat.le_refl _) o)
theorem OwnZ.less {b : Nat} (h : OwnZ w base v l) (hb : b ≤ base) : OwnZ w b v l := by
  rcases h with h | ⟨g, c, m, e, hg, r⟩
  · exact .inl h
  · exact .inr ⟨g, c, m, e, Nat.le_trans hb hg, r⟩
theorem OwnZ.lt (h : OwnZ w base v l) : ∀ k, v.ownBlock = some k → base ≤ k ∧ k < w.heap.size := h.own.lt
theorem OwnZ.form (h : OwnZ w base v l) : ∃ A c, v = .slice A l.length c ∧ l.length ≤ c := h.own.form
end
end Go.Proofs.Ytofecokbpopdnaa
