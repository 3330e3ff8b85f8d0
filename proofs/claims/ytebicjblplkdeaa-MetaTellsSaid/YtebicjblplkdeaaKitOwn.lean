/-
  Bytes in a slice of the call's own; append of bytes to it. Conditions: the sizes that are named.
-/
import Derived.Test.YtebicjblplkdeaaKitLent
import Derived.Maps.AppendAt
import Derived.Deep.AppendLies
namespace Go.Proofs.Ytebicjblplkdeaa
open Go.RowKit

/-- v is a slice of the call's own (of blocks from base on) that holds just the bytes l -/
def OwnB (w : World) (base : Nat) (v : Value) (l : List UInt8) : Prop := w.ownsRow base 5 1 v l.length (cellsOfBytes l)

section
variable {w w' : World} {base B : Nat} {v : Value} {l : List UInt8}
theorem OwnB.form (h : OwnB w base v l) : ∃ A c, v = .slice A l.length c ∧ l.length ≤ c := by
  rcases h.2 with ⟨rfl, h0⟩ | ⟨g, cap, cur, rfl, _, _, hc, _⟩
  · exact ⟨none, 0, by rw [h0], by omega⟩
  · exact ⟨_, cap, rfl, hc⟩
theorem OwnB.bytes {A : Option Addr} {n c : Nat} (h : OwnB w base (.slice A n c) l) : BytesAt w w.heap.size A l := fun hne => by
  have hpos : 0 < l.length := List.length_pos_iff.2 hne
  obtain ⟨g, cap, hv, _, hlt⟩ := World.ownsRow.form h hpos
  injection hv with h1 h2 h3
  subst h1
  refine ⟨_, rfl, hlt, fun k hk => ?_⟩
  exact World.ownsRow.cells h (g := g) rfl k _ (cellsOfBytes_get l k hk)
theorem OwnB.below (h : OwnB w base v l) (hb : Below w.heap.size w w') : OwnB w' base v l :=
  World.ownsRow.kept (row := none) h ⟨hb.os, hb.tape, hb.output, hb.size, fun k hk _ => hb.block k hk⟩ (by
    rcases hv : v.ownBlock with _ | k
    · exact .inl rfl
    · exact .inr (by simp))
theorem OwnB.alloc (h : OwnB w base v l) (o : Obj) : OwnB (w.alloc o) base v l := World.ownsRow.alloc h o
theorem OwnB.drewN (h : OwnB w base v l) (n : Nat) : OwnB (w.drewN n) base v l := h
theorem OwnB.lt (h : OwnB w base v l) : ∀ k, v.ownBlock = some k → base ≤ k ∧ k < w.heap.size := World.ownsRow.lt h
theorem OwnB.nil_ : OwnB w base (.slice none 0 0) [] := World.ownsRow_nil _ _ _ _

theorem run_append_nilsrc {P : Program} (t ty e : TypeId) (i : TypeInfo) (ht : P.underlying t = some (.slice e)) (hi : P.info? e = some i) {n : Nat} {xs : List Value} {size : Nat}
    (hown : w.ownsRow base e size v n xs) (c : Nat) : (Builtin.append_ #[t, t] ty #[v, .slice none 0 c]).run P w = .ok v w := by
  rcases hown.2 with ⟨rfl, rfl⟩ | ⟨g, cap, cur, rfl, _, _, hnc, _⟩
  · simp [Builtin.append_, run_underlying ht, sizeOf, typeInfo, hi, Builtin.lenOf, Builtin.firstCells]
  · simp [Builtin.append_, run_underlying ht, sizeOf, typeInfo, hi, Builtin.lenOf, Builtin.firstCells, hnc, storeCells]

set_option maxRecDepth 100000 in
theorem run_appendB (hown : OwnB w base v l) {A : Option Addr} {k : List UInt8} {m c : Nat} (hm : k.length = m) (hr : BytesAt w B A k) (hsz : l.length + k.length ≤ 100000000) (hbase : base ≤ w.heap.size) (ty t : TypeId) (ht : t = 26) :
    ∃ v' w', (Builtin.append_ #[t, t] ty #[v, .slice A m c]).run Try.prog w = .ok v' w' ∧ OwnB w' base v' (l ++ k) ∧ w.grownBy w' v.ownBlock ∧ (v'.ownBlock = v.ownBlock ∨ v'.ownBlock = some w.heap.size) := by
  subst hm
  subst ht
  obtain ⟨i, h1, h2, h3, h4⟩ := infoU8
  rcases A with _ | ad
  · have hk : k = [] := by
      rcases List.eq_nil_or_concat k with h | ⟨a, b, h⟩
      · exact h
      · obtain ⟨ad, e, _⟩ := hr (by rw [h]; simp)
        cases e
    subst hk
    exact ⟨v, w, run_append_nilsrc _ ty _ i Try.underlying26 h1 hown c, by simpa using hown, World.grownBy.refl w _, .inl rfl⟩
  · have hcells : ∀ j u, (cellsOfBytes k)[j]? = some u → w.cell? (ad.add j) = some u := by
      intro j u hu
      have hj : j < k.length := by
        rw [← cellsOfBytes_length k]
        exact (List.getElem?_eq_some_iff.1 hu).1
      obtain ⟨ad', e, _, hc⟩ := hr (by rintro rfl; simp at hj)
      injection e with e
      subst e
      rw [cellsOfBytes_get k j hj] at hu
      rw [← Option.some.inj hu]
      exact hc j hj
    obtain ⟨v', w', hrun, g1, g2, _, g4⟩ := run_append_own_at (P := Try.prog) w base 26 ty 5 i (.int .u8 0) 1 1 Try.underlying26 h1 h2 h3 h4 rfl (by omega) v l.length (cellsOfBytes l) hown ad k.length c (cellsOfBytes k)
      (by rw [cellsOfBytes_length]; omega) hcells (oneCell_bytes k) (by unfold maxLen; omega) (by omega) hbase
    refine ⟨v', w', hrun, ?_, g2, g4⟩
    unfold OwnB
    rw [cellsOfBytes_append, List.length_append]
    exact g1

/-- the row's blocks are from base on: all below is as it was -/
theorem grown_below {B : Nat} {a : World} (hb : Below B a w) (hg : w.grownBy w' v.ownBlock) (hB : B ≤ w.heap.size) (h : ∀ k, v.ownBlock = some k → B ≤ k) : Below B a w' := hb.grown hg hB h

theorem grown_cell (hown : OwnB w base v l) (hg : w.grownBy w' v.ownBlock) {p : Addr} (hp : p.block < base) (hbase : base ≤ w.heap.size) : w'.cell? p = w.cell? p :=
  World.cell?_of_block (hg.block _ (Nat.lt_of_lt_of_le hp hbase) (fun e => by have := (hown.lt _ e.symm).1; omega))

theorem wpList_append_run {P : Program} {ops : Array Oper} {rest : List Oper} {o : Oper} {a : Act} {Q : Exit → Act → World → Prop} (hgd : o.guard = none) (s x : Operand) (t : TypeId)
    (ho : o.op = .call { callee := .builtin .append, args := #[s, x], argTypes := #[t, t] }) {v u v' : Value} (hs : a.eval s = v) (hx : a.eval x = u)
    (hrun : (Builtin.append_ #[t, t] o.type #[v, u]).run P w = .ok v' w') (h : wpList P ops Q rest (a.put o.dst v') w') : wpList P ops Q (o :: rest) a w := by
  refine wpList_plain hgd fun K hK => ?_
  unfold Oper.wp execOp
  simp only [ho, resolve, invoke, builtin, Sem.run_bind, Sem.run_pure, Result.andThen_ok, List.map_toArray, List.map_cons, List.map_nil, hs, hx, hrun]
  exact hK _ _ h

theorem wpList_appendB {ops : Array Oper} {rest : List Oper} {o : Oper} {a : Act} {Q : Exit → Act → World → Prop} (hgd : o.guard = none) (s x : Operand) (t : TypeId) (ht : t = 26)
    (ho : o.op = .call { callee := .builtin .append, args := #[s, x], argTypes := #[t, t] })
    (base : Nat) (v : Value) (l : List UInt8) (hs : a.eval s = v) (hown : OwnB w base v l) (A : Option Addr) (k : List UInt8) (m c B : Nat) (hx : a.eval x = .slice A m c) (hm : k.length = m) (hr : BytesAt w B A k)
    (hsz : l.length + k.length ≤ 100000000) (hbase : base ≤ w.heap.size)
    (h : ∀ v' w', OwnB w' base v' (l ++ k) → w.grownBy w' v.ownBlock → (v'.ownBlock = v.ownBlock ∨ v'.ownBlock = some w.heap.size) → wpList Try.prog ops Q rest (a.put o.dst v') w') : wpList Try.prog ops Q (o :: rest) a w := by
  obtain ⟨v', w', hrun, h2, h3, h4⟩ := run_appendB hown hm hr hsz hbase o.type t ht
  exact wpList_append_run hgd s x t ho hs hx hrun (h v' w' h2 h3 h4)
theorem step_append_run {P : Program} {ops : Array Oper} {o : Oper} {a : Act} {K : Act → World → Prop} {Q : Exit → Act → World → Prop} {E : Prop} (hgd : o.guard = none) (s x : Operand) (t : TypeId)
    (ho : o.op = .call { callee := .builtin .append, args := #[s, x], argTypes := #[t, t] }) {v u v' : Value} (hs : a.eval s = v) (hx : a.eval x = u)
    (hrun : (Builtin.append_ #[t, t] o.type #[v, u]).run P w = .ok v' w') (h : K (a.put o.dst v') w') :
    if Region.wanted o (yielded ops a.tmps) = true then Oper.wp P o a w K Q else E := by
  have hw : Region.wanted o (yielded ops a.tmps) = true := by simp [Region.wanted, hgd]
  rw [if_pos hw]
  unfold Oper.wp execOp
  simp only [ho, resolve, invoke, builtin, Sem.run_bind, Sem.run_pure, Result.andThen_ok, List.map_toArray, List.map_cons, List.map_nil, hs, hx, hrun]
  exact h
theorem step_appendB {ops : Array Oper} {o : Oper} {a : Act} {K : Act → World → Prop} {Q : Exit → Act → World → Prop} {E : Prop} (hgd : o.guard = none) (s x : Operand) (t : TypeId) (ht : t = 26)
    (ho : o.op = .call { callee := .builtin .append, args := #[s, x], argTypes := #[t, t] })
    (base : Nat) (v : Value) (l : List UInt8) (hs : a.eval s = v) (hown : OwnB w base v l) (A : Option Addr) (k : List UInt8) (m c B : Nat) (hx : a.eval x = .slice A m c) (hm : k.length = m) (hr : BytesAt w B A k)
    (hsz : l.length + k.length ≤ 100000000) (hbase : base ≤ w.heap.size)
    (h : ∀ v' w', OwnB w' base v' (l ++ k) → w.grownBy w' v.ownBlock → (v'.ownBlock = v.ownBlock ∨ v'.ownBlock = some w.heap.size) → K (a.put o.dst v') w') :
    if Region.wanted o (yielded ops a.tmps) = true then Oper.wp Try.prog o a w K Q else E := by
  obtain ⟨v', w', hrun, h2, h3, h4⟩ := run_appendB hown hm hr hsz hbase o.type t ht
  exact step_append_run hgd s x t ho hs hx hrun (h v' w' h2 h3 h4)
/-- the same, of an append behind a guard -/
theorem step_append_runW {P : Program} {ops : Array Oper} {o : Oper} {a : Act} {K : Act → World → Prop} {Q : Exit → Act → World → Prop} {E : Prop} (hw : Region.wanted o (yielded ops a.tmps) = true) (s x : Operand) (t : TypeId)
    (ho : o.op = .call { callee := .builtin .append, args := #[s, x], argTypes := #[t, t] }) {v u v' : Value} (hs : a.eval s = v) (hx : a.eval x = u)
    (hrun : (Builtin.append_ #[t, t] o.type #[v, u]).run P w = .ok v' w') (h : K (a.put o.dst v') w') :
    if Region.wanted o (yielded ops a.tmps) = true then Oper.wp P o a w K Q else E := by
  rw [if_pos hw]
  unfold Oper.wp execOp
  simp only [ho, resolve, invoke, builtin, Sem.run_bind, Sem.run_pure, Result.andThen_ok, List.map_toArray, List.map_cons, List.map_nil, hs, hx, hrun]
  exact h
set_option maxRecDepth 100000 in
theorem step_appendW {ops : Array Oper} {o : Oper} {a : Act} {K : Act → World → Prop} {Q : Exit → Act → World → Prop} {E : Prop} (hw : Region.wanted o (yielded ops a.tmps) = true) (s x : Operand) (t : TypeId) (ht : t = 26)
    (ho : o.op = .call { callee := .builtin .append, args := #[s, x], argTypes := #[t, t] })
    (base : Nat) (v : Value) (l : List UInt8) (hs : a.eval s = v) (hown : OwnB w base v l) (A : Option Addr) (k : List UInt8) (m c B : Nat) (hx : a.eval x = .slice A m c) (hm : k.length = m) (hr : BytesAt w B A k)
    (hsz : l.length + k.length ≤ 100000000) (hbase : base ≤ w.heap.size)
    (h : ∀ v' w', OwnB w' base v' (l ++ k) → w.grownBy w' v.ownBlock → (v'.ownBlock = v.ownBlock ∨ v'.ownBlock = some w.heap.size) → K (a.put o.dst v') w') :
    if Region.wanted o (yielded ops a.tmps) = true then Oper.wp Try.prog o a w K Q else E := by
  obtain ⟨v', w', hrun, h2, h3, h4⟩ := run_appendB hown hm hr hsz hbase o.type t ht
  exact step_append_runW hw s x t ho hs hx hrun (h v' w' h2 h3 h4)
end

end Go.Proofs.Ytebicjblplkdeaa
