/-
  The document's own disk (tandemref04), while it is being made. Conditions: none.
-/
import Derived.Test.YtkokcdlgfemobaaGreatDoorMirLoose
namespace Go.Proofs.YtkokcdlgfemobaaGreatDoor
open Go.RowKit
set_option maxRecDepth 100000 in
theorem elRows : Elem Tryz.prog 56 32 (.slice none 0 0) 24 := ⟨Tryz.underlying56, ⟨_, rfl, by kernel_rfl, by kernel_rfl, by kernel_rfl⟩, rfl, rfl⟩
def RowP (w : World) (b : Nat) (v0 v1 v : Value) (l : List UInt8) : Prop :=
  ∃ g c, v = .slice (some ⟨g, 0, none⟩) 64 c ∧ (b < g ∧ 64 ≤ c) ∧ g < w.heap.size ∧ v0.ownBlock ≠ some g ∧ v1.ownBlock ≠ some g ∧ BytesAt w w.heap.size (some ⟨g, 0, none⟩) l
structure Part (w : World) (b : Nat) (S : DS) (i0 i1 : Nat) (v0 v1 : Value) (xs ys : List Value) : Prop where
  head : BlkR 58 w b [v0, v1, .bool S.out, .int .i64 S.leftI, .int .i64 (S.ops : Int)]
  o0 : OwnR 32 w (b + 1) v0 xs
  o1 : OwnR 32 w (b + 1) v1 ys
  l0 : xs.length = i0
  l1 : ys.length = i1
  ne : ∀ k, v0.ownBlock = some k → v1.ownBlock ≠ some k
  fr : ∀ j, j < i0 → ∃ v, xs[j]? = some v ∧ RowP w b v0 v1 v (S.firm j)
  ln : ∀ j, j < i1 → S.loose j = none → ys[j]? = some (.slice none 0 0)
  ls : ∀ j l, j < i1 → S.loose j = some l → ∃ v, ys[j]? = some v ∧ RowP w b v0 v1 v l
section
variable {w w' w2 : World} {b i0 i1 : Nat} {S : DS} {xs ys : List Value} {v v0 v1 v' : Value} {l : List UInt8}
theorem RowP.kept (h : RowP w b v0 v1 v l) (hs : w.heap.size ≤ w'.heap.size) {u0 u1 : Value} (h0 : ∀ g, b < g → g < w.heap.size → v0.ownBlock ≠ some g → v1.ownBlock ≠ some g → w'.heap[g]? = w.heap[g]? ∧ u0.ownBlock ≠ some g ∧ u1.ownBlock ≠ some g) : RowP w' b u0 u1 v l := by
  obtain ⟨g, c, e, h1, h2, h3, h4, h5⟩ := h
  obtain ⟨k1, k2, k3⟩ := h0 g h1.1 h2 h3 h4
  exact ⟨g, c, e, h1, Nat.lt_of_lt_of_le h2 hs, k2, k3, h5.kept hs fun ad e => by cases e; exact k1⟩
/-- new memory leaves it as it is -/
theorem Part.step (h : Part w b S i0 i1 v0 v1 xs ys) (hb : Below w.heap.size w w') : Part w' b S i0 i1 v0 v1 xs ys :=
  { h with
    head := h.head.below hb h.head.lt, o0 := h.o0.below hb (Nat.le_refl _), o1 := h.o1.below hb (Nat.le_refl _),
    fr := fun j hj => by obtain ⟨v, e, r⟩ := h.fr j hj; exact ⟨v, e, r.kept hb.size fun g _ h2 h3 h4 => ⟨hb.block g h2, h3, h4⟩⟩,
    ls := fun j l hj hl => by obtain ⟨v, e, r⟩ := h.ls j l hj hl; exact ⟨v, e, r.kept hb.size fun g _ h2 h3 h4 => ⟨hb.block g h2, h3, h4⟩⟩ }
theorem OwnR.grown_other {E : TypeId} {base : Nat} (h : OwnR E w base v xs) (hg : w.grownBy w' v0.ownBlock) (hne : ∀ k, v0.ownBlock = some k → v.ownBlock ≠ some k) : OwnR E w' base v xs :=
  World.ownsRow.kept (row := v0.ownBlock) h hg (by
    rcases hv : v.ownBlock with _ | k
    · exact .inl rfl
    · exact .inr (fun e => hne k e.symm hv))
/-- the first row of rows, one row longer -/
theorem Part.push0 (h : Part w b S i0 i1 v0 v1 xs ys) (hg : w.grownBy w' v0.ownBlock) (ho : OwnR 32 w' (b + 1) v' (xs ++ [v])) (hat : v'.ownBlock = v0.ownBlock ∨ v'.ownBlock = some w.heap.size) (hv : RowP w b v0 v1 v (S.firm i0)) :
    Part (w'.setCell ⟨b, 0, none⟩ v') b S (i0 + 1) i1 v' v1 (xs ++ [v]) ys := by
  have hsz := set_size w' ⟨b, 0, none⟩ v'
  have hs : w.heap.size ≤ (w'.setCell ⟨b, 0, none⟩ v').heap.size := by rw [hsz]; exact hg.size
  have hblk : ∀ g, b < g → g < w.heap.size → v0.ownBlock ≠ some g → v1.ownBlock ≠ some g → (w'.setCell ⟨b, 0, none⟩ v').heap[g]? = w.heap[g]? ∧ v'.ownBlock ≠ some g ∧ v1.ownBlock ≠ some g := fun g h1 h2 h3 h4 =>
    ⟨(Below.heap_setCell w' ⟨b, 0, none⟩ v' g (by show g ≠ b; omega)).trans (hg.block g h2 (fun e => h3 e.symm)), fun e => (hat.elim (fun q => h3 (q.symm.trans e)) (fun q => by rw [q] at e; have := Option.some.inj e; omega)), h4⟩
  refine ⟨?_, ho.far (by show b < b + 1; omega) v', (h.o1.grown_other hg h.ne).far (by show b < b + 1; omega) v', by rw [List.length_append, h.l0]; rfl, h.l1, fun k hk hk1 => ?_, fun j hj => ?_, h.ln, fun j l hj hl => ?_⟩
  · have hb : BlkR 58 w' b _ := (hg.block b h.head.lt (fun e => by have := (h.o0.lt b e.symm).1; omega)).trans h.head
    exact hb.set_ 0 v'
  · rcases hat with q | q
    · exact h.ne k (q.symm.trans hk) hk1
    · rw [q] at hk; have := Option.some.inj hk; have := (h.o1.lt k hk1).2; omega
  · by_cases e : j < i0
    · obtain ⟨u, e1, r⟩ := h.fr j e
      exact ⟨u, by rw [List.getElem?_append_left (by rw [h.l0]; exact e)]; exact e1, r.kept hs hblk⟩
    · obtain rfl : j = i0 := by omega
      exact ⟨v, by rw [← h.l0]; simp, hv.kept hs hblk⟩
  · obtain ⟨u, e1, r⟩ := h.ls j l hj hl
    exact ⟨u, e1, r.kept hs hblk⟩
/-- the second one, one row longer -/
theorem Part.push1 (h : Part w b S i0 i1 v0 v1 xs ys) (hg : w.grownBy w' v1.ownBlock) (ho : OwnR 32 w' (b + 1) v' (ys ++ [v])) (hat : v'.ownBlock = v1.ownBlock ∨ v'.ownBlock = some w.heap.size)
    (hv : (S.loose i1 = none ∧ v = .slice none 0 0) ∨ ∃ l, S.loose i1 = some l ∧ RowP w b v0 v1 v l) :
    Part (w'.setCell ⟨b, 1, none⟩ v') b S i0 (i1 + 1) v0 v' xs (ys ++ [v]) := by
  have hsz := set_size w' ⟨b, 1, none⟩ v'
  have hs : w.heap.size ≤ (w'.setCell ⟨b, 1, none⟩ v').heap.size := by rw [hsz]; exact hg.size
  have hblk : ∀ g, b < g → g < w.heap.size → v0.ownBlock ≠ some g → v1.ownBlock ≠ some g → (w'.setCell ⟨b, 1, none⟩ v').heap[g]? = w.heap[g]? ∧ v0.ownBlock ≠ some g ∧ v'.ownBlock ≠ some g := fun g h1 h2 h3 h4 =>
    ⟨(Below.heap_setCell w' ⟨b, 1, none⟩ v' g (by show g ≠ b; omega)).trans (hg.block g h2 (fun e => h4 e.symm)), h3, fun e => (hat.elim (fun q => h4 (q.symm.trans e)) (fun q => by rw [q] at e; have := Option.some.inj e; omega))⟩
  refine ⟨?_, (h.o0.grown_other hg (fun k h1 h2 => h.ne k h2 h1)).far (by show b < b + 1; omega) v', ho.far (by show b < b + 1; omega) v', h.l0, by rw [List.length_append, h.l1]; rfl, fun k hk hk1 => ?_, fun j hj => ?_, fun j hj hl => ?_, fun j l hj hl => ?_⟩
  · have hb : BlkR 58 w' b _ := (hg.block b h.head.lt (fun e => by have := (h.o1.lt b e.symm).1; omega)).trans h.head
    exact hb.set_ 1 v'
  · rcases hat with q | q
    · exact h.ne k hk (q.symm.trans hk1)
    · rw [q] at hk1; have := Option.some.inj hk1; have := (h.o0.lt k hk).2; omega
  · obtain ⟨u, e1, r⟩ := h.fr j hj
    exact ⟨u, e1, r.kept hs hblk⟩
  · by_cases e : j < i1
    · rw [List.getElem?_append_left (by rw [h.l1]; exact e)]; exact h.ln j e hl
    · obtain rfl : j = i1 := by omega
      rcases hv with ⟨_, rfl⟩ | ⟨l, hl2, _⟩
      · rw [← h.l1]; simp
      · rw [hl] at hl2; cases hl2
  · by_cases e : j < i1
    · obtain ⟨u, e1, r⟩ := h.ls j l e hl
      exact ⟨u, by rw [List.getElem?_append_left (by rw [h.l1]; exact e)]; exact e1, r.kept hs hblk⟩
    · obtain rfl : j = i1 := by omega
      rcases hv with ⟨hl2, _⟩ | ⟨l', hl2, r⟩
      · rw [hl] at hl2; cases hl2
      · rw [hl] at hl2; cases hl2
        exact ⟨v, by rw [← h.l1]; simp, r.kept hs hblk⟩
theorem OwnR.whole {E : TypeId} {base : Nat} (h : OwnR E w base v xs) (hpos : 0 < xs.length) : ∃ g c zs, v = .slice (some ⟨g, 0, none⟩) xs.length c ∧ xs.length ≤ c ∧ base ≤ g ∧ BlkR E w g zs ∧ (∀ j, j < xs.length → zs[j]? = xs[j]?) ∧ v.ownBlock = some g := by
  rcases h.2 with ⟨_, h0⟩ | ⟨g, cap, cur, hv, hb, hg, hnc, _, _, ht⟩
  · omega
  · refine ⟨g, cap, cur.toList, hv, hnc, hb, by unfold BlkR; rw [hg], fun j hj => ?_, by rw [hv]; rfl⟩
    rw [Nat.mul_one] at ht
    rw [← ht, List.getElem?_take, if_pos hj]
/-- made whole -/
theorem Part.mir (h : Part w b S S.n S.n v0 v1 xs ys) (hok : S.Ok) (hl : ∀ k, S.left = some k → k ≤ 9223372036854775807) : Mir w b (fun k => b ≤ k ∧ k < w.heap.size) S := by
  have hn := hok.n1
  obtain ⟨g0, c0, zs, rfl, hc0, hg0, hb0, hz0, ho0⟩ := h.o0.whole (by rw [h.l0]; omega)
  obtain ⟨g1, c1, us, rfl, hc1, hg1, hb1, hz1, ho1⟩ := h.o1.whole (by rw [h.l1]; omega)
  have hh := h.head
  rw [h.l0, h.l1] at hh
  have hne : g0 ≠ g1 := fun e => h.ne g0 ho0 (e ▸ ho1)
  have row : ∀ {v l}, RowP w b (.slice (some ⟨g0, 0, none⟩) xs.length c0) (.slice (some ⟨g1, 0, none⟩) ys.length c1) v l → RowB w (fun k => b ≤ k ∧ k < w.heap.size) b g0 g1 v l := fun ⟨g, c, e, h1, h2, h3, h4, h5⟩ =>
    ⟨g, c, e, ⟨⟨by omega, h2⟩, h1.2⟩, by omega, fun e => h3 (e ▸ ho0), fun e => h4 (e ▸ ho1), h5⟩
  refine ⟨g0, g1, c0, c1, zs, us, hok, hl, hh, hb0, hb1, by rw [← h.l0]; exact hc0, by rw [← h.l1]; exact hc1, ⟨Nat.le_refl _, h.head.lt⟩, ⟨by omega, hb0.lt⟩, ⟨by omega, hb1.lt⟩, by omega, by omega, hne, fun k hk => hk.2, fun i hi => ?_, fun i hi hn => ?_, fun i l hi => ?_⟩
  · obtain ⟨v, e, r⟩ := h.fr i hi
    exact ⟨v, (hz0 i (by rw [h.l0]; exact hi)).trans e, row r⟩
  · exact (hz1 i (by rw [h.l1]; exact hi)).trans (h.ln i hi hn)
  · obtain ⟨v, e, r⟩ := h.ls i l (hok.loose i l hi).1 hi
    exact ⟨v, (hz1 i (by rw [h.l1]; exact (hok.loose i l hi).1)).trans e, row r⟩
end
end Go.Proofs.YtkokcdlgfemobaaGreatDoor
