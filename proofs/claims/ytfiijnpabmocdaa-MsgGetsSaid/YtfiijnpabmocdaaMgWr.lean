/-
  A message's parts laid as bytes: the writer. Conditions: none.
-/
import Derived.Test.YtfiijnpabmocdaaMgSmall
import Derived.Test.YtfiijnpabmocdaaFx
namespace Go.Proofs.Ytfiijnpabmocdaa
open Go.RowKit Mg

/-- the message at gm, the writer at gw with the bytes a, in the block g -/
structure WrAt (base gm gw : Nat) (w : World) (F : Nat → Prop) (m : M) (a : List UInt8) (A : Option Addr) (c g cg : Nat) : Prop where
  msg : BlkR 27 w gm (mCells m (.slice A m.data.length c))
  dat : BytesAt w base A m.data
  wr : BlkR 46 w gw [.slice (some ⟨g, 0, none⟩) a.length cg]
  buf : BlkR 5 w g (cellsOfBytes (a ++ List.replicate (cg - a.length) 0))
  len : a.length ≤ cg
  cap : cg ≤ 9223372036854775807
  blk : ∀ k, F k ↔ k = gm ∨ k = gw ∨ k = g
  lo : base ≤ gm ∧ base ≤ gw ∧ base ≤ g ∧ base ≤ w.heap.size
  ne : gm ≠ gw ∧ gm ≠ g ∧ gw ≠ g
def WrInv (base gm gw : Nat) (w : World) (F : Nat → Prop) (m : M) (a : List UInt8) : Prop := ∃ A c g cg, WrAt base gm gw w F m a A c g cg
section
variable {base gm gw : Nat} {w w' w2 w3 : World} {F : Nat → Prop} {m : M} {a k : List UInt8} {A : Option Addr} {c g cg : Nat} {v : Value}
theorem WrAt.frame (h : WrAt base gm gw w F m a A c g cg) {G : Nat → Prop} (hG : Frame G w w') (hd : ∀ k, G k → ¬ F k ∧ base ≤ k) : WrAt base gm gw w' F m a A c g cg := by
  have hb : Below base w w' := hG.below (fun k hk => (hd k hk).2) h.lo.2.2.2
  have hm := hG.block gm h.msg.lt (fun x => (hd _ x).1 ((h.blk _).2 (.inl rfl)))
  have hw := hG.block gw h.wr.lt (fun x => (hd _ x).1 ((h.blk _).2 (.inr (.inl rfl))))
  have hg := hG.block g h.buf.lt (fun x => (hd _ x).1 ((h.blk _).2 (.inr (.inr rfl))))
  exact ⟨hm.trans h.msg, h.dat.below hb, hw.trans h.wr, hg.trans h.buf, h.len, h.cap, h.blk, ⟨h.lo.1, h.lo.2.1, h.lo.2.2.1, Nat.le_trans h.lo.2.2.2 hG.size⟩, h.ne⟩
theorem WrAt.step (h : WrAt base gm gw w F m a A c g cg) (hB : Below w.heap.size w w') : WrAt base gm gw w' F m a A c g cg :=
  h.frame (G := fun _ => False) (Frame.of_below hB) (fun _ x => x.elim)
theorem WrAt.own (h : WrAt base gm gw w F m a A c g cg) : ∀ k, F k → k < w.heap.size := fun k hk => by
  rcases (h.blk k).1 hk with rfl | rfl | rfl
  · exact h.msg.lt
  · exact h.wr.lt
  · exact h.buf.lt
theorem setG_frame (w : World) (b i : Nat) (v : Value) : Frame (fun k => k = b) w (w.setCell ⟨b, i, none⟩ v) := (Frame.refl _ w).setAt ⟨b, i, none⟩ v rfl
/-- a store into the message -/
theorem WrAt.msgSet (h : WrAt base gm gw w F m a A c g cg) {m' : M} {A' : Option Addr} {n' c' i : Nat} {v : Value} (hc : (mCells m (.slice A m.data.length c)).set i v = mCells m' (.slice A' n' c')) (hn : n' = m'.data.length) (hd : BytesAt w base A' m'.data) :
    WrAt base gm gw (w.setCell ⟨gm, i, none⟩ v) F m' a A' c' g cg := by
  subst hn
  have hG := setG_frame w gm i v
  have hb : Below base w (w.setCell ⟨gm, i, none⟩ v) := hG.below (fun k hk => by have := h.lo.1; omega) h.lo.2.2.2
  have hw := hG.block gw h.wr.lt (fun x => h.ne.1 x.symm)
  have hg := hG.block g h.buf.lt (fun x => h.ne.2.1 x.symm)
  have hm := h.msg.set_ i v
  rw [hc] at hm
  exact ⟨hm, hd.below hb, hw.trans h.wr, hg.trans h.buf, h.len, h.cap, h.blk, ⟨h.lo.1, h.lo.2.1, h.lo.2.2.1, Nat.le_trans h.lo.2.2.2 hG.size⟩, h.ne⟩
/-- bytes more -/
theorem WrAt.grow (h : WrAt base gm gw w F m a A c g cg) (hB : Below w.heap.size w w2) (hG : GrowPost w2 g a k v w3) :
    w3.cell? ⟨gw, 0, none⟩ = some (.slice (some ⟨g, 0, none⟩) a.length cg) ∧ w3.frozen? ⟨gw, 0, none⟩ = false ∧ CarPost (fun w F a => WrInv base gm gw w F m a) w F (a ++ k) (w3.setCell ⟨gw, 0, none⟩ v) := by
  obtain ⟨g', c', rfl, hc', hb', hl', hg', hF⟩ := hG
  have h2 := h.step hB
  have hwne : gw ≠ g := h.ne.2.2
  have hmne : gm ≠ g := h.ne.2.1
  have hw3 : BlkR 46 w3 gw [.slice (some ⟨g, 0, none⟩) a.length cg] := (hF.block gw h2.wr.lt hwne).trans h2.wr
  have hm3 : BlkR 27 w3 gm (mCells m (.slice A m.data.length c)) := (hF.block gm h2.msg.lt hmne).trans h2.msg
  have hS := setG_frame w3 gw 0 (.slice (some ⟨g', 0, none⟩) (a.length + k.length) c')
  have hgw : g' ≠ gw := fun e => by
    rcases hg' with e1 | e1
    · exact hwne (e.symm.trans e1)
    · have := h2.wr.lt; omega
  have hgm : g' ≠ gm := fun e => by
    rcases hg' with e1 | e1
    · exact hmne (e.symm.trans e1)
    · have := h2.msg.lt; omega
  have hsz := hB.size
  have hlo := h2.lo
  have hall : Frame F w (w3.setCell ⟨gw, 0, none⟩ (.slice (some ⟨g', 0, none⟩) (a.length + k.length) c')) :=
    ((Frame.of_below hB).trans (hF.mono (fun x hx => (h.blk x).2 (.inr (.inr hx)))) (fun k hk => .inl hk)).trans (hS.mono (fun x hx => (h.blk x).2 (.inr (.inl hx)))) (fun k hk => .inl hk)
  have hbel : Below base w (w3.setCell ⟨gw, 0, none⟩ (.slice (some ⟨g', 0, none⟩) (a.length + k.length) c')) := hall.below (fun x hx => by
    rcases (h.blk x).1 hx with rfl | rfl | rfl
    · exact h.lo.1
    · exact h.lo.2.1
    · exact h.lo.2.2.1) h.lo.2.2.2
  refine ⟨hw3.cell rfl, hw3.frozen 0, fun x => x = gm ∨ x = gw ∨ x = g', ⟨A, c, g', c', (hS.block gm hm3.lt h.ne.1).trans hm3, h.dat.below hbel, ?_, (hS.block g' hb'.lt hgw).trans ?_, ?_, hc', fun x => Iff.rfl, ⟨h.lo.1, h.lo.2.1, ?_, Nat.le_trans h.lo.2.2.2 hall.size⟩, h.ne.1, hgm.symm, hgw.symm⟩, fun x hx => ?_, hall⟩
  · have := hw3.set_ 0 (.slice (some ⟨g', 0, none⟩) (a.length + k.length) c')
    rw [List.length_append]
    exact this
  · rw [List.length_append]; exact hb'
  · rw [List.length_append]; exact hl'
  · rcases hg' with rfl | e1
    · exact h.lo.2.2.1
    · have := h.lo.2.2.2; omega
  · rcases hx with rfl | rfl | rfl
    · exact .inl ((h.blk _).2 (.inl rfl))
    · exact .inl ((h.blk _).2 (.inr (.inl rfl)))
    · rcases hg' with rfl | e1
      · exact .inl ((h.blk _).2 (.inr (.inr rfl)))
      · exact .inr (by omega)
end
end Go.Proofs.Ytfiijnpabmocdaa
