/-
  The document's own disk (tandemref04): how it lies in memory, and what its smaller methods do. Conditions: none.
-/
import Derived.Test.YtkokcdlgfemobaaGreatDoorDa
import Derived.Test.YtkokcdlgfemobaaGreatDoorBa
namespace Go.Proofs.YtkokcdlgfemobaaGreatDoor
open Go.RowKit

namespace DS
/-- the fuse as a number -/
def leftI (S : DS) : Int := match S.left with | none => -1 | some k => (k : Int)
end DS
/-- v is a slice of 64 bytes l, whose block is among F and none of the three -/
def RowB (w : World) (F : Nat → Prop) (b g0 g1 : Nat) (v : Value) (l : List UInt8) : Prop :=
  ∃ g c, v = .slice (some ⟨g, 0, none⟩) 64 c ∧ (F g ∧ 64 ≤ c) ∧ g ≠ b ∧ g ≠ g0 ∧ g ≠ g1 ∧ BytesAt w w.heap.size (some ⟨g, 0, none⟩) l
structure MirL (w : World) (b : Nat) (F : Nat → Prop) (S : DS) (g0 g1 c0 c1 : Nat) (xs ys : List Value) : Prop where
  ok : S.Ok
  left : ∀ k, S.left = some k → k ≤ 9223372036854775807
  head : BlkR 58 w b [.slice (some ⟨g0, 0, none⟩) S.n c0, .slice (some ⟨g1, 0, none⟩) S.n c1, .bool S.out, .int .i64 S.leftI, .int .i64 (S.ops : Int)]
  firm : BlkR 32 w g0 xs
  last : BlkR 32 w g1 ys
  cap0 : S.n ≤ c0
  cap1 : S.n ≤ c1
  Fb : F b
  F0 : F g0
  F1 : F g1
  n0 : b ≠ g0
  n1 : b ≠ g1
  n2 : g0 ≠ g1
  lt : ∀ k, F k → k < w.heap.size
  fr : ∀ i, i < S.n → ∃ v, xs[i]? = some v ∧ RowB w F b g0 g1 v (S.firm i)
  ln : ∀ i, i < S.n → S.loose i = none → ys[i]? = some (.slice none 0 0)
  ls : ∀ i l, S.loose i = some l → ∃ v, ys[i]? = some v ∧ RowB w F b g0 g1 v l
/-- the document's disk at block b -/
def Mir (w : World) (b : Nat) (F : Nat → Prop) (S : DS) : Prop := ∃ g0 g1 c0 c1 xs ys, MirL w b F S g0 g1 c0 c1 xs ys

section
variable {w w' : World} {b g0 g1 c0 c1 : Nat} {F G : Nat → Prop} {S T : DS} {xs ys : List Value} {v : Value} {l : List UInt8}
theorem BytesAt.kept {A : Option Addr} (h : BytesAt w w.heap.size A l) (hs : w.heap.size ≤ w'.heap.size) (hk : ∀ ad, A = some ad → w'.heap[ad.block]? = w.heap[ad.block]?) : BytesAt w' w'.heap.size A l := fun hl => by
  obtain ⟨ad, e, hb, hc⟩ := h hl
  refine ⟨ad, e, Nat.lt_of_lt_of_le hb hs, fun k hk' => ?_⟩
  rw [← hc k hk']
  exact World.cell?_of_block (w := w) (by rw [block_add]; exact hk ad e)
theorem RowB.kept (h : RowB w F b g0 g1 v l) (hs : w.heap.size ≤ w'.heap.size) (hk : ∀ k, F k → k ≠ b → k ≠ g0 → k ≠ g1 → w'.heap[k]? = w.heap[k]?) : RowB w' F b g0 g1 v l := by
  obtain ⟨g, c, e, hg, x0, x1, x2, hb⟩ := h
  exact ⟨g, c, e, hg, x0, x1, x2, hb.kept hs fun ad e => by cases e; exact hk g hg.1 x0 x1 x2⟩
theorem RowB.mono (h : RowB w F b g0 g1 v l) (hF : ∀ k, F k → G k) : RowB w G b g0 g1 v l := by
  obtain ⟨g, c, e, hg, r⟩ := h
  exact ⟨g, c, e, ⟨hF g hg.1, hg.2⟩, r⟩
theorem MirL.kept (h : MirL w b F S g0 g1 c0 c1 xs ys) (hs : w.heap.size ≤ w'.heap.size) (hk : ∀ k, F k → w'.heap[k]? = w.heap[k]?) : MirL w' b F S g0 g1 c0 c1 xs ys :=
  { h with
    head := (hk b h.Fb).trans h.head, firm := (hk g0 h.F0).trans h.firm, last := (hk g1 h.F1).trans h.last, lt := fun k hk' => Nat.lt_of_lt_of_le (h.lt k hk') hs,
    fr := fun i hi => by obtain ⟨v, e, r⟩ := h.fr i hi; exact ⟨v, e, r.kept hs fun k hF _ _ _ => hk k hF⟩,
    ls := fun i l hl => by obtain ⟨v, e, r⟩ := h.ls i l hl; exact ⟨v, e, r.kept hs fun k hF _ _ _ => hk k hF⟩ }
theorem Mir.keep (h : Mir w b F S) (hs : w.heap.size ≤ w'.heap.size) (hk : ∀ k, F k → w'.heap[k]? = w.heap[k]?) : Mir w' b F S := by
  obtain ⟨g0, g1, c0, c1, xs, ys, h⟩ := h
  exact ⟨g0, g1, c0, c1, xs, ys, h.kept hs hk⟩
theorem Mir.lt (h : Mir w b F S) : ∀ k, F k → k < w.heap.size := by
  obtain ⟨g0, g1, c0, c1, xs, ys, h⟩ := h
  exact h.lt
theorem Mir.ok (h : Mir w b F S) : S.Ok := by
  obtain ⟨g0, g1, c0, c1, xs, ys, h⟩ := h
  exact h.ok
theorem Mir.step (h : Mir w b F S) (hb : Below w.heap.size w w') : Mir w' b F S := h.keep hb.size fun k hk => hb.block k (h.lt k hk)
theorem MirL.step (h : MirL w b F S g0 g1 c0 c1 xs ys) (hb : Below w.heap.size w w') : MirL w' b F S g0 g1 c0 c1 xs ys := h.kept hb.size fun k hk => hb.block k (h.lt k hk)
theorem MirL.frame (h : MirL w b F S g0 g1 c0 c1 xs ys) (hFr : Frame G w w') (hG : ∀ k, F k → ¬ G k) : MirL w' b F S g0 g1 c0 c1 xs ys := h.kept hFr.size fun k hk => hFr.block k (h.lt k hk) (hG k hk)
theorem Mir.frame (h : Mir w b F S) (hFr : Frame G w w') (hG : ∀ k, F k → ¬ G k) : Mir w' b F S := h.keep hFr.size fun k hk => hFr.block k (h.lt k hk) (hG k hk)
/-- a field of the head, turned: the state's other parts are as they were -/
theorem MirL.head_set (h : MirL w b F S g0 g1 c0 c1 xs ys) (k : Nat) (u : Value) (hT : T.n = S.n ∧ T.firm = S.firm ∧ T.loose = S.loose) (hl : ∀ k, T.left = some k → k ≤ 9223372036854775807)
    (e : [Value.slice (some ⟨g0, 0, none⟩) S.n c0, .slice (some ⟨g1, 0, none⟩) S.n c1, .bool S.out, .int .i64 S.leftI, .int .i64 (S.ops : Int)].set k u = [.slice (some ⟨g0, 0, none⟩) T.n c0, .slice (some ⟨g1, 0, none⟩) T.n c1, .bool T.out, .int .i64 T.leftI, .int .i64 (T.ops : Int)]) :
    MirL (w.setCell ⟨b, k, none⟩ u) b F T g0 g1 c0 c1 xs ys := by
  obtain ⟨t1, t2, t3⟩ := hT
  have hsz : (w.setCell ⟨b, k, none⟩ u).heap.size = w.heap.size := by simp [World.setCell]
  have ho : ∀ j, j ≠ b → (w.setCell ⟨b, k, none⟩ u).heap[j]? = w.heap[j]? := fun j hj => Below.heap_setCell w ⟨b, k, none⟩ u j hj
  refine ⟨⟨by rw [t1]; exact h.ok.n1, by rw [t1]; exact h.ok.n2, fun i hi => by rw [t2]; exact h.ok.firm i (by rw [← t1]; exact hi), fun i l hi => by rw [t1]; rw [t3] at hi; exact h.ok.loose i l hi⟩, hl, ?_,
    (ho g0 h.n0.symm).trans h.firm, (ho g1 h.n1.symm).trans h.last, by rw [t1]; exact h.cap0, by rw [t1]; exact h.cap1, h.Fb, h.F0, h.F1, h.n0, h.n1, h.n2, fun k hk => by rw [hsz]; exact h.lt k hk, fun i hi => ?_, fun i hi hn => ?_, fun i l hi => ?_⟩
  · rw [← e]; exact h.head.set_ k u
  · rw [t1] at hi; rw [t2]
    obtain ⟨v, e, r⟩ := h.fr i hi
    exact ⟨v, e, r.kept (Nat.le_of_eq hsz.symm) fun j _ hj _ _ => ho j hj⟩
  · rw [t1] at hi; rw [t3] at hn
    exact h.ln i hi hn
  · rw [t3] at hi
    obtain ⟨v, e, r⟩ := h.ls i l hi
    exact ⟨v, e, r.kept (Nat.le_of_eq hsz.symm) fun j _ hj _ _ => ho j hj⟩
theorem frame_set (w : World) (b k : Nat) (u : Value) (hF : F b) : Frame F w (w.setCell ⟨b, k, none⟩ u) := ⟨rfl, rfl, rfl, Nat.le_of_eq (by simp [World.setCell]), fun j _ hj => Below.heap_setCell w ⟨b, k, none⟩ u j (fun e => hj (by rw [show j = b from e]; exact hF))⟩

theorem MirL.cell0 (h : MirL w b F S g0 g1 c0 c1 xs ys) : w.cell? ⟨b, 0, none⟩ = some (.slice (some ⟨g0, 0, none⟩) S.n c0) := h.head.cell rfl
theorem MirL.cell1 (h : MirL w b F S g0 g1 c0 c1 xs ys) : w.cell? ⟨b, 1, none⟩ = some (.slice (some ⟨g1, 0, none⟩) S.n c1) := h.head.cell rfl
theorem MirL.cell2 (h : MirL w b F S g0 g1 c0 c1 xs ys) : w.cell? ⟨b, 2, none⟩ = some (.bool S.out) := h.head.cell rfl
theorem MirL.cell3 (h : MirL w b F S g0 g1 c0 c1 xs ys) : w.cell? ⟨b, 3, none⟩ = some (.int .i64 S.leftI) := h.head.cell rfl
theorem MirL.cell4 (h : MirL w b F S g0 g1 c0 c1 xs ys) : w.cell? ⟨b, 4, none⟩ = some (.int .i64 (S.ops : Int)) := h.head.cell rfl
end

theorem mThere (w : World) (b : Nat) (F : Nat → Prop) (S : DS) (i : Int) (h : Mir w b F S) : Calls Tryz.prog 48 #[.pointer (some ⟨b, 0, none⟩), .int .i64 i] w fun e w' => e = .returned (.bool (S.there i)) ∧ w = w' := by
  obtain ⟨g0, g1, c0, c1, xs, ys, h⟩ := h
  have x0 := h.cell0
  obtain ⟨n, hn⟩ : ∃ n, n = S.n := ⟨_, rfl⟩
  have hT : S.there i = (decide (0 ≤ i) && decide (i < (n : Int))) := by rw [hn]; rfl
  rw [hT]
  rw [← hn] at x0
  clear h hT hn
  by_cases h1 : 0 ≤ i
  · go_enter Tryz.func48, Tryz.ntmps48
    go_wp2
    go_ret
    exact ⟨by simp [h1], rfl⟩
  · go_enter Tryz.func48, Tryz.ntmps48
    go_wp2
    go_ret
    exact ⟨by simp; omega, rfl⟩
theorem mFuse (w : World) (b : Nat) (F : Nat → Prop) (S : DS) (n : Int) (h : Mir w b F S) (hn : -9223372036854775808 ≤ n) (hn2 : n ≤ 9223372036854775807) :
    Calls Tryz.prog 32 #[.pointer (some ⟨b, 0, none⟩), .int .i64 n] w fun e w' => e = .returned (.int .i64 (S.fuse n).2) ∧ Mir w' b F (S.fuse n).1 ∧ Frame F w w' := by
  have hM := h
  obtain ⟨g0, g1, c0, c1, xs, ys, h⟩ := h
  have x2 := h.cell2
  have f3 := h.head.frozen 3
  have x3 := h.cell3
  have HH := Lib.hid h
  replace hM := Lib.hid hM
  clear h
  cases ho : S.out with
  | true =>
    rw [show S.fuse n = (S, 10) by simp [DS.fuse, ho]]
    rw [ho] at x2
    go_enter Tryz.func32, Tryz.ntmps32
    go_wp2
    go_ret
    exact ⟨rfl, hM.out, Frame.refl _ _⟩
  | false =>
    rw [ho] at x2
    by_cases h1 : n < 0
    · rw [show S.fuse n = (S, 2) by simp [DS.fuse, ho, h1]]
      go_enter Tryz.func32, Tryz.ntmps32
      go_wp2
      go_ret
      exact ⟨rfl, hM.out, Frame.refl _ _⟩
    · rw [show S.fuse n = ({ S with left := some n.toNat }, 0) by simp [DS.fuse, ho, h1]]
      clear ho
      go_enter Tryz.func32, Tryz.ntmps32
      go_wp2
      go_ret
      refine ⟨rfl, ⟨g0, g1, c0, c1, xs, ys, HH.out.head_set (T := { S with left := some n.toNat }) 3 (.int .i64 n) ⟨rfl, rfl, rfl⟩ (fun k hk => ?_) ?_⟩, frame_set w b 3 _ HH.out.Fb⟩
      · have := Option.some.inj hk; omega
      · simp [DS.leftI]; omega
/-- a change more, if one is allowed -/
theorem mChange (w : World) (b : Nat) (F : Nat → Prop) (S : DS) (h : Mir w b F S) (ho : S.ops ≤ 1000000) (hout : S.out = false) :
    Calls Tryz.prog 49 #[.pointer (some ⟨b, 0, none⟩)] w fun e w' => e = .returned (.bool S.chg.isSome) ∧ Mir w' b F (S.chg.getD { S with out := true }) ∧ Frame F w w' := by
  obtain ⟨g0, g1, c0, c1, xs, ys, h⟩ := h
  have x2 := h.cell2
  have x3 := h.cell3
  have x4 := h.cell4
  have f2 := h.head.frozen 2
  have f3 := h.head.frozen 3
  have f4 := h.head.frozen 4
  have hl := h.left
  have HH := Lib.hid h
  unfold DS.chg
  clear h
  have e4 : IntKind.i64.wrap ((S.ops : Int) + 1) = (S.ops : Int) + 1 := IntWalk.i64_in _ (by omega)
  match hS : S.left with
  | none =>
    rw [show S.leftI = -1 by simp [DS.leftI, hS]] at x3
    go_enter Tryz.func49, Tryz.ntmps49
    go_wp2
    go_ret
    refine ⟨rfl, ⟨g0, g1, c0, c1, xs, ys, HH.out.head_set (T := { S with left := none, ops := S.ops + 1 }) 4 _ ⟨rfl, rfl, rfl⟩ (fun k hk => by cases hk) ?_⟩, frame_set w b 4 _ HH.out.Fb⟩
    simp [DS.leftI, hS]
  | some 0 =>
    rw [show S.leftI = 0 by simp [DS.leftI, hS]] at x3
    go_enter Tryz.func49, Tryz.ntmps49
    go_wp2
    go_ret
    rw [← hS]
    exact ⟨rfl, ⟨g0, g1, c0, c1, xs, ys, HH.out.head_set (T := { S with out := true }) 2 (.bool true) ⟨rfl, rfl, rfl⟩ (fun k hk => hl k hk) (by simp [DS.leftI])⟩, frame_set w b 2 _ HH.out.Fb⟩
  | some (k + 1) =>
    have hk := hl _ hS
    rw [show S.leftI = (k : Int) + 1 by simp [DS.leftI, hS]] at x3
    have e3 : IntKind.i64.wrap ((k : Int) + 1 - 1) = (k : Int) := by rw [IntWalk.i64_in _ (by omega)]; omega
    go_enter Tryz.func49, Tryz.ntmps49
    go_wp2
    go_ret
    have h1 := HH.out.head_set (T := { S with left := some k }) 3 (.int .i64 (k : Int)) ⟨rfl, rfl, rfl⟩ (fun j hj => by have := Option.some.inj hj; omega) (by simp [DS.leftI])
    have h2 := h1.head_set (T := { S with left := some k, ops := S.ops + 1 }) 4 (.int .i64 ((S.ops : Int) + 1)) ⟨rfl, rfl, rfl⟩ (fun j hj => by have := Option.some.inj hj; omega) (by simp [DS.leftI])
    refine ⟨rfl, ⟨g0, g1, c0, c1, xs, ys, ?_⟩, ?_⟩
    · exact h2
    · exact (frame_set w b 3 _ HH.out.Fb).trans (frame_set _ b 4 _ HH.out.Fb) (fun k hk => .inl hk)
end Go.Proofs.YtkokcdlgfemobaaGreatDoor
