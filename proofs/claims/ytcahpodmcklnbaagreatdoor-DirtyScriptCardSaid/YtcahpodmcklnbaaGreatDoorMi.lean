/-
  Several texts in one (Mir, MirRW, MirW, MirTurn, MirFlush, MirLoose, MirPart, MirNew). Conditions: as each says.
-/
import Derived.Test.YtcahpodmcklnbaaGreatDoorDa
import Derived.Test.YtcahpodmcklnbaaGreatDoorBa
import Derived.Deep.RegionHeld3
import Derived.Laws.BitsAllLaws
import Derived.Deep.RegionLaw
/-
  The document's own disk (tandemref04): how it lies in memory, and what its smaller methods do. Conditions: none.
-/
namespace Go.Proofs.YtcahpodmcklnbaaGreatDoor
open Go.RowKit

namespace DS
/-- the fuse as a number -/
def leftI (S : DS) : Int := match S.left with | none => -1 | some k => (k : Int)
end DS
/-- v is a slice of 64 bytes l, whose block is among F and none of the three -/
def RowB (w : World) (F : Nat → Prop) (b g0 g1 : Nat) (v : Value) (l : List UInt8) : Prop :=
  ∃ g c, v = .slice (some ⟨g, 0, none⟩) 64 c ∧ (F g ∧ 64 ≤ c) ∧ g ≠ b ∧ g ≠ g0 ∧ g ≠ g1 ∧ BytesAt w w.heap.size (some ⟨g, 0, none⟩) l
structure MirL (w : World) (b : Nat) (F : Nat → Prop) (S : DS) (g0 g1 c0 c1 : Nat) (xs ys : List Value) : Prop where
  ok : S.Ok
  left : ∀ k, S.left = some k → k ≤ 9223372036854775807
  head : BlkR 69 w b [.slice (some ⟨g0, 0, none⟩) S.n c0, .slice (some ⟨g1, 0, none⟩) S.n c1, .bool S.out, .int .i64 S.leftI, .int .i64 (S.ops : Int)]
  firm : BlkR 32 w g0 xs
  last : BlkR 32 w g1 ys
  cap0 : S.n ≤ c0
  cap1 : S.n ≤ c1
  Fb : F b
  F0 : F g0
  F1 : F g1
  n0 : b ≠ g0
  n1 : b ≠ g1
  n2 : g0 ≠ g1
  lt : ∀ k, F k → k < w.heap.size
  fr : ∀ i, i < S.n → ∃ v, xs[i]? = some v ∧ RowB w F b g0 g1 v (S.firm i)
  ln : ∀ i, i < S.n → S.loose i = none → ys[i]? = some (.slice none 0 0)
  ls : ∀ i l, S.loose i = some l → ∃ v, ys[i]? = some v ∧ RowB w F b g0 g1 v l
/-- the document's disk at block b -/
def Mir (w : World) (b : Nat) (F : Nat → Prop) (S : DS) : Prop := ∃ g0 g1 c0 c1 xs ys, MirL w b F S g0 g1 c0 c1 xs ys

section
variable {w w' : World} {b g0 g1 c0 c1 : Nat} {F G : Nat → Prop} {S T : DS} {xs ys : List Value} {v : Value} {l : List UInt8}
theorem BytesAt.kept {A : Option Addr} (h : BytesAt w w.heap.size A l) (hs : w.heap.size ≤ w'.heap.size) (hk : ∀ ad, A = some ad → w'.heap[ad.block]? = w.heap[ad.block]?) : BytesAt w' w'.heap.size A l := fun hl => by
  obtain ⟨ad, e, hb, hc⟩ := h hl
  refine ⟨ad, e, Nat.lt_of_lt_of_le hb hs, fun k hk' => ?_⟩
  rw [← hc k hk']
  exact World.cell?_of_block (w := w) (by rw [block_add]; exact hk ad e)
theorem RowB.kept (h : RowB w F b g0 g1 v l) (hs : w.heap.size ≤ w'.heap.size) (hk : ∀ k, F k → k ≠ b → k ≠ g0 → k ≠ g1 → w'.heap[k]? = w.heap[k]?) : RowB w' F b g0 g1 v l := by
  obtain ⟨g, c, e, hg, x0, x1, x2, hb⟩ := h
  exact ⟨g, c, e, hg, x0, x1, x2, hb.kept hs fun ad e => by cases e; exact hk g hg.1 x0 x1 x2⟩
theorem RowB.mono (h : RowB w F b g0 g1 v l) (hF : ∀ k, F k → G k) : RowB w G b g0 g1 v l := by
  obtain ⟨g, c, e, hg, r⟩ := h
  exact ⟨g, c, e, ⟨hF g hg.1, hg.2⟩, r⟩
theorem MirL.kept (h : MirL w b F S g0 g1 c0 c1 xs ys) (hs : w.heap.size ≤ w'.heap.size) (hk : ∀ k, F k → w'.heap[k]? = w.heap[k]?) : MirL w' b F S g0 g1 c0 c1 xs ys :=
  { h with
    head := (hk b h.Fb).trans h.head, firm := (hk g0 h.F0).trans h.firm, last := (hk g1 h.F1).trans h.last, lt := fun k hk' => Nat.lt_of_lt_of_le (h.lt k hk') hs,
    fr := fun i hi => by obtain ⟨v, e, r⟩ := h.fr i hi; exact ⟨v, e, r.kept hs fun k hF _ _ _ => hk k hF⟩,
    ls := fun i l hl => by obtain ⟨v, e, r⟩ := h.ls i l hl; exact ⟨v, e, r.kept hs fun k hF _ _ _ => hk k hF⟩ }
theorem Mir.keep (h : Mir w b F S) (hs : w.heap.size ≤ w'.heap.size) (hk : ∀ k, F k → w'.heap[k]? = w.heap[k]?) : Mir w' b F S := by
  obtain ⟨g0, g1, c0, c1, xs, ys, h⟩ := h
  exact ⟨g0, g1, c0, c1, xs, ys, h.kept hs hk⟩
theorem Mir.lt (h : Mir w b F S) : ∀ k, F k → k < w.heap.size := by
  obtain ⟨g0, g1, c0, c1, xs, ys, h⟩ := h
  exact h.lt
theorem Mir.ok (h : Mir w b F S) : S.Ok := by
  obtain ⟨g0, g1, c0, c1, xs, ys, h⟩ := h
  exact h.ok
theorem Mir.step (h : Mir w b F S) (hb : Below w.heap.size w w') : Mir w' b F S := h.keep hb.size fun k hk => hb.block k (h.lt k hk)
theorem MirL.step (h : MirL w b F S g0 g1 c0 c1 xs ys) (hb : Below w.heap.size w w') : MirL w' b F S g0 g1 c0 c1 xs ys := h.kept hb.size fun k hk => hb.block k (h.lt k hk)
theorem MirL.frame (h : MirL w b F S g0 g1 c0 c1 xs ys) (hFr : Frame G w w') (hG : ∀ k, F k → ¬ G k) : MirL w' b F S g0 g1 c0 c1 xs ys := h.kept hFr.size fun k hk => hFr.block k (h.lt k hk) (hG k hk)
theorem Mir.frame (h : Mir w b F S) (hFr : Frame G w w') (hG : ∀ k, F k → ¬ G k) : Mir w' b F S := h.keep hFr.size fun k hk => hFr.block k (h.lt k hk) (hG k hk)
/-- a field of the head, turned: the state's other parts are as they were -/
theorem MirL.head_set (h : MirL w b F S g0 g1 c0 c1 xs ys) (k : Nat) (u : Value) (hT : T.n = S.n ∧ T.firm = S.firm ∧ T.loose = S.loose) (hl : ∀ k, T.left = some k → k ≤ 9223372036854775807)
    (e : [Value.slice (some ⟨g0, 0, none⟩) S.n c0, .slice (some ⟨g1, 0, none⟩) S.n c1, .bool S.out, .int .i64 S.leftI, .int .i64 (S.ops : Int)].set k u = [.slice (some ⟨g0, 0, none⟩) T.n c0, .slice (some ⟨g1, 0, none⟩) T.n c1, .bool T.out, .int .i64 T.leftI, .int .i64 (T.ops : Int)]) :
    MirL (w.setCell ⟨b, k, none⟩ u) b F T g0 g1 c0 c1 xs ys := by
  obtain ⟨t1, t2, t3⟩ := hT
  have hsz : (w.setCell ⟨b, k, none⟩ u).heap.size = w.heap.size := by simp [World.setCell]
  have ho : ∀ j, j ≠ b → (w.setCell ⟨b, k, none⟩ u).heap[j]? = w.heap[j]? := fun j hj => Below.heap_setCell w ⟨b, k, none⟩ u j hj
  refine ⟨⟨by rw [t1]; exact h.ok.n1, by rw [t1]; exact h.ok.n2, fun i hi => by rw [t2]; exact h.ok.firm i (by rw [← t1]; exact hi), fun i l hi => by rw [t1]; rw [t3] at hi; exact h.ok.loose i l hi⟩, hl, ?_,
    (ho g0 h.n0.symm).trans h.firm, (ho g1 h.n1.symm).trans h.last, by rw [t1]; exact h.cap0, by rw [t1]; exact h.cap1, h.Fb, h.F0, h.F1, h.n0, h.n1, h.n2, fun k hk => by rw [hsz]; exact h.lt k hk, fun i hi => ?_, fun i hi hn => ?_, fun i l hi => ?_⟩
  · rw [← e]; exact h.head.set_ k u
  · rw [t1] at hi; rw [t2]
    obtain ⟨v, e, r⟩ := h.fr i hi
    exact ⟨v, e, r.kept (Nat.le_of_eq hsz.symm) fun j _ hj _ _ => ho j hj⟩
  · rw [t1] at hi; rw [t3] at hn
    exact h.ln i hi hn
  · rw [t3] at hi
    obtain ⟨v, e, r⟩ := h.ls i l hi
    exact ⟨v, e, r.kept (Nat.le_of_eq hsz.symm) fun j _ hj _ _ => ho j hj⟩
theorem frame_set (w : World) (b k : Nat) (u : Value) (hF : F b) : Frame F w (w.setCell ⟨b, k, none⟩ u) := ⟨rfl, rfl, rfl, Nat.le_of_eq (by simp [World.setCell]), fun j _ hj => Below.heap_setCell w ⟨b, k, none⟩ u j (fun e => hj (by rw [show j = b from e]; exact hF))⟩

theorem MirL.cell0 (h : MirL w b F S g0 g1 c0 c1 xs ys) : w.cell? ⟨b, 0, none⟩ = some (.slice (some ⟨g0, 0, none⟩) S.n c0) := h.head.cell rfl
theorem MirL.cell1 (h : MirL w b F S g0 g1 c0 c1 xs ys) : w.cell? ⟨b, 1, none⟩ = some (.slice (some ⟨g1, 0, none⟩) S.n c1) := h.head.cell rfl
theorem MirL.cell2 (h : MirL w b F S g0 g1 c0 c1 xs ys) : w.cell? ⟨b, 2, none⟩ = some (.bool S.out) := h.head.cell rfl
theorem MirL.cell3 (h : MirL w b F S g0 g1 c0 c1 xs ys) : w.cell? ⟨b, 3, none⟩ = some (.int .i64 S.leftI) := h.head.cell rfl
theorem MirL.cell4 (h : MirL w b F S g0 g1 c0 c1 xs ys) : w.cell? ⟨b, 4, none⟩ = some (.int .i64 (S.ops : Int)) := h.head.cell rfl
end

theorem mThere (w : World) (b : Nat) (F : Nat → Prop) (S : DS) (i : Int) (h : Mir w b F S) : Calls Tryz.prog 69 #[.pointer (some ⟨b, 0, none⟩), .int .i64 i] w fun e w' => e = .returned (.bool (S.there i)) ∧ w = w' := by
  obtain ⟨g0, g1, c0, c1, xs, ys, h⟩ := h
  have x0 := h.cell0
  obtain ⟨n, hn⟩ : ∃ n, n = S.n := ⟨_, rfl⟩
  have hT : S.there i = (decide (0 ≤ i) && decide (i < (n : Int))) := by rw [hn]; rfl
  rw [hT]
  rw [← hn] at x0
  clear h hT hn
  by_cases h1 : 0 ≤ i
  · go_enter Tryz.func69, Tryz.ntmps69
    go_wp2
    go_ret
    exact ⟨by simp [h1], rfl⟩
  · go_enter Tryz.func69, Tryz.ntmps69
    go_wp2
    go_ret
    exact ⟨by simp; omega, rfl⟩
theorem mFuse (w : World) (b : Nat) (F : Nat → Prop) (S : DS) (n : Int) (h : Mir w b F S) (hn : -9223372036854775808 ≤ n) (hn2 : n ≤ 9223372036854775807) :
    Calls Tryz.prog 43 #[.pointer (some ⟨b, 0, none⟩), .int .i64 n] w fun e w' => e = .returned (.int .i64 (S.fuse n).2) ∧ Mir w' b F (S.fuse n).1 ∧ Frame F w w' := by
  have hM := h
  obtain ⟨g0, g1, c0, c1, xs, ys, h⟩ := h
  have x2 := h.cell2
  have f3 := h.head.frozen 3
  have x3 := h.cell3
  have HH := Lib.hid h
  replace hM := Lib.hid hM
  clear h
  cases ho : S.out with
  | true =>
    rw [show S.fuse n = (S, 10) by simp [DS.fuse, ho]]
    rw [ho] at x2
    go_enter Tryz.func43, Tryz.ntmps43
    go_wp2
    go_ret
    exact ⟨rfl, hM.out, Frame.refl _ _⟩
  | false =>
    rw [ho] at x2
    by_cases h1 : n < 0
    · rw [show S.fuse n = (S, 2) by simp [DS.fuse, ho, h1]]
      go_enter Tryz.func43, Tryz.ntmps43
      go_wp2
      go_ret
      exact ⟨rfl, hM.out, Frame.refl _ _⟩
    · rw [show S.fuse n = ({ S with left := some n.toNat }, 0) by simp [DS.fuse, ho, h1]]
      clear ho
      go_enter Tryz.func43, Tryz.ntmps43
      go_wp2
      go_ret
      refine ⟨rfl, ⟨g0, g1, c0, c1, xs, ys, HH.out.head_set (T := { S with left := some n.toNat }) 3 (.int .i64 n) ⟨rfl, rfl, rfl⟩ (fun k hk => ?_) ?_⟩, frame_set w b 3 _ HH.out.Fb⟩
      · have := Option.some.inj hk; omega
      · simp [DS.leftI]; omega
/-- a change more, if one is allowed -/
theorem mChange (w : World) (b : Nat) (F : Nat → Prop) (S : DS) (h : Mir w b F S) (ho : S.ops ≤ 1000000) (hout : S.out = false) :
    Calls Tryz.prog 70 #[.pointer (some ⟨b, 0, none⟩)] w fun e w' => e = .returned (.bool S.chg.isSome) ∧ Mir w' b F (S.chg.getD { S with out := true }) ∧ Frame F w w' := by
  obtain ⟨g0, g1, c0, c1, xs, ys, h⟩ := h
  have x2 := h.cell2
  have x3 := h.cell3
  have x4 := h.cell4
  have f2 := h.head.frozen 2
  have f3 := h.head.frozen 3
  have f4 := h.head.frozen 4
  have hl := h.left
  have HH := Lib.hid h
  unfold DS.chg
  clear h
  have e4 : IntKind.i64.wrap ((S.ops : Int) + 1) = (S.ops : Int) + 1 := IntWalk.i64_in _ (by omega)
  match hS : S.left with
  | none =>
    rw [show S.leftI = -1 by simp [DS.leftI, hS]] at x3
    go_enter Tryz.func70, Tryz.ntmps70
    go_wp2
    go_ret
    refine ⟨rfl, ⟨g0, g1, c0, c1, xs, ys, HH.out.head_set (T := { S with left := none, ops := S.ops + 1 }) 4 _ ⟨rfl, rfl, rfl⟩ (fun k hk => by cases hk) ?_⟩, frame_set w b 4 _ HH.out.Fb⟩
    simp [DS.leftI, hS]
  | some 0 =>
    rw [show S.leftI = 0 by simp [DS.leftI, hS]] at x3
    go_enter Tryz.func70, Tryz.ntmps70
    go_wp2
    go_ret
    rw [← hS]
    exact ⟨rfl, ⟨g0, g1, c0, c1, xs, ys, HH.out.head_set (T := { S with out := true }) 2 (.bool true) ⟨rfl, rfl, rfl⟩ (fun k hk => hl k hk) (by simp [DS.leftI])⟩, frame_set w b 2 _ HH.out.Fb⟩
  | some (k + 1) =>
    have hk := hl _ hS
    rw [show S.leftI = (k : Int) + 1 by simp [DS.leftI, hS]] at x3
    have e3 : IntKind.i64.wrap ((k : Int) + 1 - 1) = (k : Int) := by rw [IntWalk.i64_in _ (by omega)]; omega
    go_enter Tryz.func70, Tryz.ntmps70
    go_wp2
    go_ret
    have h1 := HH.out.head_set (T := { S with left := some k }) 3 (.int .i64 (k : Int)) ⟨rfl, rfl, rfl⟩ (fun j hj => by have := Option.some.inj hj; omega) (by simp [DS.leftI])
    have h2 := h1.head_set (T := { S with left := some k, ops := S.ops + 1 }) 4 (.int .i64 ((S.ops : Int) + 1)) ⟨rfl, rfl, rfl⟩ (fun j hj => by have := Option.some.inj hj; omega) (by simp [DS.leftI])
    refine ⟨rfl, ⟨g0, g1, c0, c1, xs, ys, ?_⟩, ?_⟩
    · exact h2
    · exact (frame_set w b 3 _ HH.out.Fb).trans (frame_set _ b 4 _ HH.out.Fb) (fun k hk => .inl hk)
end Go.Proofs.YtcahpodmcklnbaaGreatDoor
/-
  The document's own disk (tandemref04): Read, Write, Turn. Conditions: none.
-/
namespace Go.Proofs.YtcahpodmcklnbaaGreatDoor
open Go.RowKit

set_option maxRecDepth 100000 in
theorem nil_neq (w : World) : (binOp .neq 32 (.slice none 0 0) (.slice none 0 0)).run Tryz.prog w = .ok (.bool false) w := by kernel_rfl
set_option maxRecDepth 100000 in
theorem some_neq (g n c : Nat) (w : World) : (binOp .neq 32 (.slice (some ⟨g, 0, none⟩) n c) (.slice none 0 0)).run Tryz.prog w = .ok (.bool true) w := by kernel_rfl
theorem noBytes (W : World) : OwnB (W.alloc (.cells #[] 5)) W.heap.size (.slice (some ⟨W.heap.size, 0, none⟩) 0 0) [] :=
  ⟨by simp [cellsOfBytes], .inr ⟨W.heap.size, 0, #[], rfl, Nat.le_refl _, heap_alloc_new W _, Nat.le_refl _, Nat.zero_le _, by simp, by simp [cellsOfBytes]⟩⟩
theorem noBytes_grown {w w' : World} (hg : (w.alloc (.cells #[] 5)).grownBy w' (some w.heap.size)) : Below w.heap.size w w' :=
  ((Below.refl _ _).alloc (Nat.le_refl _) _).grown hg (by simp) (fun k hk => Nat.le_of_eq (Option.some.inj hk))

set_option maxRecDepth 100000 in
theorem mRead (w : World) (b : Nat) (F : Nat → Prop) (S : DS) (i : Int) (h : Mir w b F S) :
    Calls Tryz.prog 49 #[.pointer (some ⟨b, 0, none⟩), .int .i64 i] w fun e w' =>
      ∃ A c, e = .returned (.tuple #[.slice A (S.readB i).length c, .int .i64 (S.readE i)]) ∧ OwnB w' w.heap.size (.slice A (S.readB i).length c) (S.readB i) ∧ Below w.heap.size w w' := by
  have zt := mThere w b F S i h
  obtain ⟨g0, g1, c0, c1, xs, ys, h⟩ := h
  have x2 := h.cell2
  cases ho : S.out with
  | true =>
    have e1 : S.readB i = [] := by simp [DS.readB, ho]
    have e2 : S.readE i = 10 := by simp [DS.readE, ho]
    rw [e1, e2]
    rw [ho] at x2
    clear h ho e1 e2 zt
    go_enter Tryz.func49, Tryz.ntmps49
    go_wp2
    go_ret2
    exact ⟨none, 0, rfl, OwnB.nil_, Below.refl _ _⟩
  | false =>
    rw [ho] at x2
    cases ht : S.there i with
    | false =>
      have e1 : S.readB i = [] := by simp [DS.readB, ho, ht]
      have e2 : S.readE i = 5 := by simp [DS.readE, ho, ht]
      rw [e1, e2]
      rw [ht] at zt
      clear h ho e1 e2 ht
      go_enter Tryz.func49, Tryz.ntmps49
      go_wp2_with (go_at_call 69; refine zt.mono ?_; (rintro e w2 ⟨rfl, rfl⟩))
      go_ret2
      exact ⟨none, 0, rfl, OwnB.nil_, Below.refl _ _⟩
    | true =>
      rw [ht] at zt
      have hi := (S.there_iff i).1 ht
      obtain ⟨k, rfl⟩ : ∃ k : Nat, i = (k : Int) := ⟨i.toNat, by omega⟩
      have hk : k < S.n := by omega
      have e1 : S.readB (k : Int) = S.last k := by simp [DS.readB, ho, ht]
      have e2 : S.readE (k : Int) = 0 := by simp [DS.readE, ho, ht]
      rw [e1, e2]
      have x0 := h.cell0
      have x1 := h.cell1
      have kk : (k : Int) < (S.n : Int) := by omega
      cases hl : S.loose k with
      | none =>
        have hy := h.last.cell (h.ln k hk hl)
        obtain ⟨v, hv, g, c, rfl, _, _, _, _, hb⟩ := h.fr k hk
        have hx := h.firm.cell hv
        have e3 : S.last k = S.firm k := by simp [DS.last, hl]
        have e4 := h.ok.firm k hk
        rw [e3, e4]
        obtain ⟨l, hlb⟩ : ∃ l, l = S.firm k := ⟨_, rfl⟩
        rw [← hlb] at hb e4 ⊢
        have hr1 : BytesAt (w.alloc (.cells #[] 5)) w.heap.size (some ⟨g, 0, none⟩) l := hb.alloc (Nat.le_refl _) _
        have kx : (w.alloc (.cells #[] 5)).cell? ⟨b, 0, none⟩ = some (.slice (some ⟨g0, 0, none⟩) S.n c0) ∧ (w.alloc (.cells #[] 5)).cell? ⟨g0, k, none⟩ = some (.slice (some ⟨g, 0, none⟩) 64 c) := by
          have hB : Below w.heap.size w (w.alloc (.cells #[] 5)) := (Below.refl _ _).alloc (Nat.le_refl _) _
          exact ⟨(hB.cell (h.lt b h.Fb)).trans x0, (hB.cell (h.lt g0 h.F0)).trans hx⟩
        obtain ⟨kx1, kx2⟩ := kx
        obtain ⟨n, hn⟩ : ∃ n, n = S.n := ⟨_, rfl⟩
        rw [← hn] at x0 x1 kx1 kk
        clear h ho e1 e2 ht hi hk hl hv hlb hn e3
        have q1 := nil_neq
        have q2 := some_neq
        go_enter Tryz.func49, Tryz.ntmps49
        go_wp2_with (first
          | (go_at_call 69; refine zt.mono ?_; (rintro e w2 ⟨rfl, rfl⟩))
          | (at_builtin; refine wpList_appendB rfl (.tmp 31) (.tmp 38) 32 rfl rfl w.heap.size _ [] rfl (noBytes w) (some ⟨g, 0, none⟩) l 64 c w.heap.size rfl e4 hr1 ?h1 ?h2 ?h3; rotate_left 2; (intro v' w' ho hg hat)))
        · rw [List.nil_append] at ho
          obtain ⟨A', c', rfl, _⟩ := ho.form
          rw [e4] at ho ⊢
          go_ret2
          exact ⟨A', c', rfl, ho, noBytes_grown hg⟩
        case h1 => simp; omega
        case h2 => simp
      | some l =>
        obtain ⟨v, hv, g, c, rfl, _, _, _, _, hb⟩ := h.ls k l hl
        have hx := h.last.cell hv
        have e3 : S.last k = l := by simp [DS.last, hl]
        have e4 := (h.ok.loose k l hl).2
        rw [e3, e4]
        have hr1 : BytesAt (w.alloc (.cells #[] 5)) w.heap.size (some ⟨g, 0, none⟩) l := hb.alloc (Nat.le_refl _) _
        have kx : (w.alloc (.cells #[] 5)).cell? ⟨b, 1, none⟩ = some (.slice (some ⟨g1, 0, none⟩) S.n c1) ∧ (w.alloc (.cells #[] 5)).cell? ⟨g1, k, none⟩ = some (.slice (some ⟨g, 0, none⟩) 64 c) := by
          have hB : Below w.heap.size w (w.alloc (.cells #[] 5)) := (Below.refl _ _).alloc (Nat.le_refl _) _
          exact ⟨(hB.cell (h.lt b h.Fb)).trans x1, (hB.cell (h.lt g1 h.F1)).trans hx⟩
        obtain ⟨kx1, kx2⟩ := kx
        obtain ⟨n, hn⟩ : ∃ n, n = S.n := ⟨_, rfl⟩
        rw [← hn] at x0 x1 kx1 kk
        clear h ho e1 e2 ht hi hk hl hv hn e3
        have q1 := nil_neq
        have q2 := some_neq
        go_enter Tryz.func49, Tryz.ntmps49
        go_wp2_with (first
          | (go_at_call 69; refine zt.mono ?_; (rintro e w2 ⟨rfl, rfl⟩))
          | (at_builtin; refine wpList_appendB rfl (.tmp 22) (.tmp 29) 32 rfl rfl w.heap.size _ [] rfl (noBytes w) (some ⟨g, 0, none⟩) l 64 c w.heap.size rfl e4 hr1 ?j1 ?j2 ?j3; rotate_left 2; (intro v' w' ho hg hat)))
        · rw [List.nil_append] at ho
          obtain ⟨A', c', rfl, _⟩ := ho.form
          rw [e4] at ho ⊢
          go_ret2
          exact ⟨A', c', rfl, ho, noBytes_grown hg⟩
        case j1 => simp; omega
        case j2 => simp
end Go.Proofs.YtcahpodmcklnbaaGreatDoor
/-
  The document's own disk (tandemref04): a row of it set anew; Write. Conditions: none.
-/
namespace Go.Proofs.YtcahpodmcklnbaaGreatDoor
open Go.RowKit

section
variable {w w' : World} {b g0 g1 c0 c1 : Nat} {F G : Nat → Prop} {S T : DS} {xs ys : List Value} {v : Value} {l : List UInt8}
theorem MirL.mono (h : MirL w b F S g0 g1 c0 c1 xs ys) (hF : ∀ k, F k → G k) (hG : ∀ k, G k → k < w.heap.size) : MirL w b G S g0 g1 c0 c1 xs ys :=
  { h with
    Fb := hF _ h.Fb, F0 := hF _ h.F0, F1 := hF _ h.F1, lt := hG,
    fr := fun i hi => by obtain ⟨v, e, r⟩ := h.fr i hi; exact ⟨v, e, r.mono hF⟩,
    ls := fun i l hl => by obtain ⟨v, e, r⟩ := h.ls i l hl; exact ⟨v, e, r.mono hF⟩ }
theorem RowB.of_own {base : Nat} (ho : OwnB w base v l) (hl : l.length = 64) (hF : ∀ k, base ≤ k → k < w.heap.size → F k) (hb : b < base) (h0 : g0 < base) (h1 : g1 < base) : RowB w F b g0 g1 v l := by
  obtain ⟨g, cap, hv, hg, hlt⟩ := World.ownsRow.form ho (by omega)
  obtain ⟨A', c', hv', hle⟩ := ho.form
  subst hv
  have hcc : 64 ≤ cap := by
    injection hv' with _ _ e
    omega
  clear hv'
  rw [hl] at ho ⊢
  exact ⟨g, cap, rfl, ⟨hF g hg hlt, hcc⟩, by omega, by omega, by omega, ho.bytes⟩
theorem row_get {xs : List Value} {n k : Nat} (h : ∀ i, i < n → ∃ v, xs[i]? = some v) (hk : k < n) : k < xs.length := by
  obtain ⟨v, hv⟩ := h k hk
  exact (List.getElem?_eq_some_iff.1 hv).1
theorem set_size (w : World) (a : Addr) (v : Value) : (w.setCell a v).heap.size = w.heap.size := by simp [World.setCell]
theorem MirL.set_firm (h : MirL w b F S g0 g1 c0 c1 xs ys) (k : Nat) (hk : k < S.n) (hv : RowB w F b g0 g1 v l) (hl : l.length = 64) :
    MirL (w.setCell ⟨g0, k, none⟩ v) b F { S with firm := DS.upd S.firm k l } g0 g1 c0 c1 (xs.set k v) ys := by
  have hsz := set_size w ⟨g0, k, none⟩ v
  have ho : ∀ j, j ≠ g0 → (w.setCell ⟨g0, k, none⟩ v).heap[j]? = w.heap[j]? := fun j hj => Below.heap_setCell w ⟨g0, k, none⟩ v j hj
  have hkl : k < xs.length := row_get (fun i hi => by obtain ⟨v, e, _⟩ := h.fr i hi; exact ⟨v, e⟩) hk
  refine { h with ok := ⟨h.ok.n1, h.ok.n2, fun i hi => ?_, h.ok.loose⟩, head := (ho b h.n0).trans h.head, firm := h.firm.set_ k v, last := (ho g1 h.n2.symm).trans h.last, lt := fun j hj => by rw [hsz]; exact h.lt j hj, fr := fun i hi => ?_, ls := fun i m hm => ?_ }
  · show (DS.upd S.firm k l i).length = 64
    unfold DS.upd
    by_cases e : i = k
    · rw [if_pos e]; exact hl
    · rw [if_neg e]; exact h.ok.firm i hi
  · show ∃ u, (xs.set k v)[i]? = some u ∧ RowB _ F b g0 g1 u (DS.upd S.firm k l i)
    unfold DS.upd
    by_cases e : i = k
    · subst e
      rw [if_pos rfl]
      exact ⟨v, by simp [hkl], hv.kept (Nat.le_of_eq hsz.symm) fun j _ _ hj _ => ho j hj⟩
    · rw [if_neg e]
      obtain ⟨u, e1, r⟩ := h.fr i hi
      exact ⟨u, by rw [List.getElem?_set_ne (Ne.symm e)]; exact e1, r.kept (Nat.le_of_eq hsz.symm) fun j _ _ hj _ => ho j hj⟩
  · obtain ⟨u, e1, r⟩ := h.ls i m hm
    exact ⟨u, e1, r.kept (Nat.le_of_eq hsz.symm) fun j _ _ hj _ => ho j hj⟩
theorem MirL.last_len (h : MirL w b F S g0 g1 c0 c1 xs ys) {k : Nat} (hk : k < S.n) : k < ys.length := row_get (fun i hi => by
  cases hl : S.loose i with
  | none => exact ⟨_, h.ln i hi hl⟩
  | some l => obtain ⟨v, e, _⟩ := h.ls i l hl; exact ⟨v, e⟩) hk
theorem MirL.set_last (h : MirL w b F S g0 g1 c0 c1 xs ys) (k : Nat) (hk : k < S.n) (hv : RowB w F b g0 g1 v l) (hl : l.length = 64) :
    MirL (w.setCell ⟨g1, k, none⟩ v) b F { S with loose := DS.upd S.loose k (some l) } g0 g1 c0 c1 xs (ys.set k v) := by
  have hsz := set_size w ⟨g1, k, none⟩ v
  have ho : ∀ j, j ≠ g1 → (w.setCell ⟨g1, k, none⟩ v).heap[j]? = w.heap[j]? := fun j hj => Below.heap_setCell w ⟨g1, k, none⟩ v j hj
  have hkl : k < ys.length := h.last_len hk
  refine { h with ok := ⟨h.ok.n1, h.ok.n2, h.ok.firm, fun i m hm => ?_⟩, head := (ho b h.n1).trans h.head, firm := (ho g0 h.n2).trans h.firm, last := h.last.set_ k v, lt := fun j hj => by rw [hsz]; exact h.lt j hj, fr := fun i hi => ?_, ln := fun i hi hn => ?_, ls := fun i m hm => ?_ }
  · change DS.upd S.loose k (some l) i = some m at hm
    unfold DS.upd at hm
    by_cases e : i = k
    · rw [if_pos e] at hm; cases hm; subst e; exact ⟨hk, hl⟩
    · rw [if_neg e] at hm; exact h.ok.loose i m hm
  · obtain ⟨u, e1, r⟩ := h.fr i hi
    exact ⟨u, e1, r.kept (Nat.le_of_eq hsz.symm) fun j _ _ _ hj => ho j hj⟩
  · change DS.upd S.loose k (some l) i = none at hn
    unfold DS.upd at hn
    by_cases e : i = k
    · rw [if_pos e] at hn; cases hn
    · rw [if_neg e] at hn
      rw [List.getElem?_set_ne (Ne.symm e)]
      exact h.ln i hi hn
  · change DS.upd S.loose k (some l) i = some m at hm
    unfold DS.upd at hm
    by_cases e : i = k
    · rw [if_pos e] at hm; cases hm; subst e
      exact ⟨v, by simp [hkl], hv.kept (Nat.le_of_eq hsz.symm) fun j _ _ _ hj => ho j hj⟩
    · rw [if_neg e] at hm
      obtain ⟨u, e1, r⟩ := h.ls i m hm
      exact ⟨u, by rw [List.getElem?_set_ne (Ne.symm e)]; exact e1, r.kept (Nat.le_of_eq hsz.symm) fun j _ _ _ hj => ho j hj⟩
theorem MirL.set_nil (h : MirL w b F S g0 g1 c0 c1 xs ys) (k : Nat) (hk : k < S.n) :
    MirL (w.setCell ⟨g1, k, none⟩ (.slice none 0 0)) b F { S with loose := DS.upd S.loose k none } g0 g1 c0 c1 xs (ys.set k (.slice none 0 0)) := by
  have hsz := set_size w ⟨g1, k, none⟩ (.slice none 0 0)
  have ho : ∀ j, j ≠ g1 → (w.setCell ⟨g1, k, none⟩ (.slice none 0 0)).heap[j]? = w.heap[j]? := fun j hj => Below.heap_setCell w ⟨g1, k, none⟩ _ j hj
  have hkl : k < ys.length := h.last_len hk
  refine { h with ok := ⟨h.ok.n1, h.ok.n2, h.ok.firm, fun i m hm => ?_⟩, head := (ho b h.n1).trans h.head, firm := (ho g0 h.n2).trans h.firm, last := h.last.set_ k _, lt := fun j hj => by rw [hsz]; exact h.lt j hj, fr := fun i hi => ?_, ln := fun i hi hn => ?_, ls := fun i m hm => ?_ }
  · change DS.upd S.loose k none i = some m at hm
    unfold DS.upd at hm
    by_cases e : i = k
    · rw [if_pos e] at hm; cases hm
    · rw [if_neg e] at hm; exact h.ok.loose i m hm
  · obtain ⟨u, e1, r⟩ := h.fr i hi
    exact ⟨u, e1, r.kept (Nat.le_of_eq hsz.symm) fun j _ _ _ hj => ho j hj⟩
  · change DS.upd S.loose k none i = none at hn
    unfold DS.upd at hn
    by_cases e : i = k
    · subst e; simp [hkl]
    · rw [if_neg e] at hn
      rw [List.getElem?_set_ne (Ne.symm e)]
      exact h.ln i hi hn
  · change DS.upd S.loose k none i = some m at hm
    unfold DS.upd at hm
    by_cases e : i = k
    · rw [if_pos e] at hm; cases hm
    · rw [if_neg e] at hm
      obtain ⟨u, e1, r⟩ := h.ls i m hm
      exact ⟨u, by rw [List.getElem?_set_ne (Ne.symm e)]; exact e1, r.kept (Nat.le_of_eq hsz.symm) fun j _ _ _ hj => ho j hj⟩
end

/-- what a method of the document's disk answers that turns it -/
def MirPost (r : Int) (S : DS) (b : Nat) (F : Nat → Prop) (w : World) (e : Ending) (w' : World) : Prop :=
  ∃ F', e = .returned (.int .i64 r) ∧ Mir w' b F' S ∧ (∀ k, F' k → F k ∨ w.heap.size ≤ k) ∧ Frame F w w'

set_option maxRecDepth 100000 in
theorem mWrite (w : World) (b : Nat) (F : Nat → Prop) (S : DS) (i : Int) (A : Option Addr) (l : List UInt8) (n c : Nat) (h : Mir w b F S) (hops : S.ops ≤ 1000000) (hr : BytesAt w w.heap.size A l) (hA : ∀ ad, A = some ad → ¬ F ad.block) (hn : l.length = n) (hm : n ≤ 1000000) :
    Calls Tryz.prog 36 #[.pointer (some ⟨b, 0, none⟩), .int .i64 i, .slice A n c] w (MirPost (S.write i l).2 (S.write i l).1 b F w) := by
  have hM := Lib.hid h
  have zt := fun w1 (h1 : Mir w1 b F S) => mThere w1 b F S i h1
  replace zt := zt w h
  obtain ⟨g0, g1, c0, c1, xs, ys, h⟩ := h
  have x2 := h.cell2
  cases ho : S.out with
  | true =>
    rw [show S.write i l = (S, 10) by simp [DS.write, ho]]
    rw [ho] at x2
    clear h ho zt
    go_enter Tryz.func36, Tryz.ntmps36
    go_wp2
    go_ret
    exact ⟨F, rfl, hM.out, fun k hk => .inl hk, Frame.refl _ _⟩
  | false =>
    have hO := Lib.hid ho
    rw [ho] at x2
    cases ht : S.there i with
    | false =>
      rw [show S.write i l = (S, 5) by simp [DS.write, ho, ht]]
      rw [ht] at zt
      clear h ho ht
      go_enter Tryz.func36, Tryz.ntmps36
      go_wp2_with (go_at_call 69; refine zt.mono ?_; (rintro e w2 ⟨rfl, rfl⟩))
      go_ret
      exact ⟨F, rfl, hM.out, fun k hk => .inl hk, Frame.refl _ _⟩
    | true =>
      rw [ht] at zt
      by_cases h64 : n = 64
      · subst h64
        have hi := (S.there_iff i).1 ht
        obtain ⟨k, rfl⟩ : ∃ k : Nat, i = (k : Int) := ⟨i.toNat, by omega⟩
        have hk : k < S.n := by omega
        have zc := mChange w b F S hM.out hops ho
        cases hc : S.chg with
        | none =>
          rw [hc] at zc
          rw [show S.write (k : Int) l = ({ S with out := true }, 10) by simp [DS.write, ho, ht, hn, hc]]
          clear h ho ht hc hi
          go_enter Tryz.func36, Tryz.ntmps36
          go_wp2_with (first
            | (go_at_call 69; refine zt.mono ?_; (rintro e w2 ⟨rfl, rfl⟩))
            | (go_at_call 70; refine zc.mono ?_; (rintro e w2 ⟨rfl, hM2, hFr2⟩)))
          go_ret
          exact ⟨F, rfl, hM2, fun k hk => .inl hk, hFr2⟩
        | some T =>
          rw [hc] at zc
          rw [show S.write (k : Int) l = ({ T with loose := DS.upd T.loose k (some l) }, 0) by simp [DS.write, ho, ht, hn, hc]]
          have hTn : T.n = S.n := by
            unfold DS.chg at hc
            split at hc
            · cases hc
            · rw [← Option.some.inj hc]
            · rw [← Option.some.inj hc]
          have kT : k < T.n := by omega
          have kk : (k : Int) < (T.n : Int) := by omega
          obtain ⟨m, hm'⟩ : ∃ m, m = T.n := ⟨_, rfl⟩
          rw [← hm'] at kk
          replace hm' := Lib.hid hm'
          clear h ho ht hc hi hTn hk hM
          go_enter Tryz.func36, Tryz.ntmps36
          go_wp2_with (first
            | (go_at_call 69; refine zt.mono ?_; (rintro e w2 ⟨rfl, rfl⟩))
            | (go_at_call 70; refine zc.mono ?_; (rintro e w2 ⟨rfl, ⟨h0, h1, d0, d1, us, vs, hL⟩, hFr2⟩; change MirL w2 b F T h0 h1 d0 d1 us vs at hL; have y1 := hL.cell1; rw [← hm'.out] at y1; have hr2 : BytesAt w2 w2.heap.size A l := hFr2.bytes hr hA; have hL := Lib.hid hL; have hFr2 := Lib.hid hFr2)))
          have h0b : OwnB (w2.drew.alloc (.cells #[] 5)) w2.heap.size (.slice (some ⟨w2.heap.size, 0, none⟩) 0 0) [] := noBytes w2.drew
          have cd : Below w2.heap.size w2 (w2.drew.alloc (.cells #[] 5)) := (Below.refl _ _).drew.alloc (Nat.le_refl _) _
          have hr3 : BytesAt (w2.drew.alloc (.cells #[] 5)) w2.heap.size A l := hr2.below cd
          have ky : ∀ w', Below w2.heap.size w2 w' → w'.cell? ⟨b, 1, none⟩ = some (.slice (some ⟨h1, 0, none⟩) m d1) := fun w' hB => (hB.cell (hL.out.lt b hL.out.Fb)).trans y1
          have y1d := ky _ cd
          have y1e : w2.drew.cell? ⟨b, 1, none⟩ = some (.slice (some ⟨h1, 0, none⟩) m d1) := y1
          go_region_held3 (fun w' => w'.cell? ⟨b, 1, none⟩ = some (.slice (some ⟨h1, 0, none⟩) m d1)) (first | assumption | exact y5 _) (first
            | (refine step_appendB rfl (.tmp 26) (.tmp 27) 32 rfl rfl w2.heap.size _ [] rfl h0b A l 64 c w2.heap.size rfl hn hr3 (by simp; omega) (by simp) ?_; (intro v4 w4 ho4 hg4 hat4; have c4 : Below w2.heap.size w2 w4 := cd.grown hg4 (by simp) (fun j hj => (h0b.lt j hj).1); have hL4 := Lib.hid (hL.out.step c4); have y4 := ky _ c4; have f4 := hL4.out.last.frozen k; rw [List.nil_append] at ho4; obtain ⟨A4, c4', rfl, _⟩ := ho4.form; rw [hn] at ho4; rw [hn]; obtain ⟨u4, hu4⟩ : ∃ u, vs[k]? = some u := ⟨_, List.getElem?_eq_getElem (hL4.out.last_len kT)⟩; have s4 := hL4.out.last.cell hu4; have y5 : ∀ v, (w4.setCell ⟨h1, k, none⟩ v).cell? ⟨b, 1, none⟩ = some (.slice (some ⟨h1, 0, none⟩) m d1) := fun v => (World.cell?_of_block (Below.heap_setCell w4 ⟨h1, k, none⟩ v b hL.out.n1)).trans y4; have ho4 := Lib.hid ho4; have c4 := Lib.hid c4)))
          go_wp2
          go_ret
          have q4 := hL4.out
          have hs24 := c4.out.size
          have hm4 := q4.mono (G := fun j => F j ∨ (w2.heap.size ≤ j ∧ j < w4.heap.size)) (fun j hj => .inl hj) (fun j hj => hj.elim (q4.lt j) (fun h => h.2))
          have hv4 := RowB.of_own (g0 := h0) (g1 := h1) (b := b) (F := fun j => F j ∨ (w2.heap.size ≤ j ∧ j < w4.heap.size)) ho4.out hn (fun j h1 h2 => .inr ⟨h1, h2⟩) (hL.out.lt b hL.out.Fb) (hL.out.lt h0 hL.out.F0) (hL.out.lt h1 hL.out.F1)
          refine ⟨_, rfl, ⟨h0, h1, d0, d1, us, _, hm4.set_last k kT hv4 hn⟩, fun j hj => hj.elim .inl fun h => .inr (Nat.le_trans hFr2.out.size h.1), ?_⟩
          exact (hFr2.out.trans (Frame.of_below (F := F) c4.out) (fun j hj => .inl hj)).trans (frame_set w4 h1 k _ hL.out.F1) (fun j hj => .inl hj)
      · have hne : ((n : Int) != 64) = true := by simp; omega
        rw [show S.write i l = (S, 2) by simp [DS.write, ho, ht, hn, h64]]
        clear h ho ht
        go_enter Tryz.func36, Tryz.ntmps36
        go_wp2_with (go_at_call 69; refine zt.mono ?_; (rintro e w2 ⟨rfl, rfl⟩))
        go_ret
        exact ⟨F, rfl, hM.out, fun k hk => .inl hk, Frame.refl _ _⟩
end Go.Proofs.YtcahpodmcklnbaaGreatDoor
/-
  The document's own disk (tandemref04): Turn. Conditions: none.
-/
namespace Go.Proofs.YtcahpodmcklnbaaGreatDoor
open Go.RowKit

theorem u8_xor' (x y : UInt8) : bits .xor .u8 (x.toNat : Int) (y.toNat : Int) = ((x ^^^ y).toNat : Int) := by
  rw [UInt8.toNat_xor]
  exact u8_xor_nat _ _ x.toNat_lt y.toNat_lt
section
variable {w : World} {base : Nat} {v : Value} {l : List UInt8}
theorem OwnB.toR (h : OwnB w base v l) : OwnR 5 w base v (cellsOfBytes l) := by
  unfold OwnR
  rw [cellsOfBytes_length]
  exact h
theorem OwnB.ofR (h : OwnR 5 w base v (cellsOfBytes l)) : OwnB w base v l := by
  unfold OwnR at h
  rw [cellsOfBytes_length] at h
  exact h
theorem OwnB.g64 (h : OwnB w base v l) (e : l.length = 64) : ∃ g c, v = .slice (some ⟨g, 0, none⟩) 64 c ∧ base ≤ g ∧ g < w.heap.size := by
  obtain ⟨g, cap, hv, hg, hlt⟩ := World.ownsRow.form h (by omega)
  rw [e] at hv
  exact ⟨g, cap, hv, hg, hlt⟩
theorem OwnB.store {n c g : Nat} (h : OwnB w base (.slice (some ⟨g, 0, none⟩) n c) l) (k : Nat) (x : UInt8) : OwnB (w.setCell ⟨g, k, none⟩ (.int .u8 (x.toNat : Int))) base (.slice (some ⟨g, 0, none⟩) n c) (l.set k x) := by
  refine OwnB.ofR ?_
  have e : cellsOfBytes (l.set k x) = (cellsOfBytes l).set k (.int .u8 (x.toNat : Int)) := by simp [cellsOfBytes, List.map_set]
  rw [e]
  exact h.toR.store k _
end

/-- a firm row set to bytes made since -/
theorem MirPost.firm {w w' : World} {b g0 g1 c0 c1 : Nat} {F : Nat → Prop} {S : DS} {xs ys : List Value} {v : Value} {l : List UInt8} {k : Nat} (h : MirL w b F S g0 g1 c0 c1 xs ys) (h2 : MirL w' b F S g0 g1 c0 c1 xs ys) (hB : Below w.heap.size w w') (ho : OwnB w' w.heap.size v l) (hl : l.length = 64) (hk : k < S.n) :
    MirPost 0 { S with firm := DS.upd S.firm k l } b F w (.returned (.int .i64 0)) (w'.setCell ⟨g0, k, none⟩ v) := by
  have hs := hB.size
  have hm4 := h2.mono (G := fun j => F j ∨ (w.heap.size ≤ j ∧ j < w'.heap.size)) (fun j hj => .inl hj) (fun j hj => hj.elim (h2.lt j) (fun h => h.2))
  have hv4 := RowB.of_own (g0 := g0) (g1 := g1) (b := b) (F := fun j => F j ∨ (w.heap.size ≤ j ∧ j < w'.heap.size)) ho hl (fun j h1 h2 => .inr ⟨h1, h2⟩) (h.lt b h.Fb) (h.lt g0 h.F0) (h.lt g1 h.F1)
  refine ⟨_, rfl, ⟨g0, g1, c0, c1, _, ys, hm4.set_firm k hk hv4 hl⟩, fun j hj => hj.elim .inl fun h => .inr h.1, ?_⟩
  exact (Frame.of_below (F := F) hB).trans (frame_set w' g0 k _ h.F0) (fun j hj => .inl hj)
set_option maxRecDepth 100000 in
theorem mTurn (w : World) (b : Nat) (F : Nat → Prop) (S : DS) (i a : Int) (mask : UInt8) (h : Mir w b F S) :
    Calls Tryz.prog 41 #[.pointer (some ⟨b, 0, none⟩), .int .i64 i, .int .i64 a, .int .u8 (mask.toNat : Int)] w (MirPost (S.turn i a mask).2 (S.turn i a mask).1 b F w) := by
  have hM := Lib.hid h
  have zt := mThere w b F S i h
  obtain ⟨g0, g1, c0, c1, xs, ys, h⟩ := h
  cases ht : S.there i with
  | false =>
    rw [show S.turn i a mask = (S, 5) by simp [DS.turn, ht]]
    rw [ht] at zt
    clear h ht
    go_enter Tryz.func41, Tryz.ntmps41
    go_wp2_with (go_at_call 69; refine zt.mono ?_; (rintro e w2 ⟨rfl, rfl⟩))
    go_ret
    exact ⟨F, rfl, hM.out, fun k hk => .inl hk, Frame.refl _ _⟩
  | true =>
    rw [ht] at zt
    by_cases ha : 0 ≤ a
    · by_cases ha2 : a < 64
      · have hi := (S.there_iff i).1 ht
        obtain ⟨k, rfl⟩ : ∃ k : Nat, i = (k : Int) := ⟨i.toNat, by omega⟩
        obtain ⟨j, rfl⟩ : ∃ j : Nat, a = (j : Int) := ⟨a.toNat, by omega⟩
        have hk : k < S.n := by omega
        rw [show S.turn (k : Int) (j : Int) mask = ({ S with firm := DS.upd S.firm k ((S.firm k).set j ((S.firm k).getD j 0 ^^^ mask)) }, 0) by simp [DS.turn, ht]; omega]
        have x0 := h.cell0
        have kk : (k : Int) < (S.n : Int) := by omega
        obtain ⟨v, hv, g, c, rfl, _, _, _, _, hb⟩ := h.fr k hk
        have hx := h.firm.cell hv
        have e4 := h.ok.firm k hk
        obtain ⟨l, hlb⟩ : ∃ l, l = S.firm k := ⟨_, rfl⟩
        rw [← hlb] at hb e4 ⊢
        have hr1 : BytesAt (w.alloc (.cells #[] 5)) w.heap.size (some ⟨g, 0, none⟩) l := hb.alloc (Nat.le_refl _) _
        have ky : ∀ w', Below w.heap.size w w' → w'.cell? ⟨b, 0, none⟩ = some (.slice (some ⟨g0, 0, none⟩) S.n c0) ∧ w'.cell? ⟨g0, k, none⟩ = some (.slice (some ⟨g, 0, none⟩) 64 c) := fun w' hB => ⟨(hB.cell (h.lt b h.Fb)).trans x0, (hB.cell (h.lt g0 h.F0)).trans hx⟩
        obtain ⟨kx1, kx2⟩ := ky _ ((Below.refl _ _).alloc (Nat.le_refl _) (.cells #[] 5))
        obtain ⟨n, hn⟩ : ∃ n, n = S.n := ⟨_, rfl⟩
        rw [← hn] at x0 kx1 kk ky
        replace hM := Lib.hid h
        have hK := Lib.hid hk
        clear h ht hi hk hv hlb hn
        have hj : j < l.length := by omega
        obtain ⟨y, hy⟩ : ∃ y, y = l.getD j 0 := ⟨_, rfl⟩
        rw [← hy]
        have q3 := u8_xor' y mask
        obtain ⟨z, hz⟩ : ∃ z, z = y ^^^ mask := ⟨_, rfl⟩
        rw [← hz] at q3 ⊢
        have hgj := cellsOfBytes_get l j hj
        rw [← hy] at hgj
        obtain ⟨l2, hl2⟩ : ∃ l2, l2 = l.set j z := ⟨_, rfl⟩
        rw [← hl2]
        have hl64 : l2.length = 64 := by rw [hl2, List.length_set]; exact e4
        have HJ := Lib.hid (And.intro hl2 (And.intro hj hl64))
        clear hy hz hl2 hj hl64
        have hj8 : j < 64 := by omega
        go_enter Tryz.func41, Tryz.ntmps41
        go_wp2_with (first
          | (go_at_call 69; refine zt.mono ?_; (rintro e w2 ⟨rfl, rfl⟩))
          | (at_builtin; refine wpList_appendB rfl (.tmp 22) (.tmp 29) 32 rfl rfl w.heap.size _ [] rfl (noBytes w) (some ⟨g, 0, none⟩) l 64 c w.heap.size rfl e4 hr1 (by simp; omega) (by simp) ?_; (intro v' w' ho hg hat; rw [List.nil_append] at ho; obtain ⟨g', cp, rfl, hg', hlt'⟩ := ho.g64 e4; have cB : Below w.heap.size w w' := noBytes_grown hg; have hc := ho.toR.cell hgj; have hf := ho.toR.frozen j; have ho2 := ho.store j z; rw [← HJ.out.1] at ho2; have cB2 := cB.setCell (p := ⟨g', j, none⟩) hg' (.int .u8 (z.toNat : Int)); obtain ⟨kz1, kz2⟩ := ky _ cB2; have hL2 := hM.out.step cB2; have fz := hL2.firm.frozen k; replace hL2 := Lib.hid hL2; have HB := Lib.hid (And.intro cB2 ho2); clear ho ho2 cB cB2 hat hg)))
        go_ret
        obtain ⟨cB, ho⟩ := HB.out
        exact MirPost.firm hM.out hL2.out cB ho HJ.out.2.2 hK.out
      · rw [show S.turn i a mask = (S, 5) by simp [DS.turn, ht]; omega]
        clear h ht
        go_enter Tryz.func41, Tryz.ntmps41
        go_wp2_with (go_at_call 69; refine zt.mono ?_; (rintro e w2 ⟨rfl, rfl⟩))
        go_ret
        exact ⟨F, rfl, hM.out, fun k hk => .inl hk, Frame.refl _ _⟩
    · rw [show S.turn i a mask = (S, 5) by simp [DS.turn, ht]; omega]
      clear h ht
      go_enter Tryz.func41, Tryz.ntmps41
      go_wp2_with (go_at_call 69; refine zt.mono ?_; (rintro e w2 ⟨rfl, rfl⟩))
      go_ret
      exact ⟨F, rfl, hM.out, fun k hk => .inl hk, Frame.refl _ _⟩
end Go.Proofs.YtcahpodmcklnbaaGreatDoor
/-
  The document's own disk (tandemref04): Flush. Conditions: none.
-/
namespace Go.Proofs.YtcahpodmcklnbaaGreatDoor
open Go.RowKit

namespace DS
/-- flushed below i -/
def flushed (T : DS) (i : Nat) : DS := { T with firm := fun j => if j < i then T.last j else T.firm j, loose := fun j => if j < i then none else T.loose j }
theorem flushed_zero (T : DS) : T.flushed 0 = T := by
  unfold flushed
  simp
theorem flushed_all (T : DS) (h : T.Ok) : T.flushed T.n = T.settle := by
  unfold flushed settle
  have e1 : (fun j => if j < T.n then T.last j else T.firm j) = T.last := by
    funext j
    by_cases hj : j < T.n
    · rw [if_pos hj]
    · rw [if_neg hj]
      have : T.loose j = none := by
        cases e : T.loose j with
        | none => rfl
        | some l => exact absurd (h.loose j l e).1 hj
      simp [last, this]
  have e2 : (fun j => if j < T.n then none else T.loose j) = fun _ => none := by
    funext j
    by_cases hj : j < T.n
    · rw [if_pos hj]
    · rw [if_neg hj]
      cases e : T.loose j with
      | none => rfl
      | some l => exact absurd (h.loose j l e).1 hj
  rw [e1, e2]
theorem flushed_none (T : DS) (i : Nat) (h : T.loose i = none) : T.flushed (i + 1) = T.flushed i := by
  unfold flushed
  have e1 : (fun j => if j < i + 1 then T.last j else T.firm j) = fun j => if j < i then T.last j else T.firm j := by
    funext j
    by_cases e : j = i
    · subst e; simp [last, h]
    · by_cases hj : j < i
      · rw [if_pos hj, if_pos (by omega)]
      · rw [if_neg hj, if_neg (by omega)]
  have e2 : (fun j => if j < i + 1 then none else T.loose j) = fun j => if j < i then none else T.loose j := by
    funext j
    by_cases e : j = i
    · subst e; simp [h]
    · by_cases hj : j < i
      · rw [if_pos hj, if_pos (by omega)]
      · rw [if_neg hj, if_neg (by omega)]
  rw [e1, e2]
theorem flushed_some (T : DS) (i : Nat) (l : List UInt8) (h : T.loose i = some l) : T.flushed (i + 1) = { T.flushed i with firm := upd (T.flushed i).firm i l, loose := upd (T.flushed i).loose i none } := by
  unfold flushed upd
  have e1 : (fun j => if j < i + 1 then T.last j else T.firm j) = fun j => if j = i then l else if j < i then T.last j else T.firm j := by
    funext j
    by_cases e : j = i
    · subst e; simp [last, h]
    · rw [if_neg e]
      by_cases hj : j < i
      · rw [if_pos hj, if_pos (by omega)]
      · rw [if_neg hj, if_neg (by omega)]
  have e2 : (fun j => if j < i + 1 then none else T.loose j) = fun j => if j = i then none else if j < i then none else T.loose j := by
    funext j
    by_cases e : j = i
    · subst e; simp
    · rw [if_neg e]
      by_cases hj : j < i
      · rw [if_pos hj, if_pos (by omega)]
      · rw [if_neg hj, if_neg (by omega)]
  rw [e1, e2]
end DS

set_option maxRecDepth 100000 in
theorem mFlush (w : World) (b : Nat) (F : Nat → Prop) (S : DS) (h : Mir w b F S) (hops : S.ops ≤ 1000000) :
    Calls Tryz.prog 37 #[.pointer (some ⟨b, 0, none⟩)] w (MirPost S.flush.2 S.flush.1 b F w) := by
  have hM := Lib.hid h
  obtain ⟨g0, g1, c0, c1, xs, ys, h⟩ := h
  have x2 := h.cell2
  cases ho : S.out with
  | true =>
    rw [show S.flush = (S, 10) by simp [DS.flush, ho]]
    rw [ho] at x2
    clear h ho
    go_enter Tryz.func37, Tryz.ntmps37
    go_wp2
    go_ret
    exact ⟨F, rfl, hM.out, fun k hk => .inl hk, Frame.refl _ _⟩
  | false =>
    rw [ho] at x2
    have zc := mChange w b F S hM.out hops ho
    cases hc : S.chg with
    | none =>
      rw [hc] at zc
      rw [show S.flush = ({ S with out := true }, 10) by simp [DS.flush, ho, hc]]
      clear h ho hc
      go_enter Tryz.func37, Tryz.ntmps37
      go_wp2_with (go_at_call 70; refine zc.mono ?_; (rintro e w2 ⟨rfl, hM2, hFr2⟩))
      go_ret
      exact ⟨F, rfl, hM2, fun k hk => .inl hk, hFr2⟩
    | some T =>
      rw [hc] at zc
      rw [show S.flush = (T.settle, 0) by simp [DS.flush, ho, hc]]
      clear h ho hc hM
      obtain ⟨n, hn⟩ : ∃ n, n = T.n := ⟨_, rfl⟩
      replace hn := Lib.hid hn
      have q1 := nil_neq
      have q2 := some_neq
      go_enter Tryz.func37, Tryz.ntmps37
      go_wp2_with (go_at_call 70; refine zc.mono ?_; (rintro e w2 ⟨rfl, ⟨h0, h1, d0, d1, us, vs, hL⟩, hFr2⟩; change MirL w2 b F T h0 h1 d0 d1 us vs at hL; have hn2 : n ≤ 1024 := Nat.le_trans (Nat.le_of_eq hn.out) hL.ok.n2; have hL := Lib.hid hL; have hFr2 := Lib.hid hFr2))
      go_loopw [3] (fun iv wr => ∃ i ps qs, i ≤ n ∧ iv = .int .i64 ((i : Nat) : Int) ∧ MirL wr b F (T.flushed i) h0 h1 d0 d1 ps qs ∧ Frame F w2 wr) (fun iv _ => n - (intOf iv).toNat)
      case atStart => exact ⟨0, us, vs, Nat.zero_le _, rfl, by rw [DS.flushed_zero]; exact hL.out, Frame.refl _ _⟩
      case round =>
        obtain ⟨i, ps, qs, hi, rfl, hm, hF⟩ := hrel
        have y0 := hm.cell0
        have y1 := hm.cell1
        have hnn : (T.flushed i).n = n := hn.out.symm
        rw [hnn] at y0 y1
        by_cases hlt : i < n
        · have hi2 : i < (T.flushed i).n := by rw [hnn]; exact hlt
          cases hl : T.loose i with
          | none =>
            have hz := hm.last.cell (hm.ln i hi2 (by simp [DS.flushed, hl]))
            have hfl := Lib.hid (DS.flushed_none T i hl)
            replace hm := Lib.hid hm
            clear hl hi2 hnn
            go_wp2
            go_roundw
            case rel => exact ⟨i + 1, ps, qs, by omega, by go_num, by rw [hfl.out]; exact hm.out, hF⟩
            case measure => simp [intOf]; omega
          | some l =>
            replace hm : MirL wr.drew b F (T.flushed i) h0 h1 d0 d1 ps qs := hm.kept (Nat.le_refl _) fun _ _ => rfl
            have hls : (T.flushed i).loose i = some l := by simp [DS.flushed, hl]
            obtain ⟨v, hv, hrow⟩ := hm.ls i l hls
            have e64 := (hm.ok.loose i l hls).2
            have hm2 := (hm.set_firm i hi2 hrow e64).set_nil i hi2
            obtain ⟨g, c, rfl, _⟩ := id hrow
            have hz := hm.last.cell hv
            have f0 : wr.drew.frozen? ⟨h0, i, none⟩ = false := hm.firm.frozen i
            obtain ⟨u, hu, _⟩ := hm.fr i hi2
            have s0 : wr.drew.cell? ⟨h0, i, none⟩ = some u := hm.firm.cell hu
            have hm1 := hm.set_firm i hi2 hrow e64
            have z0 := hm1.cell0
            have z1 := hm1.cell1
            change _ = some (Value.slice _ (T.flushed i).n _) at z0 z1
            rw [hnn] at z0 z1
            have z2 := hm1.last.cell hv
            have f1 := hm1.last.frozen i
            have hfl := Lib.hid (DS.flushed_some T i l hl)
            have b0 : (F h0 ∧ F h1) := ⟨hm.F0, hm.F1⟩
            replace hm := Lib.hid hm
            replace hm1 := Lib.hid hm1
            replace hm2 := Lib.hid hm2
            clear hl hls hi2 hnn hrow hu
            have y0d : wr.drew.cell? ⟨b, 0, none⟩ = _ := y0
            have y1d : wr.drew.cell? ⟨b, 1, none⟩ = _ := y1
            have hz0 : wr.cell? ⟨h1, i, none⟩ = _ := hz
            have f1w : wr.frozen? ⟨h1, i, none⟩ = false := hm.out.last.frozen i
            go_wp2
            go_region_held3 (fun w' => w'.cell? ⟨b, 0, none⟩ = some (.slice (some ⟨h0, 0, none⟩) n d0) ∧ w'.cell? ⟨b, 1, none⟩ = some (.slice (some ⟨h1, 0, none⟩) n d1) ∧ w'.cell? ⟨h1, i, none⟩ = some (.slice (some ⟨g, 0, none⟩) 64 c)) (first | assumption | exact ⟨y0d, y1d, hz⟩ | exact ⟨z0, z1, z2⟩) (fail)
            go_wp2
            go_roundw
            case rel =>
              refine ⟨i + 1, _, _, by omega, by go_num, by rw [hfl.out]; exact hm2.out, ?_⟩
              exact ((hF.trans (Frame.of_below (F := F) (Below.refl _ wr).drew) (fun j hj => .inl hj)).trans (frame_set _ h0 i _ b0.1) (fun j hj => .inl hj)).trans (frame_set _ h1 i _ b0.2) (fun j hj => .inl hj)
            case measure => simp [intOf]; omega
        · obtain rfl : i = n := by omega
          clear hnn
          go_wp2
          go_ret
          rw [hn.out, DS.flushed_all T hL.out.ok] at hm
          exact ⟨F, rfl, ⟨h0, h1, d0, d1, ps, qs, hm⟩, fun j hj => .inl hj, hFr2.out.trans hF (fun j hj => .inl hj)⟩
end Go.Proofs.YtcahpodmcklnbaaGreatDoor
/-
  The document's own disk (tandemref04): Loose. Conditions: none.
-/
namespace Go.Proofs.YtcahpodmcklnbaaGreatDoor
open Go.RowKit
namespace DS
def looseI (S : DS) (s : Nat) : List Int := (S.looseBelow s).map fun i : Nat => (i : Int)
theorem looseI_zero (S : DS) : S.looseI 0 = [] := rfl
theorem looseI_none (S : DS) (i : Nat) (h : S.loose i = none) : S.looseI (i + 1) = S.looseI i := by
  unfold looseI looseBelow
  rw [List.range_succ, List.filter_append]
  simp [isLoose, h]
theorem looseI_some (S : DS) (i : Nat) (l : List UInt8) (h : S.loose i = some l) : S.looseI (i + 1) = S.looseI i ++ [(i : Int)] := by
  unfold looseI looseBelow
  rw [List.range_succ, List.filter_append]
  simp [isLoose, h]
theorem looseI_len (S : DS) (i : Nat) : (S.looseI i).length ≤ i := by
  unfold looseI looseBelow
  rw [List.length_map]
  exact Nat.le_trans (List.length_filter_le _ _) (by simp)
theorem looseI_all (S : DS) : S.looseI S.n = S.looseList := rfl
end DS
def iv_ (S : DS) (i : Nat) : List Value := iv (S.looseI i)
set_option maxRecDepth 100000 in
theorem mLoose (w : World) (b : Nat) (F : Nat → Prop) (S : DS) (h : Mir w b F S) : Calls Tryz.prog 71 #[.pointer (some ⟨b, 0, none⟩)] w fun e w' =>
    ∃ A c, e = .returned (.slice A S.looseList.length c) ∧ S.looseList.length ≤ c ∧ OwnR 3 w' w.heap.size (.slice A S.looseList.length c) (iv S.looseList) ∧ Below w.heap.size w w' := by
  obtain ⟨g0, g1, c0, c1, xs, ys, h⟩ := h
  obtain ⟨n, hn⟩ : ∃ n, n = S.n := ⟨_, rfl⟩
  have hn2 : n ≤ 1024 := Nat.le_trans (Nat.le_of_eq hn) h.ok.n2
  have HM := Lib.hid (And.intro h hn)
  have y1 := h.cell1
  rw [← hn] at y1
  clear h hn
  have q1 := nil_neq
  have q2 := some_neq
  go_enter Tryz.func71, Tryz.ntmps71
  go_wp2
  go_loopw [3, 4] (fun lv iv wr => ∃ i, i ≤ n ∧ iv = .int .i64 ((i : Nat) : Int) ∧ OwnR 3 wr w.heap.size lv (iv_ S i) ∧ Below w.heap.size w wr) (fun _ iv _ => n - (intOf iv).toNat)
  case atStart => exact ⟨0, Nat.zero_le _, rfl, OwnR.nil_, Below.refl _ _⟩
  case round =>
    obtain ⟨i, hi, rfl, hown, hB⟩ := hrel
    obtain ⟨h, hn⟩ := HM.out
    have y1w := (h.step hB).cell1
    rw [← hn] at y1w
    by_cases hlt : i < n
    · have hi2 : i < S.n := by omega
      have hlen := Lib.hid (S.looseI_len i)
      cases hl : S.loose i with
      | none =>
        have hz := (h.step hB).last.cell (h.ln i hi2 hl)
        have hfl := Lib.hid (S.looseI_none i hl)
        clear h hn hl hi2
        go_wp2
        go_roundw
        case rel => exact ⟨i + 1, by omega, by go_num, by unfold iv_; rw [hfl.out]; exact hown, hB⟩
        case measure => simp [intOf]; omega
      | some l =>
        obtain ⟨v, hv, g, c, rfl, _⟩ := h.ls i l hl
        have hz := (h.step hB).last.cell hv
        have hfl := Lib.hid (S.looseI_some i l hl)
        clear h hn hl hi2
        go_wp2_with (at_builtin; refine wpList_appendR rfl (.tmp 22) (.tmp 24) elI rfl w.heap.size _ (iv_ S i) rfl (hown.alloc _) _ (iv [(i : Int)]) 1 1 (wr.heap.size + 1) rfl rfl ?c1 (iv_one _) ?c2 ?c3 ?c4 ?c5; rotate_left 4; (intro v' w' ho hg hat))
        · go_roundw
          case rel =>
            refine ⟨i + 1, by omega, by go_num, ?_, ?_⟩
            · unfold iv_ at ho ⊢; rw [hfl.out, iv_append]; exact ho
            · exact grown_belowR (hB.alloc hB.size _) hg (by have := hB.size; simp; omega) (hown.alloc _) (Nat.le_refl _)
          case measure => simp [intOf]; omega
        case c1 => exact (BlkR.new wr (iv [(i : Int)]) 3).row ⟨[], (List.append_nil _).symm⟩ (Nat.lt_succ_self _)
        case c2 => have := hlen.out; unfold iv_; rw [iv_length, iv_length]; unfold maxLen; simp; omega
        case c3 => have := hlen.out; unfold iv_; rw [iv_length, iv_length]; simp; omega
        case c4 => have := hB.size; simp; omega
    · obtain rfl : i = n := by omega
      obtain ⟨A, c, rfl, hlc, _⟩ := hown.form
      have e1 : (iv_ S i).length = S.looseList.length := by unfold iv_; rw [iv_length, hn]; rfl
      have e2 : iv_ S i = iv S.looseList := by unfold iv_; rw [hn]; rfl
      have HE := Lib.hid (And.intro e1 e2)
      clear h hn e1 e2
      go_wp2
      go_ret
      obtain ⟨e1, e2⟩ := HE.out
      rw [e1, e2] at hown
      rw [e1] at hlc ⊢
      exact ⟨A, c, rfl, hlc, hown, hB⟩
end Go.Proofs.YtcahpodmcklnbaaGreatDoor
/-
  The document's own disk (tandemref04), while it is being made. Conditions: none.
-/
namespace Go.Proofs.YtcahpodmcklnbaaGreatDoor
open Go.RowKit
set_option maxRecDepth 100000 in
theorem elRows : Elem Tryz.prog 67 32 (.slice none 0 0) 24 := ⟨Tryz.underlying67, ⟨_, rfl, by kernel_rfl, by kernel_rfl, by kernel_rfl⟩, rfl, rfl⟩
def RowP (w : World) (b : Nat) (v0 v1 v : Value) (l : List UInt8) : Prop :=
  ∃ g c, v = .slice (some ⟨g, 0, none⟩) 64 c ∧ (b < g ∧ 64 ≤ c) ∧ g < w.heap.size ∧ v0.ownBlock ≠ some g ∧ v1.ownBlock ≠ some g ∧ BytesAt w w.heap.size (some ⟨g, 0, none⟩) l
structure Part (w : World) (b : Nat) (S : DS) (i0 i1 : Nat) (v0 v1 : Value) (xs ys : List Value) : Prop where
  head : BlkR 69 w b [v0, v1, .bool S.out, .int .i64 S.leftI, .int .i64 (S.ops : Int)]
  o0 : OwnR 32 w (b + 1) v0 xs
  o1 : OwnR 32 w (b + 1) v1 ys
  l0 : xs.length = i0
  l1 : ys.length = i1
  ne : ∀ k, v0.ownBlock = some k → v1.ownBlock ≠ some k
  fr : ∀ j, j < i0 → ∃ v, xs[j]? = some v ∧ RowP w b v0 v1 v (S.firm j)
  ln : ∀ j, j < i1 → S.loose j = none → ys[j]? = some (.slice none 0 0)
  ls : ∀ j l, j < i1 → S.loose j = some l → ∃ v, ys[j]? = some v ∧ RowP w b v0 v1 v l
section
variable {w w' w2 : World} {b i0 i1 : Nat} {S : DS} {xs ys : List Value} {v v0 v1 v' : Value} {l : List UInt8}
theorem RowP.kept (h : RowP w b v0 v1 v l) (hs : w.heap.size ≤ w'.heap.size) {u0 u1 : Value} (h0 : ∀ g, b < g → g < w.heap.size → v0.ownBlock ≠ some g → v1.ownBlock ≠ some g → w'.heap[g]? = w.heap[g]? ∧ u0.ownBlock ≠ some g ∧ u1.ownBlock ≠ some g) : RowP w' b u0 u1 v l := by
  obtain ⟨g, c, e, h1, h2, h3, h4, h5⟩ := h
  obtain ⟨k1, k2, k3⟩ := h0 g h1.1 h2 h3 h4
  exact ⟨g, c, e, h1, Nat.lt_of_lt_of_le h2 hs, k2, k3, h5.kept hs fun ad e => by cases e; exact k1⟩
/-- new memory leaves it as it is -/
theorem Part.step (h : Part w b S i0 i1 v0 v1 xs ys) (hb : Below w.heap.size w w') : Part w' b S i0 i1 v0 v1 xs ys :=
  { h with
    head := h.head.below hb h.head.lt, o0 := h.o0.below hb (Nat.le_refl _), o1 := h.o1.below hb (Nat.le_refl _),
    fr := fun j hj => by obtain ⟨v, e, r⟩ := h.fr j hj; exact ⟨v, e, r.kept hb.size fun g _ h2 h3 h4 => ⟨hb.block g h2, h3, h4⟩⟩,
    ls := fun j l hj hl => by obtain ⟨v, e, r⟩ := h.ls j l hj hl; exact ⟨v, e, r.kept hb.size fun g _ h2 h3 h4 => ⟨hb.block g h2, h3, h4⟩⟩ }
theorem OwnR.grown_other {E : TypeId} {base : Nat} (h : OwnR E w base v xs) (hg : w.grownBy w' v0.ownBlock) (hne : ∀ k, v0.ownBlock = some k → v.ownBlock ≠ some k) : OwnR E w' base v xs :=
  World.ownsRow.kept (row := v0.ownBlock) h hg (by
    rcases hv : v.ownBlock with _ | k
    · exact .inl rfl
    · exact .inr (fun e => hne k e.symm hv))
/-- the first row of rows, one row longer -/
theorem Part.push0 (h : Part w b S i0 i1 v0 v1 xs ys) (hg : w.grownBy w' v0.ownBlock) (ho : OwnR 32 w' (b + 1) v' (xs ++ [v])) (hat : v'.ownBlock = v0.ownBlock ∨ v'.ownBlock = some w.heap.size) (hv : RowP w b v0 v1 v (S.firm i0)) :
    Part (w'.setCell ⟨b, 0, none⟩ v') b S (i0 + 1) i1 v' v1 (xs ++ [v]) ys := by
  have hsz := set_size w' ⟨b, 0, none⟩ v'
  have hs : w.heap.size ≤ (w'.setCell ⟨b, 0, none⟩ v').heap.size := by rw [hsz]; exact hg.size
  have hblk : ∀ g, b < g → g < w.heap.size → v0.ownBlock ≠ some g → v1.ownBlock ≠ some g → (w'.setCell ⟨b, 0, none⟩ v').heap[g]? = w.heap[g]? ∧ v'.ownBlock ≠ some g ∧ v1.ownBlock ≠ some g := fun g h1 h2 h3 h4 =>
    ⟨(Below.heap_setCell w' ⟨b, 0, none⟩ v' g (by show g ≠ b; omega)).trans (hg.block g h2 (fun e => h3 e.symm)), fun e => (hat.elim (fun q => h3 (q.symm.trans e)) (fun q => by rw [q] at e; have := Option.some.inj e; omega)), h4⟩
  refine ⟨?_, ho.far (by show b < b + 1; omega) v', (h.o1.grown_other hg h.ne).far (by show b < b + 1; omega) v', by rw [List.length_append, h.l0]; rfl, h.l1, fun k hk hk1 => ?_, fun j hj => ?_, h.ln, fun j l hj hl => ?_⟩
  · have hb : BlkR 69 w' b _ := (hg.block b h.head.lt (fun e => by have := (h.o0.lt b e.symm).1; omega)).trans h.head
    exact hb.set_ 0 v'
  · rcases hat with q | q
    · exact h.ne k (q.symm.trans hk) hk1
    · rw [q] at hk; have := Option.some.inj hk; have := (h.o1.lt k hk1).2; omega
  · by_cases e : j < i0
    · obtain ⟨u, e1, r⟩ := h.fr j e
      exact ⟨u, by rw [List.getElem?_append_left (by rw [h.l0]; exact e)]; exact e1, r.kept hs hblk⟩
    · obtain rfl : j = i0 := by omega
      exact ⟨v, by rw [← h.l0]; simp, hv.kept hs hblk⟩
  · obtain ⟨u, e1, r⟩ := h.ls j l hj hl
    exact ⟨u, e1, r.kept hs hblk⟩
/-- the second one, one row longer -/
theorem Part.push1 (h : Part w b S i0 i1 v0 v1 xs ys) (hg : w.grownBy w' v1.ownBlock) (ho : OwnR 32 w' (b + 1) v' (ys ++ [v])) (hat : v'.ownBlock = v1.ownBlock ∨ v'.ownBlock = some w.heap.size)
    (hv : (S.loose i1 = none ∧ v = .slice none 0 0) ∨ ∃ l, S.loose i1 = some l ∧ RowP w b v0 v1 v l) :
    Part (w'.setCell ⟨b, 1, none⟩ v') b S i0 (i1 + 1) v0 v' xs (ys ++ [v]) := by
  have hsz := set_size w' ⟨b, 1, none⟩ v'
  have hs : w.heap.size ≤ (w'.setCell ⟨b, 1, none⟩ v').heap.size := by rw [hsz]; exact hg.size
  have hblk : ∀ g, b < g → g < w.heap.size → v0.ownBlock ≠ some g → v1.ownBlock ≠ some g → (w'.setCell ⟨b, 1, none⟩ v').heap[g]? = w.heap[g]? ∧ v0.ownBlock ≠ some g ∧ v'.ownBlock ≠ some g := fun g h1 h2 h3 h4 =>
    ⟨(Below.heap_setCell w' ⟨b, 1, none⟩ v' g (by show g ≠ b; omega)).trans (hg.block g h2 (fun e => h4 e.symm)), h3, fun e => (hat.elim (fun q => h4 (q.symm.trans e)) (fun q => by rw [q] at e; have := Option.some.inj e; omega))⟩
  refine ⟨?_, (h.o0.grown_other hg (fun k h1 h2 => h.ne k h2 h1)).far (by show b < b + 1; omega) v', ho.far (by show b < b + 1; omega) v', h.l0, by rw [List.length_append, h.l1]; rfl, fun k hk hk1 => ?_, fun j hj => ?_, fun j hj hl => ?_, fun j l hj hl => ?_⟩
  · have hb : BlkR 69 w' b _ := (hg.block b h.head.lt (fun e => by have := (h.o1.lt b e.symm).1; omega)).trans h.head
    exact hb.set_ 1 v'
  · rcases hat with q | q
    · exact h.ne k hk (q.symm.trans hk1)
    · rw [q] at hk1; have := Option.some.inj hk1; have := (h.o0.lt k hk).2; omega
  · obtain ⟨u, e1, r⟩ := h.fr j hj
    exact ⟨u, e1, r.kept hs hblk⟩
  · by_cases e : j < i1
    · rw [List.getElem?_append_left (by rw [h.l1]; exact e)]; exact h.ln j e hl
    · obtain rfl : j = i1 := by omega
      rcases hv with ⟨_, rfl⟩ | ⟨l, hl2, _⟩
      · rw [← h.l1]; simp
      · rw [hl] at hl2; cases hl2
  · by_cases e : j < i1
    · obtain ⟨u, e1, r⟩ := h.ls j l e hl
      exact ⟨u, by rw [List.getElem?_append_left (by rw [h.l1]; exact e)]; exact e1, r.kept hs hblk⟩
    · obtain rfl : j = i1 := by omega
      rcases hv with ⟨hl2, _⟩ | ⟨l', hl2, r⟩
      · rw [hl] at hl2; cases hl2
      · rw [hl] at hl2; cases hl2
        exact ⟨v, by rw [← h.l1]; simp, r.kept hs hblk⟩
theorem OwnR.whole {E : TypeId} {base : Nat} (h : OwnR E w base v xs) (hpos : 0 < xs.length) : ∃ g c zs, v = .slice (some ⟨g, 0, none⟩) xs.length c ∧ xs.length ≤ c ∧ base ≤ g ∧ BlkR E w g zs ∧ (∀ j, j < xs.length → zs[j]? = xs[j]?) ∧ v.ownBlock = some g := by
  rcases h.2 with ⟨_, h0⟩ | ⟨g, cap, cur, hv, hb, hg, hnc, _, _, ht⟩
  · omega
  · refine ⟨g, cap, cur.toList, hv, hnc, hb, by unfold BlkR; rw [hg], fun j hj => ?_, by rw [hv]; rfl⟩
    rw [Nat.mul_one] at ht
    rw [← ht, List.getElem?_take, if_pos hj]
/-- made whole -/
theorem Part.mir (h : Part w b S S.n S.n v0 v1 xs ys) (hok : S.Ok) (hl : ∀ k, S.left = some k → k ≤ 9223372036854775807) : Mir w b (fun k => b ≤ k ∧ k < w.heap.size) S := by
  have hn := hok.n1
  obtain ⟨g0, c0, zs, rfl, hc0, hg0, hb0, hz0, ho0⟩ := h.o0.whole (by rw [h.l0]; omega)
  obtain ⟨g1, c1, us, rfl, hc1, hg1, hb1, hz1, ho1⟩ := h.o1.whole (by rw [h.l1]; omega)
  have hh := h.head
  rw [h.l0, h.l1] at hh
  have hne : g0 ≠ g1 := fun e => h.ne g0 ho0 (e ▸ ho1)
  have row : ∀ {v l}, RowP w b (.slice (some ⟨g0, 0, none⟩) xs.length c0) (.slice (some ⟨g1, 0, none⟩) ys.length c1) v l → RowB w (fun k => b ≤ k ∧ k < w.heap.size) b g0 g1 v l := fun ⟨g, c, e, h1, h2, h3, h4, h5⟩ =>
    ⟨g, c, e, ⟨⟨by omega, h2⟩, h1.2⟩, by omega, fun e => h3 (e ▸ ho0), fun e => h4 (e ▸ ho1), h5⟩
  refine ⟨g0, g1, c0, c1, zs, us, hok, hl, hh, hb0, hb1, by rw [← h.l0]; exact hc0, by rw [← h.l1]; exact hc1, ⟨Nat.le_refl _, h.head.lt⟩, ⟨by omega, hb0.lt⟩, ⟨by omega, hb1.lt⟩, by omega, by omega, hne, fun k hk => hk.2, fun i hi => ?_, fun i hi hn => ?_, fun i l hi => ?_⟩
  · obtain ⟨v, e, r⟩ := h.fr i hi
    exact ⟨v, (hz0 i (by rw [h.l0]; exact hi)).trans e, row r⟩
  · exact (hz1 i (by rw [h.l1]; exact hi)).trans (h.ln i hi hn)
  · obtain ⟨v, e, r⟩ := h.ls i l (hok.loose i l hi).1 hi
    exact ⟨v, (hz1 i (by rw [h.l1]; exact (hok.loose i l hi).1)).trans e, row r⟩
end
end Go.Proofs.YtcahpodmcklnbaaGreatDoor
/-
  The document's own disk (tandemref04): New. Conditions: none.
-/
namespace Go.Proofs.YtcahpodmcklnbaaGreatDoor
open Go.RowKit
theorem step_appendR {P : Program} {T E : TypeId} {z : Value} {bytes : Nat} {w : World} {ops : Array Oper} {o : Oper} {a : Act} {K : Act → World → Prop} {Q : Exit → Act → World → Prop} {X : Prop} (hgd : o.guard = none) (s x : Operand) (el : Elem P T E z bytes)
    (ho : o.op = .call { callee := .builtin .append, args := #[s, x], argTypes := #[T, T] })
    (base : Nat) (v : Value) (xs : List Value) (hs : a.eval s = v) (hown : OwnR E w base v xs) (A : Option Addr) (ys : List Value) (m c B : Nat) (hx : a.eval x = .slice A m c) (hm : ys.length = m) (hr : RowAt w B A ys)
    (h1 : ∀ u ∈ ys, u.oneCell' = true) (hmax : xs.length + ys.length ≤ maxLen) (hsz : (xs.length + ys.length) * bytes ≤ 140737488355328) (hbase : base ≤ w.heap.size)
    (h : ∀ v' w', OwnR E w' base v' (xs ++ ys) → w.grownBy w' v.ownBlock → (v'.ownBlock = v.ownBlock ∨ v'.ownBlock = some w.heap.size) → K (a.put o.dst v') w') :
    if Region.wanted o (yielded ops a.tmps) = true then Oper.wp P o a w K Q else X := by
  obtain ⟨v', w', hrun, h2, h3, h4⟩ := run_appendR el hown hm hr h1 hmax hsz hbase o.type
  exact step_append_run hgd s x T ho hs hx hrun (h _ _ h2 h3 h4)
/-- a row of noughts, and a slice of it alone -/
abbrev RowW (w : World) : World := (w.drew.alloc (.cells (List.replicate 64 (Value.int .u8 0)).toArray 5)).alloc (.cells #[.slice (some ⟨w.heap.size, 0, none⟩) 64 64] 32)
theorem rowW_below (w : World) : Below w.heap.size w (RowW w) := ((Below.refl _ _).drew.alloc (Nat.le_refl _) _).alloc (by simp) _
theorem rowW_size (w : World) : (RowW w).heap.size = w.heap.size + 2 := by simp [RowW]
theorem rowW_row (w : World) (b : Nat) (v0 v1 : Value) (hb : b < w.heap.size) (h0 : ∀ k, v0.ownBlock = some k → k < w.heap.size) (h1 : ∀ k, v1.ownBlock = some k → k < w.heap.size) : RowP (RowW w) b v0 v1 (.slice (some ⟨w.heap.size, 0, none⟩) 64 64) (List.replicate 64 0) := by
  have hB : BlkB (w.drew.alloc (.cells (List.replicate 64 (Value.int .u8 0)).toArray 5)) w.heap.size (List.replicate 64 0) := by
    have e : (cellsOfBytes (List.replicate 64 0)).toArray = (List.replicate 64 (Value.int .u8 0)).toArray := by simp [cellsOfBytes]
    unfold BlkB
    rw [e]
    exact heap_alloc_new w.drew _
  have hB2 : BlkB (RowW w) w.heap.size (List.replicate 64 0) := hB.step ((Below.refl _ _).alloc (Nat.le_refl _) _)
  exact ⟨w.heap.size, 64, rfl, ⟨hb, Nat.le_refl _⟩, hB2.lt, fun e => by have := h0 _ e; omega, fun e => by have := h1 _ e; omega, hB2.at_⟩
theorem rowW_at (w : World) : RowAt (RowW w) (w.heap.size + 2) (some ⟨w.heap.size + 1, 0, none⟩) [.slice (some ⟨w.heap.size, 0, none⟩) 64 64] := by
  have h := BlkR.new (w.drew.alloc (.cells (List.replicate 64 (Value.int .u8 0)).toArray 5)) [.slice (some ⟨w.heap.size, 0, none⟩) 64 64] 32
  rw [show (w.drew.alloc (.cells (List.replicate 64 (Value.int .u8 0)).toArray 5)).heap.size = w.heap.size + 1 by simp] at h
  exact h.row ⟨[], rfl⟩ (by omega)
theorem Part.head0 {w w' : World} {b i0 i1 : Nat} {S : DS} {v0 v1 : Value} {xs ys : List Value} (h : Part w b S i0 i1 v0 v1 xs ys) (hg : w.grownBy w' v0.ownBlock) : w'.cell? ⟨b, 0, none⟩ = some v0 ∧ w'.frozen? ⟨b, 0, none⟩ = false ∧ w'.cell? ⟨b, 1, none⟩ = some v1 := by
  have hb : BlkR 69 w' b _ := (hg.block b h.head.lt (fun e => by have := (h.o0.lt b e.symm).1; omega)).trans h.head
  exact ⟨hb.cell rfl, hb.frozen 0, hb.cell rfl⟩
theorem Part.head1 {w w' : World} {b i0 i1 : Nat} {S : DS} {v0 v1 : Value} {xs ys : List Value} (h : Part w b S i0 i1 v0 v1 xs ys) (hg : w.grownBy w' v1.ownBlock) : w'.cell? ⟨b, 1, none⟩ = some v1 ∧ w'.frozen? ⟨b, 1, none⟩ = false := by
  have hb : BlkR 69 w' b _ := (hg.block b h.head.lt (fun e => by have := (h.o1.lt b e.symm).1; omega)).trans h.head
  exact ⟨hb.cell rfl, hb.frozen 1⟩
theorem one_slice (A : Option Addr) (n c : Nat) : ∀ u ∈ [Value.slice A n c], u.oneCell' = true := by
  intro u hu
  rw [List.mem_singleton] at hu
  subst hu
  rfl
theorem mNew_no (n : Int) (w : World) (h : n < 1 ∨ 1024 < n) : Calls Tryz.prog 6 #[.int .i64 n] w fun e w' => e = .returned (.tuple #[.pointer none, .int .i64 5]) ∧ w = w' := by
  by_cases h1 : n < 1
  · clear h
    go_enter Tryz.func6, Tryz.ntmps6
    go_wp2
    go_ret2
    exact ⟨rfl, rfl⟩
  · replace h : 1024 < n := by omega
    go_enter Tryz.func6, Tryz.ntmps6
    go_wp2
    go_ret2
    exact ⟨rfl, rfl⟩
set_option maxHeartbeats 2000000 in
set_option maxRecDepth 100000 in
theorem mNew (n : Nat) (w : World) (h1 : 1 ≤ n) (h2 : n ≤ 1024) : Calls Tryz.prog 6 #[.int .i64 (n : Int)] w fun e w' =>
    ∃ b F, e = .returned (.tuple #[.pointer (some ⟨b, 0, none⟩), .int .i64 0]) ∧ Mir w' b F (DS.fresh n) ∧ (∀ k, F k → w.heap.size ≤ k) ∧ Below w.heap.size w w' := by
  go_enter Tryz.func6, Tryz.ntmps6
  go_wp2
  go_loopw [5] (fun iv wr => ∃ i v0 v1 xs ys, i ≤ n ∧ iv = .int .i64 ((i : Nat) : Int) ∧ Part wr w.heap.size (DS.fresh n) i i v0 v1 xs ys ∧ Below w.heap.size w wr) (fun iv _ => n - (intOf iv).toNat)
  case atStart =>
    refine ⟨0, .slice none 0 0, .slice none 0 0, [], [], Nat.zero_le _, rfl, ⟨BlkR.new w _ _, OwnR.nil_, OwnR.nil_, rfl, rfl, fun k hk => by (cases hk), fun j hj => by omega, fun j hj => by omega, fun j l hj => by omega⟩, (Below.refl _ _).alloc (Nat.le_refl _) _⟩
  case round =>
    obtain ⟨i, v0, v1, xs, ys, hi, rfl, hp, hB⟩ := hrel
    by_cases hlt : i < n
    · have hbw : w.heap.size < wr.heap.size := hp.head.lt
      have y0 : wr.cell? ⟨w.heap.size, 0, none⟩ = some v0 := hp.head.cell rfl
      have hp2 := hp.step (rowW_below wr)
      have hrow := rowW_row wr w.heap.size v0 v1 hbw (fun k hk => (hp.o0.lt k hk).2) (fun k hk => (hp.o1.lt k hk).2)
      have hat := rowW_at wr
      have hown := hp2.o0
      have hl0 := hp.l0
      have hl1 := hp.l1
      have hsz := rowW_size wr
      have hB2 := step_trans hB (rowW_below wr)
      have k0 : wr.drew.cell? ⟨w.heap.size, 0, none⟩ = some v0 := y0
      have k1 := (((Below.refl wr.heap.size wr).drew.alloc (Nat.le_refl _) (.cells (List.replicate 64 (Value.int .u8 0)).toArray 5)).cell (p := ⟨w.heap.size, 0, none⟩) hbw).trans y0
      have k2 := ((rowW_below wr).cell (p := ⟨w.heap.size, 0, none⟩) hbw).trans y0
      have H := Lib.hid (And.intro hp2 (And.intro hrow hB2))
      have hmk := make_bytes 64 (by decide)
      rw [show ((64 : Nat) : Int) = 64 from rfl] at hmk
      have e9 : (xs ++ [Value.slice (some ⟨wr.heap.size, 0, none⟩) 64 64]).length = i + 1 := by rw [List.length_append, hl0]; rfl
      have e8 : (ys ++ [Value.slice none 0 0]).length = i + 1 := by rw [List.length_append, hl1]; rfl
      have hbase : w.heap.size + 1 ≤ (RowW wr).heap.size := by rw [hsz]; omega
      clear hp hrow hB2 hB
      go_wp2
      go_region_law (refine step_appendR rfl (.tmp 23) (.tmp 25) elRows rfl (w.heap.size + 1) v0 xs (by simp [Act.eval]) hown (some ⟨wr.heap.size + 1, 0, none⟩) [.slice (some ⟨wr.heap.size, 0, none⟩) 64 64] 1 1 (wr.heap.size + 2) (by simp [Act.eval]) rfl hat (one_slice _ _ _) (by rw [hl0]; unfold maxLen; simp; omega) (by rw [hl0]; simp; omega) hbase ?_; (intro v' w' ho hg hat'; have hp3 := H.out.1.push0 hg ho hat' H.out.2.1; obtain ⟨k3, f3, y3⟩ := H.out.1.head0 hg; have hB3 := grown_belowR H.out.2.2 hg (Nat.le_trans (Nat.le_succ _) hbase) hown (Nat.le_succ _); obtain ⟨A', c', rfl, _⟩ := ho.form; rw [e9] at hp3; have hp3 := Lib.hid hp3; have hB3 := Lib.hid hB3; clear ho hg hat'))
      all_goals
        have hp4 := hp3.out.step ((Below.refl _ _).alloc (Nat.le_refl _) (.cells #[.slice none 0 0] 32))
        have hr4 := (BlkR.new (w'.setCell ⟨w.heap.size, 0, none⟩ (.slice A' (i + 1) c')) [.slice none 0 0] 32).row (ys := [.slice none 0 0]) ⟨[], rfl⟩ (Nat.lt_succ_self _)
        rw [set_size] at hr4
        have hb4 := hp4.head.lt
        have ho4 := hp4.o1
        have hp4 := Lib.hid hp4
        have hB4 := Lib.hid ((hB3.out.setCell (p := ⟨w.heap.size, 0, none⟩) (Nat.le_refl _) (.slice A' (i + 1) c')).alloc (by rw [set_size]; exact hB3.out.size) (.cells #[.slice none 0 0] 32))
        go_wp2_with (at_builtin; refine wpList_appendR rfl (.tmp 33) (.tmp 34) elRows rfl (w.heap.size + 1) v1 ys rfl ho4 _ [.slice none 0 0] 1 1 _ rfl rfl hr4 (one_slice _ _ _) (by rw [hl1]; unfold maxLen; simp; omega) (by rw [hl1]; simp; omega) hb4 ?_; (intro v2 w2 ho2 hg2 hat2; have hp5 := hp4.out.push1 hg2 ho2 hat2 (.inl ⟨rfl, rfl⟩); obtain ⟨k5, f5⟩ := hp4.out.head1 hg2; have hB5 := grown_belowR hB4.out hg2 (Nat.le_trans (Nat.le_succ _) hb4) ho4 (Nat.le_succ _); obtain ⟨A2, c2, rfl, _⟩ := ho2.form; rw [e8] at hp5; have hp5 := Lib.hid (And.intro hp5 hB5); clear ho2 hg2 hat2 hB5))
        go_roundw
        case rel => exact ⟨i + 1, _, _, _, _, by omega, by go_num, hp5.out.1, hp5.out.2.setCell (p := ⟨w.heap.size, 1, none⟩) (Nat.le_refl _) _⟩
        case measure => simp [intOf]; omega
    · obtain rfl : i = n := by omega
      clear hlt
      go_wp2
      go_ret2
      refine ⟨_, _, rfl, hp.mir ⟨h1, h2, fun j _ => by simp [DS.fresh], fun j l hl => by cases hl⟩ (fun k hk => by cases hk), fun k hk => hk.1, hB⟩
end Go.Proofs.YtcahpodmcklnbaaGreatDoor
