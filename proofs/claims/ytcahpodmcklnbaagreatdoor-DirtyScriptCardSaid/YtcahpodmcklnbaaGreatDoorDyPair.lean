/-
  A map of dirty blocks beside the document's own (tandemlaw10.pair): what lies there; opens, act. Conditions: the table of crc lies as the program's text lays it; at most so many changes.
-/
import Derived.Test.YtcahpodmcklnbaaGreatDoorDyRef
import Derived.Test.YtcahpodmcklnbaaGreatDoorDyKit
import Derived.Test.YtcahpodmcklnbaaGreatDoorDaActs
namespace Go.Proofs.YtcahpodmcklnbaaGreatDoor
open Go.RowKit Fix

theorem blk_ne {E1 E2 : TypeId} {w : World} {g h : Nat} {xs ys : List Value} (h1 : BlkR E1 w g xs) (h2 : BlkR E2 w h ys) (hE : E1 ≠ E2) : g ≠ h := by
  rintro rfl
  have e := h1.symm.trans h2
  simp at e
  exact hE e.2
/-- both maps: the program's at g, the document's at h, of the slot at p, of the set s -/
structure PrM where
  g : Nat
  h : Nat
  p : Int
  s : Nat
def prL : Option PrM → List Value
  | none => [.pointer none, .pointer none]
  | some q => [.pointer (some ⟨q.g, 0, none⟩), .pointer (some ⟨q.h, 0, none⟩)]
structure PrAt (w : World) (P b c : Nat) (o : Option PrM) : Prop where
  blk : BlkR 45 w P (prL o)
  m : ∀ q, o = some q → MpAt w q.g b q.p q.s
  r : ∀ q, o = some q → RfAt w q.h c q.p q.s
/-- the blocks of a pair -/
def PrB (P : Nat) (o : Option PrM) (k : Nat) : Prop := k = P ∨ ∃ q, o = some q ∧ (k = q.g ∨ k = q.h)
section
variable {w w' : World} {P b c : Nat} {o : Option PrM}
theorem PrAt.step (h : PrAt w P b c o) (B : Below w.heap.size w w') : PrAt w' P b c o := ⟨h.blk.step B, fun q e => (h.m q e).step B, fun q e => (h.r q e).step B⟩
theorem PrAt.frame {H : Nat → Prop} (h : PrAt w P b c o) (fr : Frame H w w') (hn : ∀ k, PrB P o k → ¬ H k) : PrAt w' P b c o :=
  ⟨h.blk.frame fr (hn P (.inl rfl)), fun q e => (h.m q e).frame fr (hn _ (.inr ⟨q, e, .inl rfl⟩)), fun q e => (h.r q e).frame fr (hn _ (.inr ⟨q, e, .inr rfl⟩))⟩
theorem PrAt.lt (h : PrAt w P b c o) : ∀ k, PrB P o k → k < w.heap.size := fun k hk => by
  rcases hk with rfl | ⟨q, e, rfl | rfl⟩
  · exact h.blk.lt
  · exact (h.m q e).blk.lt
  · exact (h.r q e).blk.lt
theorem PrAt.ne {q : PrM} (h : PrAt w P b c (some q)) : P ≠ q.g ∧ P ≠ q.h ∧ q.g ≠ q.h := ⟨blk_ne h.blk (h.m q rfl).blk (by decide), blk_ne h.blk (h.r q rfl).blk (by decide), blk_ne (h.m q rfl).blk (h.r q rfl).blk (by decide)⟩
end
/-- both disks, and the pair over them -/
structure PrTwo (w : World) (b c P : Nat) (F G : Nat → Prop) (S : DS) (o : Option PrM) : Prop where
  two : Two DiskAt w b c F G S
  pr : PrAt w P b c o
  ap : ∀ k, PrB P o k → ¬ F k ∧ ¬ G k
/-- what a call of the pair leaves -/
def PrPost (b c P : Nat) (F G : Nat → Prop) (S : DS) (o : Option PrM) (w : World) (e : Ending) (w' : World) : Prop :=
  ∃ T F' G' o', e = .returned (.bool true) ∧ PrTwo w' b c P F' G' T o' ∧ T.ops ≤ S.ops + 4 ∧ (∀ k, F' k → F k ∨ w.heap.size ≤ k) ∧ (∀ k, G' k → G k ∨ w.heap.size ≤ k) ∧ (∀ k, PrB P o' k → PrB P o k ∨ w.heap.size ≤ k) ∧ Frame (fun k => (F k ∨ G k) ∨ PrB P o k) w w'
section
variable {w w' w1 w2 : World} {b c P : Nat} {F G F' G' : Nat → Prop} {S T : DS} {o : Option PrM}
theorem PrTwo.step (h : PrTwo w b c P F G S o) (B : Below w.heap.size w w') : PrTwo w' b c P F G S o := ⟨h.two.step disks B, h.pr.step B, h.ap⟩
theorem PrTwo.keep (h : PrTwo w b c P F G S o) (two : Two DiskAt w' b c F' G' T) (o1 : ∀ k, F' k → F k ∨ w.heap.size ≤ k) (o2 : ∀ k, G' k → G k ∨ w.heap.size ≤ k) (fr : Frame (fun k => F k ∨ G k) w w') : PrTwo w' b c P F' G' T o :=
  ⟨two, h.pr.frame fr fun k hk x => x.elim (h.ap k hk).1 (h.ap k hk).2, fun k hk => ⟨fun x => (o1 k x).elim (h.ap k hk).1 fun y => by have := h.pr.lt k hk; omega, fun x => (o2 k x).elim (h.ap k hk).2 fun y => by have := h.pr.lt k hk; omega⟩⟩
/-- between the program's call and the document's -/
structure PrMid (w : World) (b c P : Nat) (F G : Nat → Prop) (S : DS) (q : PrM) (F1 : Nat → Prop) (T : DS) (n : Nat) (w1 : World) : Prop where
  was : PrTwo w b c P F G S (some q)
  d : DiskAt w1 b F1 T
  mp : MpAt w1 q.g b q.p n
  g1 : ¬ F1 q.g
  mir : Mir w1 c G S
  rf : RfAt w1 q.h c q.p q.s
  blk : BlkR 45 w1 P (prL (some q))
  own : ∀ k, F1 k → F k ∨ w.heap.size ≤ k
  fr : Frame (fun k => F k ∨ k = q.g) w w1
theorem PrTwo.mid {q : PrM} {F1 : Nat → Prop} {n : Nat} (h : PrTwo w b c P F G S (some q)) (d : DiskAt w1 b F1 T) (mp : MpAt w1 q.g b q.p n) (g1 : ¬ F1 q.g) (own : ∀ k, F1 k → F k ∨ w.heap.size ≤ k) (fr : Frame (fun k => F k ∨ k = q.g) w w1) : PrMid w b c P F G S q F1 T n w1 := by
  obtain ⟨n1, n2, n3⟩ := h.pr.ne
  have ag := h.ap _ (.inr ⟨q, rfl, .inl rfl⟩)
  have ah := h.ap _ (.inr ⟨q, rfl, .inr rfl⟩)
  have aP := h.ap P (.inl rfl)
  exact ⟨h, d, mp, g1, h.two.m.frame fr fun k hk x => x.elim (fun y => h.two.ap k y hk) fun e => ag.2 (e ▸ hk), (h.pr.r q rfl).frame fr fun x => x.elim ah.1 fun e => n3 e.symm, h.pr.blk.frame fr fun x => x.elim aP.1 n1, own, fr⟩
theorem PrMid.fin {q : PrM} {F1 G2 : Nat → Prop} {n : Nat} (h : PrMid w b c P F G S q F1 T n w1) (m2 : Mir w2 c G2 T) (r2 : RfAt w2 q.h c q.p n) (g2 : ¬ G2 q.h) (own : ∀ k, G2 k → G k ∨ w1.heap.size ≤ k) (fr : Frame (fun k => G k ∨ k = q.h) w1 w2) :
    PrTwo w2 b c P F1 G2 T (some { q with s := n }) ∧ (∀ k, F1 k → F k ∨ w.heap.size ≤ k) ∧ (∀ k, G2 k → G k ∨ w.heap.size ≤ k) ∧ Frame (fun k => (F k ∨ G k) ∨ PrB P (some q) k) w w2 := by
  obtain ⟨n1, n2, n3⟩ := h.was.pr.ne
  have ag := h.was.ap _ (.inr ⟨q, rfl, .inl rfl⟩)
  have ah := h.was.ap _ (.inr ⟨q, rfl, .inr rfl⟩)
  have aP := h.was.ap P (.inl rfl)
  have ltG := h.was.two.m.lt
  have lth := h.was.pr.lt _ (.inr ⟨q, rfl, .inr rfl⟩)
  have ltg := h.was.pr.lt _ (.inr ⟨q, rfl, .inl rfl⟩)
  have ltP := h.was.pr.lt P (.inl rfl)
  have hs := h.fr.size
  have ltF := disks.lt _ _ _ _ h.d
  have f1g : ∀ k, F1 k → ¬ (G k ∨ k = q.h) := fun k hk x => by
    rcases h.own k hk with y | y
    · exact x.elim (h.was.two.ap k y) fun e => ah.1 (e ▸ y)
    · rcases x with x | x
      · have := ltG k x; omega
      · omega
  refine ⟨⟨⟨At_frame disks h.d fr f1g, m2, fun k hk x => ?_⟩, ⟨h.blk.frame fr fun x => x.elim aP.2 n2, fun q' e => ?_, fun q' e => ?_⟩, fun k hk => ?_⟩, h.own, fun k hk => (own k hk).imp id fun x => Nat.le_trans hs x, ?_⟩
  · rcases own k x with y | y
    · exact f1g k hk (.inl y)
    · have := ltF k hk; omega
  · cases e
    exact h.mp.frame fr fun x => x.elim ag.2 n3
  · cases e
    exact r2
  · have key : k = P ∨ k = q.g ∨ k = q.h := by
      rcases hk with e | ⟨q', e, e2⟩
      · exact .inl e
      · cases e; exact .inr e2
    refine ⟨fun x => ?_, fun x => ?_⟩
    · rcases key with e | e | e
      · subst e; exact (h.own _ x).elim aP.1 fun y => by omega
      · exact h.g1 (e ▸ x)
      · exact f1g k x (.inr e)
    · rcases key with e | e | e
      · subst e; exact (own _ x).elim aP.2 fun y => by omega
      · subst e; exact (own _ x).elim ag.2 fun y => by omega
      · exact g2 (e ▸ x)
  · refine (h.fr.mono fun k hk => ?_).trans (fr.mono fun k hk => ?_) fun _ hk => .inl hk
    · exact hk.elim (fun x => .inl (.inl x)) fun e => .inr (.inr ⟨q, rfl, .inl e⟩)
    · exact hk.elim (fun x => .inl (.inr x)) fun e => .inr (.inr ⟨q, rfl, .inr e⟩)
end
theorem prB_set (P : Nat) (q : PrM) (n k : Nat) (h : PrB P (some { q with s := n }) k) : PrB P (some q) k := by
  rcases h with e | ⟨q', e, e2⟩
  · exact .inl e
  · cases e; exact .inr ⟨q, rfl, e2⟩
set_option maxRecDepth 100000 in
set_option maxHeartbeats 1000000 in
theorem opens_any (w : World) (b c P : Nat) (F G : Nat → Prop) (S : DS) (o : Option PrM) (i : Int) (ht : TabAt w) (h : PrTwo w b c P F G S o) :
    Calls Tryz.prog 10 #[.pointer (some ⟨P, 0, none⟩), .pointer (some ⟨b, 0, none⟩), .pointer (some ⟨c, 0, none⟩), .int .i64 i] w (PrPost b c P F G S o w) := by
  have z := mpOpen_any disks w b F S i ht h.two.d
  have zr := fun w1 h => mOpen_any w1 c G S i h
  unfold OpPost at z
  unfold RoPost at zr
  have HH := Lib.hid h
  have hP := h.pr.blk.lt
  by_cases hE : Dy.openE S i = 0
  · have z := z.mono fun e w' h => h.1 hE
    have zr := fun w1 h => (zr w1 h).mono fun e w' h => h.1 hE
    obtain ⟨n, hn⟩ : ∃ n, n = Dy.openN S i := ⟨_, rfl⟩
    rw [← hn] at z zr
    obtain ⟨p0, p1, hL⟩ : ∃ p0 p1, prL o = [p0, p1] := by cases o <;> exact ⟨_, _, rfl⟩
    obtain ⟨g, hg⟩ : ∃ g, g = w.heap.size := ⟨_, rfl⟩
    rw [← hg] at z
    have HG := Lib.hid hg
    have key : Calls Tryz.prog 10 #[.pointer (some ⟨P, 0, none⟩), .pointer (some ⟨b, 0, none⟩), .pointer (some ⟨c, 0, none⟩), .int .i64 i] w fun e w' => e = .returned (.bool true) ∧ ∃ h, PrTwo w' b c P F G S (some ⟨g, h, i, n⟩) ∧ w.heap.size ≤ h ∧ Frame (fun k => (F k ∨ G k) ∨ PrB P o k) w w' := by
      clear h ht hn hE hg
      go_enter Tryz.func10, Tryz.ntmps10
      go_wp2_with (first
        | (go_at_call 20; refine z.mono ?_; (rintro e w1 ⟨rfl, m1, B1⟩; rw [HG.out] at B1; have h1 := HH.out.step B1; have m1 := Lib.hid m1; have c1 := h1.two.m; have h1 := Lib.hid h1))
        | (go_at_call 26; refine (zr w1 c1).mono ?_; (rintro e w2 ⟨h, rfl, r2, hh, B2⟩; have h2 := h1.out.step B2; have m2 := m1.out.step B2; have b2 := h2.pr.blk; rw [hL] at b2; have y0 := b2.cell (k := 0) rfl; have y1 := b2.cell (k := 1) rfl; have f0 := b2.frozen 0; have f1 := b2.frozen 1; have b2 := Lib.hid b2; have h2 := Lib.hid h2; have m2 := Lib.hid m2; have r2 := Lib.hid r2)))
      go_ret
      have C2 : Below w.heap.size w w2 := step_trans B1 B2
      have hh1 := B1.size
      have hgw := HG.out
      have ltF := HH.out.two.lt disks
      have fP : Frame (fun k => k = P) w2 ((w2.setCell ⟨P, 0, none⟩ (.pointer (some ⟨g, 0, none⟩))).setCell ⟨P, 1, none⟩ (.pointer (some ⟨h, 0, none⟩))) := ((Frame.refl (fun k => k = P) w2).setAt ⟨P, 0, none⟩ (.pointer (some ⟨g, 0, none⟩)) rfl).setAt ⟨P, 1, none⟩ (.pointer (some ⟨h, 0, none⟩)) rfl
      have aP := HH.out.ap P (.inl rfl)
      refine ⟨rfl, h, ⟨⟨dyBeside disks h2.out.two.d fP aP.1, mirBeside h2.out.two.m fP aP.2, h2.out.two.ap⟩, ⟨(b2.out.set_ 0 _).set_ 1 _, fun q e => ?_, fun q e => ?_⟩, fun k hk => ?_⟩, by omega, ?_⟩
      · cases e
        exact m2.out.frame fP fun x => by have x : g = P := x; omega
      · cases e
        exact r2.out.frame fP fun x => by have x : h = P := x; omega
      · rcases hk with e | ⟨q, e, e2⟩
        · exact e ▸ aP
        · cases e
          simp at e2
          exact ⟨fun x => by have := ltF.1 k x; omega, fun x => by have := ltF.2 k x; omega⟩
      · exact (Frame.of_below (F := fun k => (F k ∨ G k) ∨ PrB P o k) C2).trans (fP.mono fun k hk => .inr (.inl hk)) fun _ hk => .inl hk
    exact key.mono fun e w' ⟨e1, h', t, hh, fr⟩ => ⟨S, F, G, _, e1, t, Nat.le_add_right _ _, fun k hk => .inl hk, fun k hk => .inl hk, fun k hk => by
      rcases hk with e | ⟨q', e, e2⟩
      · exact .inl (.inl e)
      · cases e
        have := HG.out
        rcases e2 with e2 | e2
        · simp at e2; omega
        · simp at e2; omega, fr⟩
  · have z := z.mono fun e w' h => h.2 hE
    have zr := fun w1 h => (zr w1 h).mono fun e w' h => h.2 hE
    obtain ⟨E, hEE⟩ : ∃ E, E = Dy.openE S i := ⟨_, rfl⟩
    rw [← hEE] at z zr hE
    have hne : (E != 0) = true := by simpa using hE
    have key : Calls Tryz.prog 10 #[.pointer (some ⟨P, 0, none⟩), .pointer (some ⟨b, 0, none⟩), .pointer (some ⟨c, 0, none⟩), .int .i64 i] w fun e w' => e = .returned (.bool true) ∧ Below w.heap.size w w' := by
      clear h ht hE hEE
      go_enter Tryz.func10, Tryz.ntmps10
      go_wp2_with (first
        | (go_at_call 20; refine z.mono ?_; (rintro e w1 ⟨rfl, B1⟩; have c1 := (HH.out.step B1).two.m))
        | (go_at_call 26; refine (zr w1 c1).mono ?_; (rintro e w2 ⟨rfl, B2⟩)))
      go_ret
      exact ⟨rfl, step_trans B1 B2⟩
    exact key.mono fun e w' ⟨e1, B⟩ => ⟨S, F, G, o, e1, HH.out.step B, Nat.le_add_right _ _, fun k hk => .inl hk, fun k hk => .inl hk, fun k hk => .inl hk, Frame.of_below B⟩
end Go.Proofs.YtcahpodmcklnbaaGreatDoor
