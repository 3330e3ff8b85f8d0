/-
  tandemlaw10.pair.act: a call of the program's map, and of the document's. Conditions: the table of crc lies as the program's text lays it; at most so many changes.
-/
import Derived.Test.YtcahpodmcklnbaaGreatDoorDyPair
namespace Go.Proofs.YtcahpodmcklnbaaGreatDoor
open Go.RowKit Fix

/-- an act, boxed -/
theorem daBox (w : World) (m : DaM) : Hid (BlkR 38 (w.alloc (.cells (daCells m).toArray 38)) w.heap.size (daCells m) ∧ Below w.heap.size w (w.alloc (.cells (daCells m).toArray 38))) :=
  Lib.hid ⟨BlkR.new w (daCells m) _, (Below.refl _ _).alloc (Nat.le_refl _) _⟩
theorem PrPost.back {w W w' : World} {b c P : Nat} {F G : Nat → Prop} {S : DS} {o : Option PrM} {e : Ending} (B : Below w.heap.size w W) (h : PrPost b c P F G S o W e w') : PrPost b c P F G S o w e w' := by
  obtain ⟨T, F', G', o', e1, t, ho, o1, o2, o3, fr⟩ := h
  exact ⟨T, F', G', o', e1, t, ho, fun k hk => (o1 k hk).imp id (Nat.le_trans B.size), fun k hk => (o2 k hk).imp id (Nat.le_trans B.size), fun k hk => (o3 k hk).imp id (Nat.le_trans B.size), (Frame.of_below (F := fun k => (F k ∨ G k) ∨ PrB P o k) B).trans fr fun _ hk => .inl hk⟩
set_option maxRecDepth 100000 in
set_option maxHeartbeats 1000000 in
theorem actMark_any (w : World) (b c P : Nat) (F G : Nat → Prop) (S : DS) (q : PrM) (m : DaM) (hk : m.h.kind = 7) (ht : TabAt w) (h : PrTwo w b c P F G S (some q)) (ho : S.ops ≤ 900000) :
    Calls Tryz.prog 9 #[.pointer (some ⟨P, 0, none⟩), .agg (daCells m).toArray] w (PrPost b c P F G S (some q) w) := by
  have bx := daBox w m
  obtain ⟨W, hW⟩ : ∃ W, W = w.alloc (.cells (daCells m).toArray 38) := ⟨_, rfl⟩
  rw [← hW] at bx
  have B1 : Below w.heap.size w W.drew := bx.out.2.drew
  have h1 := h.step B1
  have x1 : BlkR 38 W.drew w.heap.size (daCells m) := bx.out.1.step (Below.refl _ _).drew
  have t1 := ht.below B1 (Nat.le_refl _)
  have p1 := h1.pr.blk
  have ltF := h.two.lt disks
  have ltP := h.pr.lt
  obtain ⟨n1, n2, n3⟩ := h.pr.ne
  have aP := h.ap P (.inl rfl)
  have lg := ltP q.g (.inr ⟨q, rfl, .inl rfl⟩)
  have lh := ltP q.h (.inr ⟨q, rfl, .inr rfl⟩)
  obtain ⟨X, hX⟩ : ∃ X, X = w.heap.size := ⟨_, rfl⟩
  have HX := Lib.hid hX
  have KX : Hid (∀ u, Frame (fun k => F k ∨ k = q.g) W.drew u → u.cell? ⟨P, 0, none⟩ = some (.pointer (some ⟨q.g, 0, none⟩)) ∧ u.cell? ⟨P, 1, none⟩ = some (.pointer (some ⟨q.h, 0, none⟩)) ∧ u.cell? ⟨w.heap.size, 1, none⟩ = some (.int .i64 m.h.n)) := Lib.hid fun u fr => by
    have p2 := p1.frame fr fun x => x.elim aP.1 n1
    have x2 := x1.frame fr fun x => x.elim (fun y => by have := ltF.1 _ y; omega) fun e => by omega
    exact ⟨p2.cell rfl, p2.cell rfl, x2.cell rfl⟩
  have KY : Hid (∀ u v, Frame (fun k => F k ∨ k = q.g) W.drew u → Frame (fun k => G k ∨ k = q.h) u v → v.cell? ⟨P, 0, none⟩ = some (.pointer (some ⟨q.g, 0, none⟩)) ∧ v.cell? ⟨P, 1, none⟩ = some (.pointer (some ⟨q.h, 0, none⟩)) ∧ v.cell? ⟨w.heap.size, 1, none⟩ = some (.int .i64 m.h.n)) := Lib.hid fun u v fr fr2 => by
    have p2 := (p1.frame fr fun x => x.elim aP.1 n1).frame fr2 fun x => x.elim aP.2 n2
    have x2 := (x1.frame fr fun x => x.elim (fun y => by have := ltF.1 _ y; omega) fun e => by omega).frame fr2 fun x => x.elim (fun y => by have := ltF.2 _ y; omega) fun e => by omega
    exact ⟨p2.cell rfl, p2.cell rfl, x2.cell rfl⟩
  have z := mpMark_any disks W.drew b F S q.g q.p q.s 0 m.h.n t1 h1.two.d (h1.pr.m q rfl) (h1.ap _ (.inr ⟨q, rfl, .inl rfl⟩)).1 (by omega)
  have zr := fun u hm hr => mMark_any u c G S q.h q.p q.s 0 m.h.n hm hr (h1.ap _ (.inr ⟨q, rfl, .inr rfl⟩)).2 (by omega)
  unfold MpPost at z
  unfold RfPost at zr
  have hT := Dy.ops_step S q.p 0 m.h.n 0 q.s
  obtain ⟨T, hTe⟩ : ∃ T, T = Dy.step S q.p 0 m.h.n 0 q.s := ⟨_, rfl⟩
  obtain ⟨n, hn⟩ : ∃ n, n = Dy.stepS S q.p 0 m.h.n 0 q.s := ⟨_, rfl⟩
  rw [← hTe, ← hn] at z zr
  rw [← hTe] at hT
  have J0 := KX.out W.drew (Frame.refl _ _)
  have JW : W.cell? ⟨P, 0, none⟩ = some (.pointer (some ⟨q.g, 0, none⟩)) ∧ W.cell? ⟨P, 1, none⟩ = some (.pointer (some ⟨q.h, 0, none⟩)) ∧ W.cell? ⟨w.heap.size, 1, none⟩ = some (.int .i64 m.h.n) := J0
  have y1 : w.cell? ⟨P, 1, none⟩ = some (.pointer (some ⟨q.h, 0, none⟩)) := h.pr.blk.cell rfl
  have yW1 := JW.2.1
  have HH := Lib.hid (And.intro h1 (And.intro hT bx.out.2))
  unfold daCells at hW
  rw [hk] at hW
  rw [hW] at yW1
  have key : Calls Tryz.prog 9 #[.pointer (some ⟨P, 0, none⟩), .agg (daCells m).toArray] w fun e w' => ∃ F1 G2, e = .returned (.bool true) ∧ PrTwo w' b c P F1 G2 T.1 (some { q with s := n }) ∧ (∀ k, F1 k → F k ∨ W.heap.size ≤ k) ∧ (∀ k, G2 k → G k ∨ W.heap.size ≤ k) ∧ Frame (fun k => (F k ∨ G k) ∨ PrB P (some q) k) W.drew w' := by
    unfold daCells
    clear h h1 x1 t1 p1 ltF ltP n1 n2 n3 aP lg lh hT hTe hn ht bx B1 hX y1
    go_enter Tryz.func9, Tryz.ntmps9
    go_wp2
    rw [← hW]
    clear yW1 hW
    go_region_held3 (fun w' => w'.cell? ⟨P, 0, none⟩ = some (.pointer (some ⟨q.g, 0, none⟩)) ∧ w'.cell? ⟨P, 1, none⟩ = some (.pointer (some ⟨q.h, 0, none⟩)) ∧ w'.cell? ⟨w.heap.size, 1, none⟩ = some (.int .i64 m.h.n)) (first | assumption | exact J0 | exact JW) (first
      | (go_at_call 19; refine z.mono ?_; (rintro e w1 ⟨F1, rfl, d1, m1, g1, o1, f1⟩; have M1 := HH.out.1.mid d1 m1 g1 o1 f1; have J1 := KX.out w1 f1; have r1 := M1.rf; have c1 := M1.mir; have M1 := Lib.hid M1; have f1 := Lib.hid f1; clear d1 m1 g1 o1))
      | (go_at_call 21; refine (zr w1 c1 r1).mono ?_; (rintro e w2 ⟨G2, rfl, m2, r2, g2, o2, f2⟩; have J2 := KY.out w1 w2 f1.out f2; have X2 := Lib.hid (M1.out.fin m2 r2 g2 o2 f2); clear m2 r2 g2 o2 f2)))
    go_wp2
    go_ret
    exact ⟨F1, G2, rfl, X2.out.1, X2.out.2.1, X2.out.2.2.1, X2.out.2.2.2⟩
  exact key.mono fun e w' ⟨F1, G2, e1, t, o1, o2, fr⟩ => PrPost.back HH.out.2.2 ⟨T.1, F1, G2, _, e1, t, HH.out.2.1, o1, o2, fun k hk => .inl (prB_set P q n k hk), (Frame.of_below (F := fun k => (F k ∨ G k) ∨ PrB P (some q) k) (Below.refl W.heap.size W).drew).trans fr fun _ hk => .inl hk⟩
set_option maxRecDepth 100000 in
set_option maxHeartbeats 1000000 in
theorem actMerge_any (w : World) (b c P : Nat) (F G : Nat → Prop) (S : DS) (q : PrM) (m : DaM) (hk : m.h.kind = 8) (hv : m.v < 2 ^ 64) (ht : TabAt w) (h : PrTwo w b c P F G S (some q)) (ho : S.ops ≤ 900000) :
    Calls Tryz.prog 9 #[.pointer (some ⟨P, 0, none⟩), .agg (daCells m).toArray] w (PrPost b c P F G S (some q) w) := by
  have bx := daBox w m
  obtain ⟨W, hW⟩ : ∃ W, W = w.alloc (.cells (daCells m).toArray 38) := ⟨_, rfl⟩
  rw [← hW] at bx
  have B1 : Below w.heap.size w W.drew := bx.out.2.drew
  have h1 := h.step B1
  have x1 : BlkR 38 W.drew w.heap.size (daCells m) := bx.out.1.step (Below.refl _ _).drew
  have t1 := ht.below B1 (Nat.le_refl _)
  have p1 := h1.pr.blk
  have ltF := h.two.lt disks
  have ltP := h.pr.lt
  obtain ⟨n1, n2, n3⟩ := h.pr.ne
  have aP := h.ap P (.inl rfl)
  have lg := ltP q.g (.inr ⟨q, rfl, .inl rfl⟩)
  have lh := ltP q.h (.inr ⟨q, rfl, .inr rfl⟩)
  obtain ⟨X, hX⟩ : ∃ X, X = w.heap.size := ⟨_, rfl⟩
  have HX := Lib.hid hX
  have KX : Hid (∀ u, Frame (fun k => F k ∨ k = q.g) W.drew u → u.cell? ⟨P, 0, none⟩ = some (.pointer (some ⟨q.g, 0, none⟩)) ∧ u.cell? ⟨P, 1, none⟩ = some (.pointer (some ⟨q.h, 0, none⟩)) ∧ u.cell? ⟨w.heap.size, 6, none⟩ = some (.int .u64 (m.v : Int))) := Lib.hid fun u fr => by
    have p2 := p1.frame fr fun x => x.elim aP.1 n1
    have x2 := x1.frame fr fun x => x.elim (fun y => by have := ltF.1 _ y; omega) fun e => by omega
    exact ⟨p2.cell rfl, p2.cell rfl, x2.cell rfl⟩
  have KY : Hid (∀ u v, Frame (fun k => F k ∨ k = q.g) W.drew u → Frame (fun k => G k ∨ k = q.h) u v → v.cell? ⟨P, 0, none⟩ = some (.pointer (some ⟨q.g, 0, none⟩)) ∧ v.cell? ⟨P, 1, none⟩ = some (.pointer (some ⟨q.h, 0, none⟩)) ∧ v.cell? ⟨w.heap.size, 6, none⟩ = some (.int .u64 (m.v : Int))) := Lib.hid fun u v fr fr2 => by
    have p2 := (p1.frame fr fun x => x.elim aP.1 n1).frame fr2 fun x => x.elim aP.2 n2
    have x2 := (x1.frame fr fun x => x.elim (fun y => by have := ltF.1 _ y; omega) fun e => by omega).frame fr2 fun x => x.elim (fun y => by have := ltF.2 _ y; omega) fun e => by omega
    exact ⟨p2.cell rfl, p2.cell rfl, x2.cell rfl⟩
  have z := mpMerge_any disks W.drew b F S q.g q.p q.s m.v 0 t1 h1.two.d (h1.pr.m q rfl) (h1.ap _ (.inr ⟨q, rfl, .inl rfl⟩)).1 hv (by omega)
  have zr := fun u hm hr => mMerge_any u c G S q.h q.p q.s m.v 0 hm hr (h1.ap _ (.inr ⟨q, rfl, .inr rfl⟩)).2 hv (by omega)
  unfold MpPost at z
  unfold RfPost at zr
  have hT := Dy.ops_step S q.p 1 0 m.v q.s
  obtain ⟨T, hTe⟩ : ∃ T, T = Dy.step S q.p 1 0 m.v q.s := ⟨_, rfl⟩
  obtain ⟨n, hn⟩ : ∃ n, n = Dy.stepS S q.p 1 0 m.v q.s := ⟨_, rfl⟩
  rw [← hTe, ← hn] at z zr
  rw [← hTe] at hT
  have J0 := KX.out W.drew (Frame.refl _ _)
  have JW : W.cell? ⟨P, 0, none⟩ = some (.pointer (some ⟨q.g, 0, none⟩)) ∧ W.cell? ⟨P, 1, none⟩ = some (.pointer (some ⟨q.h, 0, none⟩)) ∧ W.cell? ⟨w.heap.size, 6, none⟩ = some (.int .u64 (m.v : Int)) := J0
  have y1 : w.cell? ⟨P, 1, none⟩ = some (.pointer (some ⟨q.h, 0, none⟩)) := h.pr.blk.cell rfl
  have yW1 := JW.2.1
  have HH := Lib.hid (And.intro h1 (And.intro hT bx.out.2))
  unfold daCells at hW
  rw [hk] at hW
  rw [hW] at yW1
  have key : Calls Tryz.prog 9 #[.pointer (some ⟨P, 0, none⟩), .agg (daCells m).toArray] w fun e w' => ∃ F1 G2, e = .returned (.bool true) ∧ PrTwo w' b c P F1 G2 T.1 (some { q with s := n }) ∧ (∀ k, F1 k → F k ∨ W.heap.size ≤ k) ∧ (∀ k, G2 k → G k ∨ W.heap.size ≤ k) ∧ Frame (fun k => (F k ∨ G k) ∨ PrB P (some q) k) W.drew w' := by
    unfold daCells
    clear h h1 x1 t1 p1 ltF ltP n1 n2 n3 aP lg lh hT hTe hn ht bx B1 hX y1
    go_enter Tryz.func9, Tryz.ntmps9
    go_wp2
    rw [← hW]
    clear yW1 hW
    go_region_held3 (fun w' => w'.cell? ⟨P, 0, none⟩ = some (.pointer (some ⟨q.g, 0, none⟩)) ∧ w'.cell? ⟨P, 1, none⟩ = some (.pointer (some ⟨q.h, 0, none⟩)) ∧ w'.cell? ⟨w.heap.size, 6, none⟩ = some (.int .u64 (m.v : Int))) (first | assumption | exact J0 | exact JW) (first
      | (go_at_call 22; refine z.mono ?_; (rintro e w1 ⟨F1, rfl, d1, m1, g1, o1, f1⟩; have M1 := HH.out.1.mid d1 m1 g1 o1 f1; have J1 := KX.out w1 f1; have r1 := M1.rf; have c1 := M1.mir; have M1 := Lib.hid M1; have f1 := Lib.hid f1; clear d1 m1 g1 o1))
      | (go_at_call 23; refine (zr w1 c1 r1).mono ?_; (rintro e w2 ⟨G2, rfl, m2, r2, g2, o2, f2⟩; have J2 := KY.out w1 w2 f1.out f2; have X2 := Lib.hid (M1.out.fin m2 r2 g2 o2 f2); clear m2 r2 g2 o2 f2)))
    go_wp2
    go_ret
    exact ⟨F1, G2, rfl, X2.out.1, X2.out.2.1, X2.out.2.2.1, X2.out.2.2.2⟩
  exact key.mono fun e w' ⟨F1, G2, e1, t, o1, o2, fr⟩ => PrPost.back HH.out.2.2 ⟨T.1, F1, G2, _, e1, t, HH.out.2.1, o1, o2, fun k hk => .inl (prB_set P q n k hk), (Frame.of_below (F := fun k => (F k ∨ G k) ∨ PrB P (some q) k) (Below.refl W.heap.size W).drew).trans fr fun _ hk => .inl hk⟩
set_option maxRecDepth 100000 in
set_option maxHeartbeats 1000000 in
theorem actClear_any (w : World) (b c P : Nat) (F G : Nat → Prop) (S : DS) (q : PrM) (m : DaM) (hk : m.h.kind = 9) (hv : m.v < 2 ^ 64) (ht : TabAt w) (h : PrTwo w b c P F G S (some q)) (ho : S.ops ≤ 900000) :
    Calls Tryz.prog 9 #[.pointer (some ⟨P, 0, none⟩), .agg (daCells m).toArray] w (PrPost b c P F G S (some q) w) := by
  have bx := daBox w m
  obtain ⟨W, hW⟩ : ∃ W, W = w.alloc (.cells (daCells m).toArray 38) := ⟨_, rfl⟩
  rw [← hW] at bx
  have B1 : Below w.heap.size w W.drew := bx.out.2.drew
  have h1 := h.step B1
  have x1 : BlkR 38 W.drew w.heap.size (daCells m) := bx.out.1.step (Below.refl _ _).drew
  have t1 := ht.below B1 (Nat.le_refl _)
  have p1 := h1.pr.blk
  have ltF := h.two.lt disks
  have ltP := h.pr.lt
  obtain ⟨n1, n2, n3⟩ := h.pr.ne
  have aP := h.ap P (.inl rfl)
  have lg := ltP q.g (.inr ⟨q, rfl, .inl rfl⟩)
  have lh := ltP q.h (.inr ⟨q, rfl, .inr rfl⟩)
  obtain ⟨X, hX⟩ : ∃ X, X = w.heap.size := ⟨_, rfl⟩
  have HX := Lib.hid hX
  have KX : Hid (∀ u, Frame (fun k => F k ∨ k = q.g) W.drew u → u.cell? ⟨P, 0, none⟩ = some (.pointer (some ⟨q.g, 0, none⟩)) ∧ u.cell? ⟨P, 1, none⟩ = some (.pointer (some ⟨q.h, 0, none⟩)) ∧ u.cell? ⟨w.heap.size, 6, none⟩ = some (.int .u64 (m.v : Int))) := Lib.hid fun u fr => by
    have p2 := p1.frame fr fun x => x.elim aP.1 n1
    have x2 := x1.frame fr fun x => x.elim (fun y => by have := ltF.1 _ y; omega) fun e => by omega
    exact ⟨p2.cell rfl, p2.cell rfl, x2.cell rfl⟩
  have KY : Hid (∀ u v, Frame (fun k => F k ∨ k = q.g) W.drew u → Frame (fun k => G k ∨ k = q.h) u v → v.cell? ⟨P, 0, none⟩ = some (.pointer (some ⟨q.g, 0, none⟩)) ∧ v.cell? ⟨P, 1, none⟩ = some (.pointer (some ⟨q.h, 0, none⟩)) ∧ v.cell? ⟨w.heap.size, 6, none⟩ = some (.int .u64 (m.v : Int))) := Lib.hid fun u v fr fr2 => by
    have p2 := (p1.frame fr fun x => x.elim aP.1 n1).frame fr2 fun x => x.elim aP.2 n2
    have x2 := (x1.frame fr fun x => x.elim (fun y => by have := ltF.1 _ y; omega) fun e => by omega).frame fr2 fun x => x.elim (fun y => by have := ltF.2 _ y; omega) fun e => by omega
    exact ⟨p2.cell rfl, p2.cell rfl, x2.cell rfl⟩
  have z := mpClear_any disks W.drew b F S q.g q.p q.s m.v 0 t1 h1.two.d (h1.pr.m q rfl) (h1.ap _ (.inr ⟨q, rfl, .inl rfl⟩)).1 hv (by omega)
  have zr := fun u hm hr => mClear_any u c G S q.h q.p q.s m.v 0 hm hr (h1.ap _ (.inr ⟨q, rfl, .inr rfl⟩)).2 hv (by omega)
  unfold MpPost at z
  unfold RfPost at zr
  have hT := Dy.ops_step S q.p 2 0 m.v q.s
  obtain ⟨T, hTe⟩ : ∃ T, T = Dy.step S q.p 2 0 m.v q.s := ⟨_, rfl⟩
  obtain ⟨n, hn⟩ : ∃ n, n = Dy.stepS S q.p 2 0 m.v q.s := ⟨_, rfl⟩
  rw [← hTe, ← hn] at z zr
  rw [← hTe] at hT
  have J0 := KX.out W.drew (Frame.refl _ _)
  have JW : W.cell? ⟨P, 0, none⟩ = some (.pointer (some ⟨q.g, 0, none⟩)) ∧ W.cell? ⟨P, 1, none⟩ = some (.pointer (some ⟨q.h, 0, none⟩)) ∧ W.cell? ⟨w.heap.size, 6, none⟩ = some (.int .u64 (m.v : Int)) := J0
  have y1 : w.cell? ⟨P, 1, none⟩ = some (.pointer (some ⟨q.h, 0, none⟩)) := h.pr.blk.cell rfl
  have yW1 := JW.2.1
  have HH := Lib.hid (And.intro h1 (And.intro hT bx.out.2))
  unfold daCells at hW
  rw [hk] at hW
  rw [hW] at yW1
  have key : Calls Tryz.prog 9 #[.pointer (some ⟨P, 0, none⟩), .agg (daCells m).toArray] w fun e w' => ∃ F1 G2, e = .returned (.bool true) ∧ PrTwo w' b c P F1 G2 T.1 (some { q with s := n }) ∧ (∀ k, F1 k → F k ∨ W.heap.size ≤ k) ∧ (∀ k, G2 k → G k ∨ W.heap.size ≤ k) ∧ Frame (fun k => (F k ∨ G k) ∨ PrB P (some q) k) W.drew w' := by
    unfold daCells
    clear h h1 x1 t1 p1 ltF ltP n1 n2 n3 aP lg lh hT hTe hn ht bx B1 hX y1
    go_enter Tryz.func9, Tryz.ntmps9
    go_wp2
    rw [← hW]
    clear yW1 hW
    go_region_held3 (fun w' => w'.cell? ⟨P, 0, none⟩ = some (.pointer (some ⟨q.g, 0, none⟩)) ∧ w'.cell? ⟨P, 1, none⟩ = some (.pointer (some ⟨q.h, 0, none⟩)) ∧ w'.cell? ⟨w.heap.size, 6, none⟩ = some (.int .u64 (m.v : Int))) (first | assumption | exact J0 | exact JW) (first
      | (go_at_call 24; refine z.mono ?_; (rintro e w1 ⟨F1, rfl, d1, m1, g1, o1, f1⟩; have M1 := HH.out.1.mid d1 m1 g1 o1 f1; have J1 := KX.out w1 f1; have r1 := M1.rf; have c1 := M1.mir; have M1 := Lib.hid M1; have f1 := Lib.hid f1; clear d1 m1 g1 o1))
      | (go_at_call 25; refine (zr w1 c1 r1).mono ?_; (rintro e w2 ⟨G2, rfl, m2, r2, g2, o2, f2⟩; have J2 := KY.out w1 w2 f1.out f2; have X2 := Lib.hid (M1.out.fin m2 r2 g2 o2 f2); clear m2 r2 g2 o2 f2)))
    go_wp2
    go_ret
    exact ⟨F1, G2, rfl, X2.out.1, X2.out.2.1, X2.out.2.2.1, X2.out.2.2.2⟩
  exact key.mono fun e w' ⟨F1, G2, e1, t, o1, o2, fr⟩ => PrPost.back HH.out.2.2 ⟨T.1, F1, G2, _, e1, t, HH.out.2.1, o1, o2, fun k hk => .inl (prB_set P q n k hk), (Frame.of_below (F := fun k => (F k ∨ G k) ∨ PrB P (some q) k) (Below.refl W.heap.size W).drew).trans fr fun _ hk => .inl hk⟩
set_option maxRecDepth 100000 in
theorem actNo_any (w : World) (b c P : Nat) (F G : Nat → Prop) (S : DS) (m : DaM) (h : PrTwo w b c P F G S none) :
    Calls Tryz.prog 9 #[.pointer (some ⟨P, 0, none⟩), .agg (daCells m).toArray] w (PrPost b c P F G S none w) := by
  have bx := daBox w m
  have h1 := h.step bx.out.2
  obtain ⟨W, hW⟩ : ∃ W, W = w.alloc (.cells (daCells m).toArray 38) := ⟨_, rfl⟩
  rw [← hW] at bx h1
  have y1 : W.cell? ⟨P, 1, none⟩ = some (.pointer none) := h1.pr.blk.cell rfl
  have HH := Lib.hid (And.intro h1 bx.out.2)
  unfold daCells at hW
  rw [hW] at y1
  have key : Calls Tryz.prog 9 #[.pointer (some ⟨P, 0, none⟩), .agg (daCells m).toArray] w fun e w' => e = .returned (.bool true) ∧ w' = W := by
    unfold daCells
    clear h h1 bx
    go_enter Tryz.func9, Tryz.ntmps9
    go_wp2
    go_ret
    exact ⟨rfl, hW.symm⟩
  refine key.mono fun e w' ⟨e1, e2⟩ => ?_
  subst e2
  exact ⟨S, F, G, none, e1, HH.out.1, Nat.le_add_right _ _, fun k hk => .inl hk, fun k hk => .inl hk, fun k hk => .inl hk, Frame.of_below HH.out.2⟩
theorem act_any (w : World) (b c P : Nat) (F G : Nat → Prop) (S : DS) (o : Option PrM) (m : DaM) (hk : m.h.kind = 7 ∨ m.h.kind = 8 ∨ m.h.kind = 9) (hv : m.v < 2 ^ 64) (ht : TabAt w) (h : PrTwo w b c P F G S o) (ho : S.ops ≤ 900000) :
    Calls Tryz.prog 9 #[.pointer (some ⟨P, 0, none⟩), .agg (daCells m).toArray] w (PrPost b c P F G S o w) := by
  cases o with
  | none => exact actNo_any w b c P F G S m h
  | some q =>
    rcases hk with e | e | e
    · exact actMark_any w b c P F G S q m e ht h ho
    · exact actMerge_any w b c P F G S q m e hv ht h ho
    · exact actClear_any w b c P F G S q m e hv ht h ho
end Go.Proofs.YtcahpodmcklnbaaGreatDoor
