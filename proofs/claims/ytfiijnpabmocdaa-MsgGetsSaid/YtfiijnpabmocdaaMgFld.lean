/-
  What each field's method does, whatever carries the message's parts. Conditions: none.
-/
import Derived.Test.YtfiijnpabmocdaaMgCar
import Derived.Deep.RegionHeld3
namespace Go.Proofs.Ytfiijnpabmocdaa
open Go.RowKit Mg

theorem mCells_at {m : M} {d : Value} {w : World} {g : Nat} (h : BlkR 27 w g (mCells m d)) :
    (w.cell? ⟨g, 2, none⟩ = some (.int .i64 m.term) ∧ w.cell? ⟨g, 3, none⟩ = some (.int .i64 m.seq) ∧ w.cell? ⟨g, 4, none⟩ = some (.int .i64 m.stamp) ∧ w.cell? ⟨g, 5, none⟩ = some (.int .i64 m.block) ∧ w.cell? ⟨g, 6, none⟩ = some (.bool m.ok)) ∧
    (w.cell? ⟨g, 7, none⟩ = some (.int .i64 m.rt) ∧ w.cell? ⟨g, 8, none⟩ = some (.int .i64 m.rn) ∧ w.cell? ⟨g, 9, none⟩ = some (.int .i64 m.rs) ∧ w.cell? ⟨g, 10, none⟩ = some (.int .u64 (m.bits : Int)) ∧ w.cell? ⟨g, 11, none⟩ = some d) ∧
    w.cell? ⟨g, 0, none⟩ = some (.int .i64 m.kind) ∧ w.cell? ⟨g, 1, none⟩ = some (.int .i64 m.src) :=
  ⟨⟨h.cell rfl, h.cell rfl, h.cell rfl, h.cell rfl, h.cell rfl⟩, ⟨h.cell rfl, h.cell rfl, h.cell rfl, h.cell rfl, h.cell rfl⟩, h.cell rfl, h.cell rfl⟩
/-- the message as a variable of a method's own -/
def BoxAt {α : Type} (C : Carr α) (b : Nat) (w : World) : Prop := w.cell? ⟨b, 0, none⟩ = some (.pointer (some ⟨C.gm, 0, none⟩)) ∧ w.cell? ⟨b, 1, none⟩ = some (.iface C.T C.p)
theorem box_new {α : Type} (C : Carr α) (w : World) : BoxAt C w.heap.size (w.alloc (.cells #[.pointer (some ⟨C.gm, 0, none⟩), .iface C.T C.p] 51)) := by
  have h := heap_alloc_new w (.cells #[.pointer (some ⟨C.gm, 0, none⟩), .iface C.T C.p] 51)
  generalize w.alloc _ = w' at h ⊢
  exact ⟨by unfold World.cell?; rw [h]; rfl, by unfold World.cell?; rw [h]; rfl⟩
theorem BoxAt.frame {α : Type} {C : Carr α} {b : Nat} {w w' : World} {F : Nat → Prop} (h : BoxAt C b w) (hF : Frame F w w') (hb : b < w.heap.size) (hn : ¬ F b) : BoxAt C b w' :=
  ⟨(World.cell?_of_block (w := w) (hF.block b hb hn)).trans h.1, (World.cell?_of_block (w := w) (hF.block b hb hn)).trans h.2⟩
theorem BoxAt.far {α : Type} {C : Carr α} {b g k : Nat} {w : World} {v : Value} (h : BoxAt C b w) (hn : b ≠ g) : BoxAt C b (w.setCell ⟨g, k, none⟩ v) :=
  ⟨(World.cell?_of_block (w := w) (Below.heap_setCell w ⟨g, k, none⟩ v b hn)).trans h.1, (World.cell?_of_block (w := w) (Below.heap_setCell w ⟨g, k, none⟩ v b hn)).trans h.2⟩
theorem Frame.setG {F : Nat → Prop} {w : World} {g k : Nat} (v : Value) (hg : F g) : Frame F w (w.setCell ⟨g, k, none⟩ v) := (Frame.refl F w).setAt ⟨g, k, none⟩ v hg
section
variable {α : Type} {w : World} {F : Nat → Prop} {m : M} {a : α}
/-- behind a store into the message -/
theorem CarPost.store0 (C : Carr α) {Inv : World → (Nat → Prop) → α → Prop} {m' : M} {a' : α} {k : Nat} {v : Value} {w' : World} (hg : F C.gm) (hw : CarPost Inv w F a' w') (hS : ∀ {w F}, Inv w F a' → C.Inv (w.setCell ⟨C.gm, k, none⟩ v) F m' a') :
    CarPost (fun w F (s : M × α) => C.Inv w F s.1 s.2) w F (m', a') (w'.setCell ⟨C.gm, k, none⟩ v) := by
  obtain ⟨F', hI, hF, hR⟩ := hw
  exact ⟨F', hS hI, hF, hR.setAt ⟨C.gm, k, none⟩ v hg⟩
theorem run_pair (o : Ops α) (p : Pt) (r : List Pt) (s : M × α) : run o (p :: r) s = (Mg.step o p s).bind (run o r) := rfl
theorem CarPost.first {β : Type} {Inv : World → (Nat → Prop) → β → Prop} {b : β} {w1 w' : World} (hB : Below w.heap.size w w1) (h : CarPost Inv w1 F b w') : CarPost Inv w F b w' :=
  CarPost.trans (fun _ hk => .inl hk) (Frame.of_below hB) h

set_option maxRecDepth 100000 in
set_option maxHeartbeats 2000000 in
theorem fld_ok (C : Carr α) (h : C.Inv w F m a) (hs : C.small 3 a) : Calls Try.prog 41 #[C.val] w (FldPost C w F (run C.o [.num .ok] (m, a))) := by
  have B1 : Below w.heap.size w (w.alloc (.cells #[.pointer (some ⟨C.gm, 0, none⟩), .iface C.T C.p] 51)) := (Below.refl _ w).alloc (Nat.le_refl _) _
  have hb : BoxAt C w.heap.size (w.alloc (.cells #[.pointer (some ⟨C.gm, 0, none⟩), .iface C.T C.p] 51)) := box_new C w
  have hlt : w.heap.size < (w.alloc (.cells #[.pointer (some ⟨C.gm, 0, none⟩), .iface C.T C.p] 51)).heap.size := by simp
  have hs1 := C.less (C.less hs)
  have hin := C.own h
  have hmine := C.mine h
  have hP : CarPost (fun w F (s : M × α) => C.Inv w F s.1 s.2) (w.alloc (.cells #[.pointer (some ⟨C.gm, 0, none⟩), .iface C.T C.p] 51)) F (m, a) (w.alloc (.cells #[.pointer (some ⟨C.gm, 0, none⟩), .iface C.T C.p] 51)) := ⟨F, C.step h B1, fun k hk => .inl hk, Frame.refl _ _⟩
  have hm1 := C.mnum
  have hm2 := C.mlon
  have hm3 := C.mbyt
  have hfn1 := C.fnum
  have hfn2 := C.flon
  have hfn3 := C.fbyt
  obtain ⟨A0, n0, c0, hd0⟩ := C.cells (C.step h B1)
  have hok := (mCells_at hd0).1.2.2.2.2
  clear hd0
  obtain ⟨b, hbe⟩ : ∃ x, x = w.heap.size := ⟨_, rfl⟩
  obtain ⟨w1, hw1⟩ : ∃ x, x = w.alloc (.cells #[.pointer (some ⟨C.gm, 0, none⟩), .iface C.T C.p] 51) := ⟨_, rfl⟩
  rw [← hw1] at hb hlt hP B1
  rw [← hbe] at hb hlt
  have hnb : ¬ F b := fun hf => by have := hin _ hf; omega
  have hbg : b ≠ C.gm := fun e => hnb (e ▸ hmine)
  have HI := Lib.hid (And.intro (And.intro hin hmine) (And.intro hnb (And.intro hbg (And.intro hlt B1))))
  have HP1 := Lib.hid hP
  have HL1 := Lib.hid hlt
  have HB1 := Lib.hid hb
  clear B1 hin hmine hnb hbg hP hlt hb
  unfold Carr.val
  cases hmo : m.ok with
  | true =>
    rw [hmo] at hok
    have hg : Mg.get m .ok = 1 := by simp [Mg.get, hmo]
    replace hg := Lib.hid hg
    clear hmo
    go_enter Try.func41, Try.ntmps41
    go_wp2
    rw [← hw1, ← hbe]
    clear hw1 hbe hok
    replace hg := hg.out
    obtain ⟨F1, hI, hF, hR⟩ := HP1.out
    have hId := C.step hI ((Below.refl _ w1).drew)
    obtain ⟨A, n, c, hd⟩ := C.cells hId
    have hc := (mCells_at hd).1.2.2.2.2
    have HB : Hid (BoxAt C b w1.drew) := HB1
    have z := C.cnum hId hs1 1 1 1 (good_of .ok)
    have HZ := Lib.hid z
    have HX := Lib.hid (And.intro hF (And.intro hR (And.intro (C.own hId) (C.mine hId))))
    clear z hF hR hI hId hd
    refine wp_region_held_drew (S := BoxAt C b) (by kernel_rfl) HB.out (fun hHeld => ?_)
    unfold BoxAt at hHeld ⊢
    refine wpAnyH_take (i := 0) (oi := { dst := some 8, op := Go.Op.fieldAddr 51 (Go.Operand.tmp 1) 0, type := 0, pos := "msg.go:138", after := #[], guard := none }) (v := ?_) rfl (by kernel_rfl) (by kernel_rfl) (by kernel_rfl) (fun _ _ _ h => h) (Or.inl ⟨by rfl, ?_⟩) (by assumption) ?_
    rotate_left
    · intro w hSw
      (try dsimp only at hSw)
      go_simp
      (try with_reducible rfl)
    (try simp only [Act.put, List.setIfInBounds_toArray, List.set_cons_zero, List.set_cons_succ])
    refine wpAnyH_take (i := 1) (oi := { dst := some 9, op := Go.Op.load 47 (Go.Operand.tmp 8), type := 47, pos := "msg.go:138", after := #[{ on := 0, ground := Go.Ground.data }], guard := none }) (v := ?_) rfl (by kernel_rfl) (by kernel_rfl) (by kernel_rfl) (fun _ _ _ h => h) (Or.inl ⟨by rfl, ?_⟩) (by assumption) ?_
    rotate_left
    · intro w hSw
      (try dsimp only at hSw)
      go_simp
      (try with_reducible rfl)
    (try simp only [Act.put, List.setIfInBounds_toArray, List.set_cons_zero, List.set_cons_succ])
    refine wpAnyH_take (i := 2) (oi := { dst := some 10, op := Go.Op.fieldAddr 51 (Go.Operand.tmp 1) 1, type := 0, pos := "msg.go:138", after := #[], guard := none }) (v := ?_) rfl (by kernel_rfl) (by kernel_rfl) (by kernel_rfl) (fun _ _ _ h => h) (Or.inl ⟨by rfl, ?_⟩) (by assumption) ?_
    rotate_left
    · intro w hSw
      (try dsimp only at hSw)
      go_simp
      (try with_reducible rfl)
    (try simp only [Act.put, List.setIfInBounds_toArray, List.set_cons_zero, List.set_cons_succ])
    refine wpAnyH_take (i := 3) (oi := { dst := some 11, op := Go.Op.load 49 (Go.Operand.tmp 10), type := 49, pos := "msg.go:138", after := #[{ on := 2, ground := Go.Ground.data }], guard := none }) (v := ?_) rfl (by kernel_rfl) (by kernel_rfl) (by kernel_rfl) (fun _ _ _ h => h) (Or.inl ⟨by rfl, ?_⟩) (by assumption) ?_
    rotate_left
    · intro w hSw
      (try dsimp only at hSw)
      go_simp
      (try with_reducible rfl)
    (try simp only [Act.put, List.setIfInBounds_toArray, List.set_cons_zero, List.set_cons_succ])
    refine wpAnyH_take (i := 4) (oi := { dst := some 12, op := Go.Op.move (Go.Operand.tmp 2), type := 3, pos := "msg.go:138", after := #[], guard := none }) (v := ?_) rfl (by kernel_rfl) (by kernel_rfl) (by kernel_rfl) (fun _ _ _ h => h) (Or.inl ⟨by rfl, ?_⟩) (by assumption) ?_
    rotate_left
    · intro w hSw
      (try dsimp only at hSw)
      go_simp
      (try with_reducible rfl)
    (try simp only [Act.put, List.setIfInBounds_toArray, List.set_cons_zero, List.set_cons_succ])
    refine wpAnyH_ready (rs := [5]) (by kernel_rfl) (by simp) ?_
    refine AllReadyH.cons (o := { dst := some 13, op := Go.Op.call { callee := Go.Callee.invoke (Go.Operand.tmp 11) "tandem/msg.number", args := #[Go.Operand.tmp 12, Go.Operand.const (Go.Value.int Go.IntKind.i64 1), Go.Operand.const (Go.Value.int Go.IntKind.i64 1)], argTypes := #[3, 3, 3] }, type := 3, pos := "msg.go:138", after := #[{ on := 3, ground := Go.Ground.data }, { on := 4, ground := Go.Ground.data }], guard := none }) rfl (fun K hK => ?_) AllReadyH.nil
    go_simp
    refine HZ.out.mono ?_
    rintro e u1 hz
    obtain ⟨r, hr⟩ : ∃ r, r = C.o.num a 1 1 1 := ⟨_, rfl⟩
    have HQ1 : Hid (run C.o (.num .ok :: []) (m, a) = (r.bind fun x => .ok (Mg.set m x.1 .ok, x.2)).bind (run C.o [])) := Lib.hid (by rw [run_pair, hr]; show ((C.o.num a (Mg.get m .ok) 1 1).bind _).bind _ = _; rw [hg])
    rw [← hr] at hz
    obtain ⟨hF, hR, hin2, hmine2⟩ := HX.out
    obtain ⟨⟨hin, hmine⟩, hnb, hbg, hlt1, hB1⟩ := HI.out
    have hlt := HL1.out
    cases r with
    | no er at_ =>
      obtain ⟨rfl, hR2⟩ := hz
      refine ⟨rfl, ?_⟩
      rw [show run C.o _ (m, a) = _ from HQ1.out]
      exact ⟨rfl, (Frame.of_below hB1).trans ((hR.trans (Frame.of_below ((Below.refl _ w1).drew)) (fun k hk => .inl hk)).trans hR2 hF) (fun k hk => .inl hk)⟩
    | ok x1 =>
      clear hr
      obtain ⟨rfl, hP⟩ := hz
      have hP3 := hP
      obtain ⟨Fv, hI2, hF2, hR2⟩ := hP3
      obtain ⟨A2, n2, c2, hd2⟩ := C.cells hI2
      have hnb2 : ¬ F1 b := fun hf => (hF b hf).elim hnb (fun h => by omega)
      have hb2 := HB.out.frame hR2 hlt hnb2
      have hc2 := (mCells_at hd2).1.2.2.2.2
      have hz2 := hd2.frozen 6
      have HBx := Lib.hid hb2
      have HB2 := Lib.hid (BoxAt.far (k := 6) (v := .bool (x1.1 == 1)) hb2 hbg)
      have HL2 : Hid (b < (u1.setCell ⟨C.gm, 6, none⟩ (.bool (x1.1 == 1))).heap.size) := Lib.hid (by have hs : w1.heap.size ≤ u1.heap.size := hR2.size; simp [World.setCell]; omega)
      have HP2 := Lib.hid (CarPost.trans hF (hR.trans (Frame.of_below ((Below.refl _ w1).drew)) (fun k hk => .inl hk)) (CarPost.store0 C (k := 6) (v := .bool (x1.1 == 1)) hmine2 hP (fun hI => C.set hI .ok x1.1)))
      clear hb2 hd2 hI2 hR2 hF2 hP hnb2 hin hmine hnb hbg hlt hlt1 hB1 hF hR hin2 hmine2 HZ HX hc
      refine hK.out _ _ HBx.out (fun hHeld3 => ?_)
      clear hK K hHeld
      (try simp only [Act.put, List.setIfInBounds_toArray, List.set_cons_zero, List.set_cons_succ])
      refine wpAnyH_take (i := 6) (oi := { dst := some 14, op := Go.Op.binOp Go.BinOp.eql 3 (Go.Operand.tmp 13) (Go.Operand.const (Go.Value.int Go.IntKind.i64 1)) 3, type := 4, pos := "msg.go:138", after := #[{ on := 5, ground := Go.Ground.data }], guard := none }) (v := ?_) rfl (by kernel_rfl) (by kernel_rfl) (by kernel_rfl) (fun _ _ _ h => h) (Or.inl ⟨by rfl, ?_⟩) (by assumption) ?_
      rotate_left
      · intro w hSw
        (try dsimp only at hSw)
        go_simp
        (try with_reducible rfl)
      (try simp only [Act.put, List.setIfInBounds_toArray, List.set_cons_zero, List.set_cons_succ])
      refine wpAnyH_take (i := 7) (oi := { dst := some 15, op := Go.Op.nilCheck (Go.Operand.tmp 9), type := 0, pos := "msg.go:138", after := #[{ on := 1, ground := Go.Ground.data }, { on := 0, ground := Go.Ground.phase }, { on := 1, ground := Go.Ground.phase }, { on := 2, ground := Go.Ground.phase }, { on := 3, ground := Go.Ground.phase }, { on := 4, ground := Go.Ground.phase }, { on := 5, ground := Go.Ground.phase }, { on := 6, ground := Go.Ground.phase }], guard := none }) (v := ?_) rfl (by kernel_rfl) (by kernel_rfl) (by kernel_rfl) (fun _ _ _ h => h) (Or.inl ⟨by rfl, ?_⟩) (by assumption) ?_
      rotate_left
      · intro w hSw
        (try dsimp only at hSw)
        go_simp
        (try with_reducible rfl)
      (try simp only [Act.put, List.setIfInBounds_toArray, List.set_cons_zero, List.set_cons_succ])
      refine wpAnyH_take (i := 8) (oi := { dst := some 16, op := Go.Op.fieldAddr 27 (Go.Operand.tmp 15) 6, type := 0, pos := "msg.go:138", after := #[{ on := 7, ground := Go.Ground.data }, { on := 0, ground := Go.Ground.phase }, { on := 1, ground := Go.Ground.phase }, { on := 2, ground := Go.Ground.phase }, { on := 3, ground := Go.Ground.phase }, { on := 4, ground := Go.Ground.phase }, { on := 5, ground := Go.Ground.phase }, { on := 6, ground := Go.Ground.phase }], guard := none }) (v := ?_) rfl (by kernel_rfl) (by kernel_rfl) (by kernel_rfl) (fun _ _ _ h => h) (Or.inl ⟨by rfl, ?_⟩) (by assumption) ?_
      rotate_left
      · intro w hSw
        (try dsimp only at hSw)
        go_simp
        (try with_reducible rfl)
      (try simp only [Act.put, List.setIfInBounds_toArray, List.set_cons_zero, List.set_cons_succ])
      refine wpAnyH_ready (rs := [9]) (by kernel_rfl) (by simp) ?_
      refine AllReadyH.cons (o := { dst := none, op := Go.Op.store 4 (Go.Operand.tmp 16) (Go.Operand.tmp 14), type := 0, pos := "msg.go:138", after := #[{ on := 8, ground := Go.Ground.data }, { on := 6, ground := Go.Ground.data }, { on := 5, ground := Go.Ground.chain }, { on := 0, ground := Go.Ground.phase }, { on := 1, ground := Go.Ground.phase }, { on := 2, ground := Go.Ground.phase }, { on := 3, ground := Go.Ground.phase }, { on := 4, ground := Go.Ground.phase }, { on := 5, ground := Go.Ground.phase }, { on := 6, ground := Go.Ground.phase }], guard := none }) rfl (fun K hK => ?_) AllReadyH.nil
      go_simp
      refine hK.out _ _ HB2.out (fun hHeld4 => ?_)
      clear hK K hHeld3
      (try simp only [Act.put, List.setIfInBounds_toArray, List.set_cons_zero, List.set_cons_succ])
      refine wpAnyH_done (by kernel_rfl) ?_ _
      clear hc2 hz2 HBx hHeld4
      go_end0
      rw [show run C.o _ (m, a) = _ from HQ1.out]
      exact ⟨rfl, CarPost.first HI.out.2.2.2.2 HP2.out⟩
  | false =>
    rw [hmo] at hok
    have hg : Mg.get m .ok = 0 := by simp [Mg.get, hmo]
    replace hg := Lib.hid hg
    clear hmo
    go_enter Try.func41, Try.ntmps41
    go_wp2
    rw [← hw1, ← hbe]
    clear hw1 hbe hok
    replace hg := hg.out
    obtain ⟨F1, hI, hF, hR⟩ := HP1.out
    have hId := C.step hI ((Below.refl _ w1).drew)
    obtain ⟨A, n, c, hd⟩ := C.cells hId
    have hc := (mCells_at hd).1.2.2.2.2
    have HB : Hid (BoxAt C b w1.drew) := HB1
    have z := C.cnum hId hs1 0 1 1 (good_of .ok)
    have HZ := Lib.hid z
    have HX := Lib.hid (And.intro hF (And.intro hR (And.intro (C.own hId) (C.mine hId))))
    clear z hF hR hI hId hd
    refine wp_region_held_drew (S := BoxAt C b) (by kernel_rfl) HB.out (fun hHeld => ?_)
    unfold BoxAt at hHeld ⊢
    refine wpAnyH_take (i := 0) (oi := { dst := some 8, op := Go.Op.fieldAddr 51 (Go.Operand.tmp 1) 0, type := 0, pos := "msg.go:138", after := #[], guard := none }) (v := ?_) rfl (by kernel_rfl) (by kernel_rfl) (by kernel_rfl) (fun _ _ _ h => h) (Or.inl ⟨by rfl, ?_⟩) (by assumption) ?_
    rotate_left
    · intro w hSw
      (try dsimp only at hSw)
      go_simp
      (try with_reducible rfl)
    (try simp only [Act.put, List.setIfInBounds_toArray, List.set_cons_zero, List.set_cons_succ])
    refine wpAnyH_take (i := 1) (oi := { dst := some 9, op := Go.Op.load 47 (Go.Operand.tmp 8), type := 47, pos := "msg.go:138", after := #[{ on := 0, ground := Go.Ground.data }], guard := none }) (v := ?_) rfl (by kernel_rfl) (by kernel_rfl) (by kernel_rfl) (fun _ _ _ h => h) (Or.inl ⟨by rfl, ?_⟩) (by assumption) ?_
    rotate_left
    · intro w hSw
      (try dsimp only at hSw)
      go_simp
      (try with_reducible rfl)
    (try simp only [Act.put, List.setIfInBounds_toArray, List.set_cons_zero, List.set_cons_succ])
    refine wpAnyH_take (i := 2) (oi := { dst := some 10, op := Go.Op.fieldAddr 51 (Go.Operand.tmp 1) 1, type := 0, pos := "msg.go:138", after := #[], guard := none }) (v := ?_) rfl (by kernel_rfl) (by kernel_rfl) (by kernel_rfl) (fun _ _ _ h => h) (Or.inl ⟨by rfl, ?_⟩) (by assumption) ?_
    rotate_left
    · intro w hSw
      (try dsimp only at hSw)
      go_simp
      (try with_reducible rfl)
    (try simp only [Act.put, List.setIfInBounds_toArray, List.set_cons_zero, List.set_cons_succ])
    refine wpAnyH_take (i := 3) (oi := { dst := some 11, op := Go.Op.load 49 (Go.Operand.tmp 10), type := 49, pos := "msg.go:138", after := #[{ on := 2, ground := Go.Ground.data }], guard := none }) (v := ?_) rfl (by kernel_rfl) (by kernel_rfl) (by kernel_rfl) (fun _ _ _ h => h) (Or.inl ⟨by rfl, ?_⟩) (by assumption) ?_
    rotate_left
    · intro w hSw
      (try dsimp only at hSw)
      go_simp
      (try with_reducible rfl)
    (try simp only [Act.put, List.setIfInBounds_toArray, List.set_cons_zero, List.set_cons_succ])
    refine wpAnyH_take (i := 4) (oi := { dst := some 12, op := Go.Op.move (Go.Operand.tmp 2), type := 3, pos := "msg.go:138", after := #[], guard := none }) (v := ?_) rfl (by kernel_rfl) (by kernel_rfl) (by kernel_rfl) (fun _ _ _ h => h) (Or.inl ⟨by rfl, ?_⟩) (by assumption) ?_
    rotate_left
    · intro w hSw
      (try dsimp only at hSw)
      go_simp
      (try with_reducible rfl)
    (try simp only [Act.put, List.setIfInBounds_toArray, List.set_cons_zero, List.set_cons_succ])
    refine wpAnyH_ready (rs := [5]) (by kernel_rfl) (by simp) ?_
    refine AllReadyH.cons (o := { dst := some 13, op := Go.Op.call { callee := Go.Callee.invoke (Go.Operand.tmp 11) "tandem/msg.number", args := #[Go.Operand.tmp 12, Go.Operand.const (Go.Value.int Go.IntKind.i64 1), Go.Operand.const (Go.Value.int Go.IntKind.i64 1)], argTypes := #[3, 3, 3] }, type := 3, pos := "msg.go:138", after := #[{ on := 3, ground := Go.Ground.data }, { on := 4, ground := Go.Ground.data }], guard := none }) rfl (fun K hK => ?_) AllReadyH.nil
    go_simp
    refine HZ.out.mono ?_
    rintro e u1 hz
    obtain ⟨r, hr⟩ : ∃ r, r = C.o.num a 0 1 1 := ⟨_, rfl⟩
    have HQ1 : Hid (run C.o (.num .ok :: []) (m, a) = (r.bind fun x => .ok (Mg.set m x.1 .ok, x.2)).bind (run C.o [])) := Lib.hid (by rw [run_pair, hr]; show ((C.o.num a (Mg.get m .ok) 1 1).bind _).bind _ = _; rw [hg])
    rw [← hr] at hz
    obtain ⟨hF, hR, hin2, hmine2⟩ := HX.out
    obtain ⟨⟨hin, hmine⟩, hnb, hbg, hlt1, hB1⟩ := HI.out
    have hlt := HL1.out
    cases r with
    | no er at_ =>
      obtain ⟨rfl, hR2⟩ := hz
      refine ⟨rfl, ?_⟩
      rw [show run C.o _ (m, a) = _ from HQ1.out]
      exact ⟨rfl, (Frame.of_below hB1).trans ((hR.trans (Frame.of_below ((Below.refl _ w1).drew)) (fun k hk => .inl hk)).trans hR2 hF) (fun k hk => .inl hk)⟩
    | ok x1 =>
      clear hr
      obtain ⟨rfl, hP⟩ := hz
      have hP3 := hP
      obtain ⟨Fv, hI2, hF2, hR2⟩ := hP3
      obtain ⟨A2, n2, c2, hd2⟩ := C.cells hI2
      have hnb2 : ¬ F1 b := fun hf => (hF b hf).elim hnb (fun h => by omega)
      have hb2 := HB.out.frame hR2 hlt hnb2
      have hc2 := (mCells_at hd2).1.2.2.2.2
      have hz2 := hd2.frozen 6
      have HBx := Lib.hid hb2
      have HB2 := Lib.hid (BoxAt.far (k := 6) (v := .bool (x1.1 == 1)) hb2 hbg)
      have HL2 : Hid (b < (u1.setCell ⟨C.gm, 6, none⟩ (.bool (x1.1 == 1))).heap.size) := Lib.hid (by have hs : w1.heap.size ≤ u1.heap.size := hR2.size; simp [World.setCell]; omega)
      have HP2 := Lib.hid (CarPost.trans hF (hR.trans (Frame.of_below ((Below.refl _ w1).drew)) (fun k hk => .inl hk)) (CarPost.store0 C (k := 6) (v := .bool (x1.1 == 1)) hmine2 hP (fun hI => C.set hI .ok x1.1)))
      clear hb2 hd2 hI2 hR2 hF2 hP hnb2 hin hmine hnb hbg hlt hlt1 hB1 hF hR hin2 hmine2 HZ HX hc
      refine hK.out _ _ HBx.out (fun hHeld3 => ?_)
      clear hK K hHeld
      (try simp only [Act.put, List.setIfInBounds_toArray, List.set_cons_zero, List.set_cons_succ])
      refine wpAnyH_take (i := 6) (oi := { dst := some 14, op := Go.Op.binOp Go.BinOp.eql 3 (Go.Operand.tmp 13) (Go.Operand.const (Go.Value.int Go.IntKind.i64 1)) 3, type := 4, pos := "msg.go:138", after := #[{ on := 5, ground := Go.Ground.data }], guard := none }) (v := ?_) rfl (by kernel_rfl) (by kernel_rfl) (by kernel_rfl) (fun _ _ _ h => h) (Or.inl ⟨by rfl, ?_⟩) (by assumption) ?_
      rotate_left
      · intro w hSw
        (try dsimp only at hSw)
        go_simp
        (try with_reducible rfl)
      (try simp only [Act.put, List.setIfInBounds_toArray, List.set_cons_zero, List.set_cons_succ])
      refine wpAnyH_take (i := 7) (oi := { dst := some 15, op := Go.Op.nilCheck (Go.Operand.tmp 9), type := 0, pos := "msg.go:138", after := #[{ on := 1, ground := Go.Ground.data }, { on := 0, ground := Go.Ground.phase }, { on := 1, ground := Go.Ground.phase }, { on := 2, ground := Go.Ground.phase }, { on := 3, ground := Go.Ground.phase }, { on := 4, ground := Go.Ground.phase }, { on := 5, ground := Go.Ground.phase }, { on := 6, ground := Go.Ground.phase }], guard := none }) (v := ?_) rfl (by kernel_rfl) (by kernel_rfl) (by kernel_rfl) (fun _ _ _ h => h) (Or.inl ⟨by rfl, ?_⟩) (by assumption) ?_
      rotate_left
      · intro w hSw
        (try dsimp only at hSw)
        go_simp
        (try with_reducible rfl)
      (try simp only [Act.put, List.setIfInBounds_toArray, List.set_cons_zero, List.set_cons_succ])
      refine wpAnyH_take (i := 8) (oi := { dst := some 16, op := Go.Op.fieldAddr 27 (Go.Operand.tmp 15) 6, type := 0, pos := "msg.go:138", after := #[{ on := 7, ground := Go.Ground.data }, { on := 0, ground := Go.Ground.phase }, { on := 1, ground := Go.Ground.phase }, { on := 2, ground := Go.Ground.phase }, { on := 3, ground := Go.Ground.phase }, { on := 4, ground := Go.Ground.phase }, { on := 5, ground := Go.Ground.phase }, { on := 6, ground := Go.Ground.phase }], guard := none }) (v := ?_) rfl (by kernel_rfl) (by kernel_rfl) (by kernel_rfl) (fun _ _ _ h => h) (Or.inl ⟨by rfl, ?_⟩) (by assumption) ?_
      rotate_left
      · intro w hSw
        (try dsimp only at hSw)
        go_simp
        (try with_reducible rfl)
      (try simp only [Act.put, List.setIfInBounds_toArray, List.set_cons_zero, List.set_cons_succ])
      refine wpAnyH_ready (rs := [9]) (by kernel_rfl) (by simp) ?_
      refine AllReadyH.cons (o := { dst := none, op := Go.Op.store 4 (Go.Operand.tmp 16) (Go.Operand.tmp 14), type := 0, pos := "msg.go:138", after := #[{ on := 8, ground := Go.Ground.data }, { on := 6, ground := Go.Ground.data }, { on := 5, ground := Go.Ground.chain }, { on := 0, ground := Go.Ground.phase }, { on := 1, ground := Go.Ground.phase }, { on := 2, ground := Go.Ground.phase }, { on := 3, ground := Go.Ground.phase }, { on := 4, ground := Go.Ground.phase }, { on := 5, ground := Go.Ground.phase }, { on := 6, ground := Go.Ground.phase }], guard := none }) rfl (fun K hK => ?_) AllReadyH.nil
      go_simp
      refine hK.out _ _ HB2.out (fun hHeld4 => ?_)
      clear hK K hHeld3
      (try simp only [Act.put, List.setIfInBounds_toArray, List.set_cons_zero, List.set_cons_succ])
      refine wpAnyH_done (by kernel_rfl) ?_ _
      clear hc2 hz2 HBx hHeld4
      go_end0
      rw [show run C.o _ (m, a) = _ from HQ1.out]
      exact ⟨rfl, CarPost.first HI.out.2.2.2.2 HP2.out⟩
set_option maxRecDepth 100000 in
set_option maxHeartbeats 2000000 in
theorem fld_rec (C : Carr α) (h : C.Inv w F m a) (hs : C.small 3 a) : Calls Try.prog 39 #[C.val] w (FldPost C w F (run C.o [.num .rt, .num .rn, .num .rs] (m, a))) := by
  have B1 : Below w.heap.size w (w.alloc (.cells #[.pointer (some ⟨C.gm, 0, none⟩), .iface C.T C.p] 51)) := (Below.refl _ w).alloc (Nat.le_refl _) _
  have hb : BoxAt C w.heap.size (w.alloc (.cells #[.pointer (some ⟨C.gm, 0, none⟩), .iface C.T C.p] 51)) := box_new C w
  have hlt : w.heap.size < (w.alloc (.cells #[.pointer (some ⟨C.gm, 0, none⟩), .iface C.T C.p] 51)).heap.size := by simp
  have hs1 := C.less (C.less hs)
  have hin := C.own h
  have hmine := C.mine h
  have hP : CarPost (fun w F (s : M × α) => C.Inv w F s.1 s.2) (w.alloc (.cells #[.pointer (some ⟨C.gm, 0, none⟩), .iface C.T C.p] 51)) F (m, a) (w.alloc (.cells #[.pointer (some ⟨C.gm, 0, none⟩), .iface C.T C.p] 51)) := ⟨F, C.step h B1, fun k hk => .inl hk, Frame.refl _ _⟩
  have hm1 := C.mnum
  have hm2 := C.mlon
  have hm3 := C.mbyt
  have hfn1 := C.fnum
  have hfn2 := C.flon
  have hfn3 := C.fbyt
  obtain ⟨b, hbe⟩ : ∃ x, x = w.heap.size := ⟨_, rfl⟩
  obtain ⟨w1, hw1⟩ : ∃ x, x = w.alloc (.cells #[.pointer (some ⟨C.gm, 0, none⟩), .iface C.T C.p] 51) := ⟨_, rfl⟩
  rw [← hw1] at hb hlt hP B1
  rw [← hbe] at hb hlt
  have hnb : ¬ F b := fun hf => by have := hin _ hf; omega
  have hbg : b ≠ C.gm := fun e => hnb (e ▸ hmine)
  have HI := Lib.hid (And.intro (And.intro hin hmine) (And.intro hnb (And.intro hbg (And.intro hlt B1))))
  have HP1 := Lib.hid hP
  have HL1 := Lib.hid hlt
  have HB1 := Lib.hid hb
  clear B1 hin hmine hnb hbg hP hlt hb
  unfold Carr.val
  go_enter Try.func39, Try.ntmps39
  go_wp2
  rw [← hw1, ← hbe]
  clear hw1 hbe
  obtain ⟨F1, hI, hF, hR⟩ := HP1.out
  have hId := C.step hI ((Below.refl _ w1).drew)
  obtain ⟨A, n, c, hd⟩ := C.cells hId
  have hc := (mCells_at hd).2.1.1
  have HB : Hid (BoxAt C b w1.drew) := HB1
  have z := C.cnum hId hs1 (get m .rt) 6 1099511627776 (good_of .rt)
  obtain ⟨cN, hcN⟩ : ∃ x, x = get m .rt := ⟨_, rfl⟩
  rw [← hcN] at z
  replace hc := hc.trans (show _ = some (Value.int .i64 cN) by rw [hcN]; rfl)
  have HZ := Lib.hid z
  have HX := Lib.hid (And.intro hF (And.intro hR (And.intro (C.own hId) (C.mine hId))))
  have HC := Lib.hid hcN
  clear z hF hR hI hId hd hcN
  refine wp_region_held_drew (S := BoxAt C b) (by kernel_rfl) HB.out (fun hHeld => ?_)
  unfold BoxAt at hHeld ⊢
  refine wpAnyH_take (i := 0) (oi := { dst := some 2, op := Go.Op.fieldAddr 51 (Go.Operand.tmp 1) 0, type := 0, pos := "msg.go:143", after := #[], guard := none }) (v := ?_) rfl (by kernel_rfl) (by kernel_rfl) (by kernel_rfl) (fun _ _ _ h => h) (Or.inl ⟨by rfl, ?_⟩) (by assumption) ?_
  rotate_left
  · intro w hSw
    (try dsimp only at hSw)
    go_simp
    (try with_reducible rfl)
  (try simp only [Act.put, List.setIfInBounds_toArray, List.set_cons_zero, List.set_cons_succ])
  refine wpAnyH_take (i := 1) (oi := { dst := some 3, op := Go.Op.load 47 (Go.Operand.tmp 2), type := 47, pos := "msg.go:143", after := #[{ on := 0, ground := Go.Ground.data }], guard := none }) (v := ?_) rfl (by kernel_rfl) (by kernel_rfl) (by kernel_rfl) (fun _ _ _ h => h) (Or.inl ⟨by rfl, ?_⟩) (by assumption) ?_
  rotate_left
  · intro w hSw
    (try dsimp only at hSw)
    go_simp
    (try with_reducible rfl)
  (try simp only [Act.put, List.setIfInBounds_toArray, List.set_cons_zero, List.set_cons_succ])
  refine wpAnyH_take (i := 2) (oi := { dst := some 4, op := Go.Op.fieldAddr 51 (Go.Operand.tmp 1) 1, type := 0, pos := "msg.go:143", after := #[], guard := none }) (v := ?_) rfl (by kernel_rfl) (by kernel_rfl) (by kernel_rfl) (fun _ _ _ h => h) (Or.inl ⟨by rfl, ?_⟩) (by assumption) ?_
  rotate_left
  · intro w hSw
    (try dsimp only at hSw)
    go_simp
    (try with_reducible rfl)
  (try simp only [Act.put, List.setIfInBounds_toArray, List.set_cons_zero, List.set_cons_succ])
  refine wpAnyH_take (i := 3) (oi := { dst := some 5, op := Go.Op.load 49 (Go.Operand.tmp 4), type := 49, pos := "msg.go:143", after := #[{ on := 2, ground := Go.Ground.data }], guard := none }) (v := ?_) rfl (by kernel_rfl) (by kernel_rfl) (by kernel_rfl) (fun _ _ _ h => h) (Or.inl ⟨by rfl, ?_⟩) (by assumption) ?_
  rotate_left
  · intro w hSw
    (try dsimp only at hSw)
    go_simp
    (try with_reducible rfl)
  (try simp only [Act.put, List.setIfInBounds_toArray, List.set_cons_zero, List.set_cons_succ])
  refine wpAnyH_take (i := 4) (oi := { dst := some 6, op := Go.Op.fieldAddr 51 (Go.Operand.tmp 1) 0, type := 0, pos := "msg.go:143", after := #[], guard := none }) (v := ?_) rfl (by kernel_rfl) (by kernel_rfl) (by kernel_rfl) (fun _ _ _ h => h) (Or.inl ⟨by rfl, ?_⟩) (by assumption) ?_
  rotate_left
  · intro w hSw
    (try dsimp only at hSw)
    go_simp
    (try with_reducible rfl)
  (try simp only [Act.put, List.setIfInBounds_toArray, List.set_cons_zero, List.set_cons_succ])
  refine wpAnyH_take (i := 5) (oi := { dst := some 7, op := Go.Op.load 47 (Go.Operand.tmp 6), type := 47, pos := "msg.go:143", after := #[{ on := 4, ground := Go.Ground.data }], guard := none }) (v := ?_) rfl (by kernel_rfl) (by kernel_rfl) (by kernel_rfl) (fun _ _ _ h => h) (Or.inl ⟨by rfl, ?_⟩) (by assumption) ?_
  rotate_left
  · intro w hSw
    (try dsimp only at hSw)
    go_simp
    (try with_reducible rfl)
  (try simp only [Act.put, List.setIfInBounds_toArray, List.set_cons_zero, List.set_cons_succ])
  refine wpAnyH_take (i := 6) (oi := { dst := some 8, op := Go.Op.nilCheck (Go.Operand.tmp 7), type := 0, pos := "msg.go:143", after := #[{ on := 5, ground := Go.Ground.data }], guard := none }) (v := ?_) rfl (by kernel_rfl) (by kernel_rfl) (by kernel_rfl) (fun _ _ _ h => h) (Or.inl ⟨by rfl, ?_⟩) (by assumption) ?_
  rotate_left
  · intro w hSw
    (try dsimp only at hSw)
    go_simp
    (try with_reducible rfl)
  (try simp only [Act.put, List.setIfInBounds_toArray, List.set_cons_zero, List.set_cons_succ])
  refine wpAnyH_take (i := 7) (oi := { dst := some 9, op := Go.Op.fieldAddr 27 (Go.Operand.tmp 8) 7, type := 0, pos := "msg.go:143", after := #[{ on := 6, ground := Go.Ground.data }], guard := none }) (v := ?_) rfl (by kernel_rfl) (by kernel_rfl) (by kernel_rfl) (fun _ _ _ h => h) (Or.inl ⟨by rfl, ?_⟩) (by assumption) ?_
  rotate_left
  · intro w hSw
    (try dsimp only at hSw)
    go_simp
    (try with_reducible rfl)
  (try simp only [Act.put, List.setIfInBounds_toArray, List.set_cons_zero, List.set_cons_succ])
  refine wpAnyH_take (i := 8) (oi := { dst := some 10, op := Go.Op.fieldAddr 23 (Go.Operand.tmp 9) 0, type := 0, pos := "msg.go:143", after := #[{ on := 7, ground := Go.Ground.data }], guard := none }) (v := ?_) rfl (by kernel_rfl) (by kernel_rfl) (by kernel_rfl) (fun _ _ _ h => h) (Or.inl ⟨by rfl, ?_⟩) (by assumption) ?_
  rotate_left
  · intro w hSw
    (try dsimp only at hSw)
    go_simp
    (try with_reducible rfl)
  (try simp only [Act.put, List.setIfInBounds_toArray, List.set_cons_zero, List.set_cons_succ])
  refine wpAnyH_take (i := 10) (oi := { dst := some 12, op := Go.Op.nilCheck (Go.Operand.tmp 5), type := 49, pos := "msg.go:143", after := #[{ on := 3, ground := Go.Ground.data }], guard := none }) (v := ?_) rfl (by kernel_rfl) (by kernel_rfl) (by kernel_rfl) (fun _ _ _ h => h) (Or.inl ⟨by rfl, ?_⟩) (by assumption) ?_
  rotate_left
  · intro w hSw
    (try dsimp only at hSw)
    go_simp
    (try with_reducible rfl)
  (try simp only [Act.put, List.setIfInBounds_toArray, List.set_cons_zero, List.set_cons_succ])
  refine wpAnyH_take (i := 11) (oi := { dst := some 13, op := Go.Op.move (Go.Operand.tmp 5), type := 49, pos := "msg.go:143", after := #[{ on := 3, ground := Go.Ground.data }, { on := 10, ground := Go.Ground.data }], guard := none }) (v := ?_) rfl (by kernel_rfl) (by kernel_rfl) (by kernel_rfl) (fun _ _ _ h => h) (Or.inl ⟨by rfl, ?_⟩) (by assumption) ?_
  rotate_left
  · intro w hSw
    (try dsimp only at hSw)
    go_simp
    (try with_reducible rfl)
  (try simp only [Act.put, List.setIfInBounds_toArray, List.set_cons_zero, List.set_cons_succ])
  refine wpAnyH_ready (rs := [9]) (by kernel_rfl) (by simp) ?_
  refine AllReadyH.cons (o := { dst := some 11, op := Go.Op.load 3 (Go.Operand.tmp 10), type := 3, pos := "msg.go:143", after := #[{ on := 8, ground := Go.Ground.data }], guard := none }) rfl (fun K hK => ?_) AllReadyH.nil
  go_simp
  refine hK.out _ _ HB.out (fun hHeld2 => ?_)
  clear hK K
  (try simp only [Act.put, List.setIfInBounds_toArray, List.set_cons_zero, List.set_cons_succ])
  refine wpAnyH_ready (rs := [12]) (by kernel_rfl) (by simp) ?_
  refine AllReadyH.cons (o := { dst := some 14, op := Go.Op.call { callee := Go.Callee.invoke (Go.Operand.tmp 13) "tandem/msg.number", args := #[Go.Operand.tmp 11, Go.Operand.const (Go.Value.int Go.IntKind.i64 6), Go.Operand.const (Go.Value.int Go.IntKind.i64 1099511627776)], argTypes := #[3, 3, 3] }, type := 3, pos := "msg.go:143", after := #[{ on := 11, ground := Go.Ground.data }, { on := 9, ground := Go.Ground.data }], guard := none }) rfl (fun K hK => ?_) AllReadyH.nil
  go_simp
  refine HZ.out.mono ?_
  rintro e u1 hz
  obtain ⟨r, hr⟩ : ∃ r, r = C.o.num a cN 6 1099511627776 := ⟨_, rfl⟩
  have HQ1 : Hid (run C.o (.num .rt :: [.num .rn, .num .rs]) (m, a) = (r.bind fun x => .ok (Mg.set m x.1 .rt, x.2)).bind (run C.o [.num .rn, .num .rs])) := Lib.hid (by rw [run_pair, hr, HC.out]; rfl)
  rw [← hr] at hz
  obtain ⟨hF, hR, hin2, hmine2⟩ := HX.out
  obtain ⟨⟨hin, hmine⟩, hnb, hbg, hlt1, hB1⟩ := HI.out
  have hlt := HL1.out
  cases r with
  | no er at_ =>
    obtain ⟨rfl, hR2⟩ := hz
    refine ⟨rfl, ?_⟩
    rw [show run C.o _ (m, a) = _ from HQ1.out]
    exact ⟨rfl, (Frame.of_below hB1).trans ((hR.trans (Frame.of_below ((Below.refl _ w1).drew)) (fun k hk => .inl hk)).trans hR2 hF) (fun k hk => .inl hk)⟩
  | ok x1 =>
    have hs2 := C.less (C.snum (k := 2) (good_of .rt) hs hr.symm)
    have hx1 := hr.symm
    clear hr
    obtain ⟨rfl, hP⟩ := hz
    have hP3 := hP
    obtain ⟨Fv, hI2, hF2, hR2⟩ := hP3
    obtain ⟨A2, n2, c2, hd2⟩ := C.cells hI2
    have hnb2 : ¬ F1 b := fun hf => (hF b hf).elim hnb (fun h => by omega)
    have hb2 := HB.out.frame hR2 hlt hnb2
    have hc2 := (mCells_at hd2).2.1.1
    have hz2 := hd2.frozen 7
    have HBx := Lib.hid hb2
    have HB2 := Lib.hid (BoxAt.far (k := 7) (v := .int .i64 x1.1) hb2 hbg)
    have HL2 : Hid (b < (u1.setCell ⟨C.gm, 7, none⟩ (.int .i64 x1.1)).heap.size) := Lib.hid (by have hs : w1.heap.size ≤ u1.heap.size := hR2.size; simp [World.setCell]; omega)
    have HP2 := Lib.hid (CarPost.trans hF (hR.trans (Frame.of_below ((Below.refl _ w1).drew)) (fun k hk => .inl hk)) (CarPost.store0 C (k := 7) (v := .int .i64 x1.1) hmine2 hP (fun hI => C.set hI .rt x1.1)))
    clear hb2 hd2 hI2 hR2 hF2 hP hnb2 hin hmine hnb hbg hlt hlt1 hB1 hF hR hin2 hmine2 HZ HX hc
    refine hK.out _ _ HBx.out (fun hHeld3 => ?_)
    clear hK K hHeld
    (try simp only [Act.put, List.setIfInBounds_toArray, List.set_cons_zero, List.set_cons_succ])
    refine wpAnyH_take (i := 13) (oi := { dst := some 15, op := Go.Op.nilCheck (Go.Operand.tmp 3), type := 0, pos := "msg.go:143", after := #[{ on := 1, ground := Go.Ground.data }, { on := 0, ground := Go.Ground.phase }, { on := 1, ground := Go.Ground.phase }, { on := 2, ground := Go.Ground.phase }, { on := 3, ground := Go.Ground.phase }, { on := 4, ground := Go.Ground.phase }, { on := 5, ground := Go.Ground.phase }, { on := 6, ground := Go.Ground.phase }, { on := 7, ground := Go.Ground.phase }, { on := 8, ground := Go.Ground.phase }, { on := 9, ground := Go.Ground.phase }, { on := 10, ground := Go.Ground.phase }, { on := 11, ground := Go.Ground.phase }, { on := 12, ground := Go.Ground.phase }], guard := none }) (v := ?_) rfl (by kernel_rfl) (by kernel_rfl) (by kernel_rfl) (fun _ _ _ h => h) (Or.inl ⟨by rfl, ?_⟩) (by assumption) ?_
    rotate_left
    · intro w hSw
      (try dsimp only at hSw)
      go_simp
      (try with_reducible rfl)
    (try simp only [Act.put, List.setIfInBounds_toArray, List.set_cons_zero, List.set_cons_succ])
    refine wpAnyH_take (i := 14) (oi := { dst := some 16, op := Go.Op.fieldAddr 27 (Go.Operand.tmp 15) 7, type := 0, pos := "msg.go:143", after := #[{ on := 13, ground := Go.Ground.data }, { on := 0, ground := Go.Ground.phase }, { on := 1, ground := Go.Ground.phase }, { on := 2, ground := Go.Ground.phase }, { on := 3, ground := Go.Ground.phase }, { on := 4, ground := Go.Ground.phase }, { on := 5, ground := Go.Ground.phase }, { on := 6, ground := Go.Ground.phase }, { on := 7, ground := Go.Ground.phase }, { on := 8, ground := Go.Ground.phase }, { on := 9, ground := Go.Ground.phase }, { on := 10, ground := Go.Ground.phase }, { on := 11, ground := Go.Ground.phase }, { on := 12, ground := Go.Ground.phase }], guard := none }) (v := ?_) rfl (by kernel_rfl) (by kernel_rfl) (by kernel_rfl) (fun _ _ _ h => h) (Or.inl ⟨by rfl, ?_⟩) (by assumption) ?_
    rotate_left
    · intro w hSw
      (try dsimp only at hSw)
      go_simp
      (try with_reducible rfl)
    (try simp only [Act.put, List.setIfInBounds_toArray, List.set_cons_zero, List.set_cons_succ])
    refine wpAnyH_take (i := 15) (oi := { dst := some 17, op := Go.Op.fieldAddr 23 (Go.Operand.tmp 16) 0, type := 0, pos := "msg.go:143", after := #[{ on := 14, ground := Go.Ground.data }, { on := 0, ground := Go.Ground.phase }, { on := 1, ground := Go.Ground.phase }, { on := 2, ground := Go.Ground.phase }, { on := 3, ground := Go.Ground.phase }, { on := 4, ground := Go.Ground.phase }, { on := 5, ground := Go.Ground.phase }, { on := 6, ground := Go.Ground.phase }, { on := 7, ground := Go.Ground.phase }, { on := 8, ground := Go.Ground.phase }, { on := 9, ground := Go.Ground.phase }, { on := 10, ground := Go.Ground.phase }, { on := 11, ground := Go.Ground.phase }, { on := 12, ground := Go.Ground.phase }], guard := none }) (v := ?_) rfl (by kernel_rfl) (by kernel_rfl) (by kernel_rfl) (fun _ _ _ h => h) (Or.inl ⟨by rfl, ?_⟩) (by assumption) ?_
    rotate_left
    · intro w hSw
      (try dsimp only at hSw)
      go_simp
      (try with_reducible rfl)
    (try simp only [Act.put, List.setIfInBounds_toArray, List.set_cons_zero, List.set_cons_succ])
    refine wpAnyH_ready (rs := [16]) (by kernel_rfl) (by simp) ?_
    refine AllReadyH.cons (o := { dst := none, op := Go.Op.store 3 (Go.Operand.tmp 17) (Go.Operand.tmp 14), type := 0, pos := "msg.go:143", after := #[{ on := 15, ground := Go.Ground.data }, { on := 12, ground := Go.Ground.data }, { on := 12, ground := Go.Ground.chain }, { on := 0, ground := Go.Ground.phase }, { on := 1, ground := Go.Ground.phase }, { on := 2, ground := Go.Ground.phase }, { on := 3, ground := Go.Ground.phase }, { on := 4, ground := Go.Ground.phase }, { on := 5, ground := Go.Ground.phase }, { on := 6, ground := Go.Ground.phase }, { on := 7, ground := Go.Ground.phase }, { on := 8, ground := Go.Ground.phase }, { on := 9, ground := Go.Ground.phase }, { on := 10, ground := Go.Ground.phase }, { on := 11, ground := Go.Ground.phase }, { on := 12, ground := Go.Ground.phase }], guard := none }) rfl (fun K hK => ?_) AllReadyH.nil
    go_simp
    refine hK.out _ _ HB2.out (fun hHeld4 => ?_)
    clear hK K hHeld3
    (try simp only [Act.put, List.setIfInBounds_toArray, List.set_cons_zero, List.set_cons_succ])
    refine wpAnyH_done (by kernel_rfl) ?_ _
    clear hc2 hz2 HBx hHeld4
    revert HB2 HL2 HP2
    generalize u1.setCell ⟨C.gm, 7, none⟩ (.int .i64 x1.1) = w2
    intro HB2 HL2 HP2
    go_wp2
    obtain ⟨F2, hI, hF, hR⟩ := HP2.out
    have hId := C.step hI ((Below.refl _ w2).drew)
    obtain ⟨A, n, c, hd⟩ := C.cells hId
    have hc := (mCells_at hd).2.1.2.1
    have HB : Hid (BoxAt C b w2.drew) := HB2
    have z := C.cnum hId hs2 (get (Mg.set m x1.1 .rt) .rn) 6 1099511627776 (good_of .rn)
    obtain ⟨cN, hcN⟩ : ∃ x, x = get (Mg.set m x1.1 .rt) .rn := ⟨_, rfl⟩
    rw [← hcN] at z
    replace hc := hc.trans (show _ = some (Value.int .i64 cN) by rw [hcN]; rfl)
    have HZ := Lib.hid z
    have HX := Lib.hid (And.intro hF (And.intro hR (And.intro (C.own hId) (C.mine hId))))
    have HC := Lib.hid hcN
    clear z hF hR hI hId hd hcN
    refine wp_region_held_drew (S := BoxAt C b) (by kernel_rfl) HB.out (fun hHeld => ?_)
    unfold BoxAt at hHeld ⊢
    refine wpAnyH_take (i := 0) (oi := { dst := some 18, op := Go.Op.fieldAddr 51 (Go.Operand.tmp 1) 0, type := 0, pos := "msg.go:144", after := #[], guard := none }) (v := ?_) rfl (by kernel_rfl) (by kernel_rfl) (by kernel_rfl) (fun _ _ _ h => h) (Or.inl ⟨by rfl, ?_⟩) (by assumption) ?_
    rotate_left
    · intro w hSw
      (try dsimp only at hSw)
      go_simp
      (try with_reducible rfl)
    (try simp only [Act.put, List.setIfInBounds_toArray, List.set_cons_zero, List.set_cons_succ])
    refine wpAnyH_take (i := 1) (oi := { dst := some 19, op := Go.Op.load 47 (Go.Operand.tmp 18), type := 47, pos := "msg.go:144", after := #[{ on := 0, ground := Go.Ground.data }], guard := none }) (v := ?_) rfl (by kernel_rfl) (by kernel_rfl) (by kernel_rfl) (fun _ _ _ h => h) (Or.inl ⟨by rfl, ?_⟩) (by assumption) ?_
    rotate_left
    · intro w hSw
      (try dsimp only at hSw)
      go_simp
      (try with_reducible rfl)
    (try simp only [Act.put, List.setIfInBounds_toArray, List.set_cons_zero, List.set_cons_succ])
    refine wpAnyH_take (i := 2) (oi := { dst := some 20, op := Go.Op.fieldAddr 51 (Go.Operand.tmp 1) 1, type := 0, pos := "msg.go:144", after := #[], guard := none }) (v := ?_) rfl (by kernel_rfl) (by kernel_rfl) (by kernel_rfl) (fun _ _ _ h => h) (Or.inl ⟨by rfl, ?_⟩) (by assumption) ?_
    rotate_left
    · intro w hSw
      (try dsimp only at hSw)
      go_simp
      (try with_reducible rfl)
    (try simp only [Act.put, List.setIfInBounds_toArray, List.set_cons_zero, List.set_cons_succ])
    refine wpAnyH_take (i := 3) (oi := { dst := some 21, op := Go.Op.load 49 (Go.Operand.tmp 20), type := 49, pos := "msg.go:144", after := #[{ on := 2, ground := Go.Ground.data }], guard := none }) (v := ?_) rfl (by kernel_rfl) (by kernel_rfl) (by kernel_rfl) (fun _ _ _ h => h) (Or.inl ⟨by rfl, ?_⟩) (by assumption) ?_
    rotate_left
    · intro w hSw
      (try dsimp only at hSw)
      go_simp
      (try with_reducible rfl)
    (try simp only [Act.put, List.setIfInBounds_toArray, List.set_cons_zero, List.set_cons_succ])
    refine wpAnyH_take (i := 4) (oi := { dst := some 22, op := Go.Op.fieldAddr 51 (Go.Operand.tmp 1) 0, type := 0, pos := "msg.go:144", after := #[], guard := none }) (v := ?_) rfl (by kernel_rfl) (by kernel_rfl) (by kernel_rfl) (fun _ _ _ h => h) (Or.inl ⟨by rfl, ?_⟩) (by assumption) ?_
    rotate_left
    · intro w hSw
      (try dsimp only at hSw)
      go_simp
      (try with_reducible rfl)
    (try simp only [Act.put, List.setIfInBounds_toArray, List.set_cons_zero, List.set_cons_succ])
    refine wpAnyH_take (i := 5) (oi := { dst := some 23, op := Go.Op.load 47 (Go.Operand.tmp 22), type := 47, pos := "msg.go:144", after := #[{ on := 4, ground := Go.Ground.data }], guard := none }) (v := ?_) rfl (by kernel_rfl) (by kernel_rfl) (by kernel_rfl) (fun _ _ _ h => h) (Or.inl ⟨by rfl, ?_⟩) (by assumption) ?_
    rotate_left
    · intro w hSw
      (try dsimp only at hSw)
      go_simp
      (try with_reducible rfl)
    (try simp only [Act.put, List.setIfInBounds_toArray, List.set_cons_zero, List.set_cons_succ])
    refine wpAnyH_take (i := 6) (oi := { dst := some 24, op := Go.Op.nilCheck (Go.Operand.tmp 23), type := 0, pos := "msg.go:144", after := #[{ on := 5, ground := Go.Ground.data }], guard := none }) (v := ?_) rfl (by kernel_rfl) (by kernel_rfl) (by kernel_rfl) (fun _ _ _ h => h) (Or.inl ⟨by rfl, ?_⟩) (by assumption) ?_
    rotate_left
    · intro w hSw
      (try dsimp only at hSw)
      go_simp
      (try with_reducible rfl)
    (try simp only [Act.put, List.setIfInBounds_toArray, List.set_cons_zero, List.set_cons_succ])
    refine wpAnyH_take (i := 7) (oi := { dst := some 25, op := Go.Op.fieldAddr 27 (Go.Operand.tmp 24) 7, type := 0, pos := "msg.go:144", after := #[{ on := 6, ground := Go.Ground.data }], guard := none }) (v := ?_) rfl (by kernel_rfl) (by kernel_rfl) (by kernel_rfl) (fun _ _ _ h => h) (Or.inl ⟨by rfl, ?_⟩) (by assumption) ?_
    rotate_left
    · intro w hSw
      (try dsimp only at hSw)
      go_simp
      (try with_reducible rfl)
    (try simp only [Act.put, List.setIfInBounds_toArray, List.set_cons_zero, List.set_cons_succ])
    refine wpAnyH_take (i := 8) (oi := { dst := some 26, op := Go.Op.fieldAddr 23 (Go.Operand.tmp 25) 1, type := 0, pos := "msg.go:144", after := #[{ on := 7, ground := Go.Ground.data }], guard := none }) (v := ?_) rfl (by kernel_rfl) (by kernel_rfl) (by kernel_rfl) (fun _ _ _ h => h) (Or.inl ⟨by rfl, ?_⟩) (by assumption) ?_
    rotate_left
    · intro w hSw
      (try dsimp only at hSw)
      go_simp
      (try with_reducible rfl)
    (try simp only [Act.put, List.setIfInBounds_toArray, List.set_cons_zero, List.set_cons_succ])
    refine wpAnyH_take (i := 10) (oi := { dst := some 28, op := Go.Op.nilCheck (Go.Operand.tmp 21), type := 49, pos := "msg.go:144", after := #[{ on := 3, ground := Go.Ground.data }], guard := none }) (v := ?_) rfl (by kernel_rfl) (by kernel_rfl) (by kernel_rfl) (fun _ _ _ h => h) (Or.inl ⟨by rfl, ?_⟩) (by assumption) ?_
    rotate_left
    · intro w hSw
      (try dsimp only at hSw)
      go_simp
      (try with_reducible rfl)
    (try simp only [Act.put, List.setIfInBounds_toArray, List.set_cons_zero, List.set_cons_succ])
    refine wpAnyH_take (i := 11) (oi := { dst := some 29, op := Go.Op.move (Go.Operand.tmp 21), type := 49, pos := "msg.go:144", after := #[{ on := 3, ground := Go.Ground.data }, { on := 10, ground := Go.Ground.data }], guard := none }) (v := ?_) rfl (by kernel_rfl) (by kernel_rfl) (by kernel_rfl) (fun _ _ _ h => h) (Or.inl ⟨by rfl, ?_⟩) (by assumption) ?_
    rotate_left
    · intro w hSw
      (try dsimp only at hSw)
      go_simp
      (try with_reducible rfl)
    (try simp only [Act.put, List.setIfInBounds_toArray, List.set_cons_zero, List.set_cons_succ])
    refine wpAnyH_ready (rs := [9]) (by kernel_rfl) (by simp) ?_
    refine AllReadyH.cons (o := { dst := some 27, op := Go.Op.load 3 (Go.Operand.tmp 26), type := 3, pos := "msg.go:144", after := #[{ on := 8, ground := Go.Ground.data }], guard := none }) rfl (fun K hK => ?_) AllReadyH.nil
    go_simp
    refine hK.out _ _ HB.out (fun hHeld2 => ?_)
    clear hK K
    (try simp only [Act.put, List.setIfInBounds_toArray, List.set_cons_zero, List.set_cons_succ])
    refine wpAnyH_ready (rs := [12]) (by kernel_rfl) (by simp) ?_
    refine AllReadyH.cons (o := { dst := some 30, op := Go.Op.call { callee := Go.Callee.invoke (Go.Operand.tmp 29) "tandem/msg.number", args := #[Go.Operand.tmp 27, Go.Operand.const (Go.Value.int Go.IntKind.i64 6), Go.Operand.const (Go.Value.int Go.IntKind.i64 1099511627776)], argTypes := #[3, 3, 3] }, type := 3, pos := "msg.go:144", after := #[{ on := 11, ground := Go.Ground.data }, { on := 9, ground := Go.Ground.data }], guard := none }) rfl (fun K hK => ?_) AllReadyH.nil
    go_simp
    refine HZ.out.mono ?_
    rintro e u2 hz
    obtain ⟨r, hr⟩ : ∃ r, r = C.o.num x1.2 cN 6 1099511627776 := ⟨_, rfl⟩
    have HQ2 : Hid (run C.o (.num .rn :: [.num .rs]) ((Mg.set m x1.1 .rt), x1.2) = (r.bind fun x => .ok (Mg.set (Mg.set m x1.1 .rt) x.1 .rn, x.2)).bind (run C.o [.num .rs])) := Lib.hid (by rw [run_pair, hr, HC.out]; rfl)
    rw [← hr] at hz
    obtain ⟨hF, hR, hin2, hmine2⟩ := HX.out
    obtain ⟨⟨hin, hmine⟩, hnb, hbg, hlt1, hB1⟩ := HI.out
    have hlt := HL2.out
    cases r with
    | no er at_ =>
      obtain ⟨rfl, hR2⟩ := hz
      refine ⟨rfl, ?_⟩
      rw [show run C.o _ (m, a) = _ from HQ1.out]
      show FldPost C w F (run C.o _ _) _ _
      rw [show run C.o _ (Mg.set m x1.1 .rt, _) = _ from HQ2.out]
      exact ⟨rfl, (Frame.of_below hB1).trans ((hR.trans (Frame.of_below ((Below.refl _ w2).drew)) (fun k hk => .inl hk)).trans hR2 hF) (fun k hk => .inl hk)⟩
    | ok x2 =>
      have hs3 := C.snum (good_of .rn) (C.snum (k := 2) (good_of .rt) hs hx1) hr.symm
      clear hr
      obtain ⟨rfl, hP⟩ := hz
      have hP3 := hP
      obtain ⟨Fv, hI2, hF2, hR2⟩ := hP3
      obtain ⟨A2, n2, c2, hd2⟩ := C.cells hI2
      have hnb2 : ¬ F2 b := fun hf => (hF b hf).elim hnb (fun h => by omega)
      have hb2 := HB.out.frame hR2 hlt hnb2
      have hc2 := (mCells_at hd2).2.1.2.1
      have hz2 := hd2.frozen 8
      have HBx := Lib.hid hb2
      have HB3 := Lib.hid (BoxAt.far (k := 8) (v := .int .i64 x2.1) hb2 hbg)
      have HL3 : Hid (b < (u2.setCell ⟨C.gm, 8, none⟩ (.int .i64 x2.1)).heap.size) := Lib.hid (by have hs : w2.heap.size ≤ u2.heap.size := hR2.size; simp [World.setCell]; omega)
      have HP3 := Lib.hid (CarPost.trans hF (hR.trans (Frame.of_below ((Below.refl _ w2).drew)) (fun k hk => .inl hk)) (CarPost.store0 C (k := 8) (v := .int .i64 x2.1) hmine2 hP (fun hI => C.set hI .rn x2.1)))
      clear hb2 hd2 hI2 hR2 hF2 hP hnb2 hin hmine hnb hbg hlt hlt1 hB1 hF hR hin2 hmine2 HZ HX hc
      refine hK.out _ _ HBx.out (fun hHeld3 => ?_)
      clear hK K hHeld
      (try simp only [Act.put, List.setIfInBounds_toArray, List.set_cons_zero, List.set_cons_succ])
      refine wpAnyH_take (i := 13) (oi := { dst := some 31, op := Go.Op.nilCheck (Go.Operand.tmp 19), type := 0, pos := "msg.go:144", after := #[{ on := 1, ground := Go.Ground.data }, { on := 0, ground := Go.Ground.phase }, { on := 1, ground := Go.Ground.phase }, { on := 2, ground := Go.Ground.phase }, { on := 3, ground := Go.Ground.phase }, { on := 4, ground := Go.Ground.phase }, { on := 5, ground := Go.Ground.phase }, { on := 6, ground := Go.Ground.phase }, { on := 7, ground := Go.Ground.phase }, { on := 8, ground := Go.Ground.phase }, { on := 9, ground := Go.Ground.phase }, { on := 10, ground := Go.Ground.phase }, { on := 11, ground := Go.Ground.phase }, { on := 12, ground := Go.Ground.phase }], guard := none }) (v := ?_) rfl (by kernel_rfl) (by kernel_rfl) (by kernel_rfl) (fun _ _ _ h => h) (Or.inl ⟨by rfl, ?_⟩) (by assumption) ?_
      rotate_left
      · intro w hSw
        (try dsimp only at hSw)
        go_simp
        (try with_reducible rfl)
      (try simp only [Act.put, List.setIfInBounds_toArray, List.set_cons_zero, List.set_cons_succ])
      refine wpAnyH_take (i := 14) (oi := { dst := some 32, op := Go.Op.fieldAddr 27 (Go.Operand.tmp 31) 7, type := 0, pos := "msg.go:144", after := #[{ on := 13, ground := Go.Ground.data }, { on := 0, ground := Go.Ground.phase }, { on := 1, ground := Go.Ground.phase }, { on := 2, ground := Go.Ground.phase }, { on := 3, ground := Go.Ground.phase }, { on := 4, ground := Go.Ground.phase }, { on := 5, ground := Go.Ground.phase }, { on := 6, ground := Go.Ground.phase }, { on := 7, ground := Go.Ground.phase }, { on := 8, ground := Go.Ground.phase }, { on := 9, ground := Go.Ground.phase }, { on := 10, ground := Go.Ground.phase }, { on := 11, ground := Go.Ground.phase }, { on := 12, ground := Go.Ground.phase }], guard := none }) (v := ?_) rfl (by kernel_rfl) (by kernel_rfl) (by kernel_rfl) (fun _ _ _ h => h) (Or.inl ⟨by rfl, ?_⟩) (by assumption) ?_
      rotate_left
      · intro w hSw
        (try dsimp only at hSw)
        go_simp
        (try with_reducible rfl)
      (try simp only [Act.put, List.setIfInBounds_toArray, List.set_cons_zero, List.set_cons_succ])
      refine wpAnyH_take (i := 15) (oi := { dst := some 33, op := Go.Op.fieldAddr 23 (Go.Operand.tmp 32) 1, type := 0, pos := "msg.go:144", after := #[{ on := 14, ground := Go.Ground.data }, { on := 0, ground := Go.Ground.phase }, { on := 1, ground := Go.Ground.phase }, { on := 2, ground := Go.Ground.phase }, { on := 3, ground := Go.Ground.phase }, { on := 4, ground := Go.Ground.phase }, { on := 5, ground := Go.Ground.phase }, { on := 6, ground := Go.Ground.phase }, { on := 7, ground := Go.Ground.phase }, { on := 8, ground := Go.Ground.phase }, { on := 9, ground := Go.Ground.phase }, { on := 10, ground := Go.Ground.phase }, { on := 11, ground := Go.Ground.phase }, { on := 12, ground := Go.Ground.phase }], guard := none }) (v := ?_) rfl (by kernel_rfl) (by kernel_rfl) (by kernel_rfl) (fun _ _ _ h => h) (Or.inl ⟨by rfl, ?_⟩) (by assumption) ?_
      rotate_left
      · intro w hSw
        (try dsimp only at hSw)
        go_simp
        (try with_reducible rfl)
      (try simp only [Act.put, List.setIfInBounds_toArray, List.set_cons_zero, List.set_cons_succ])
      refine wpAnyH_ready (rs := [16]) (by kernel_rfl) (by simp) ?_
      refine AllReadyH.cons (o := { dst := none, op := Go.Op.store 3 (Go.Operand.tmp 33) (Go.Operand.tmp 30), type := 0, pos := "msg.go:144", after := #[{ on := 15, ground := Go.Ground.data }, { on := 12, ground := Go.Ground.data }, { on := 12, ground := Go.Ground.chain }, { on := 0, ground := Go.Ground.phase }, { on := 1, ground := Go.Ground.phase }, { on := 2, ground := Go.Ground.phase }, { on := 3, ground := Go.Ground.phase }, { on := 4, ground := Go.Ground.phase }, { on := 5, ground := Go.Ground.phase }, { on := 6, ground := Go.Ground.phase }, { on := 7, ground := Go.Ground.phase }, { on := 8, ground := Go.Ground.phase }, { on := 9, ground := Go.Ground.phase }, { on := 10, ground := Go.Ground.phase }, { on := 11, ground := Go.Ground.phase }, { on := 12, ground := Go.Ground.phase }], guard := none }) rfl (fun K hK => ?_) AllReadyH.nil
      go_simp
      refine hK.out _ _ HB3.out (fun hHeld4 => ?_)
      clear hK K hHeld3
      (try simp only [Act.put, List.setIfInBounds_toArray, List.set_cons_zero, List.set_cons_succ])
      refine wpAnyH_done (by kernel_rfl) ?_ _
      clear hc2 hz2 HBx hHeld4
      revert HB3 HL3 HP3
      generalize u2.setCell ⟨C.gm, 8, none⟩ (.int .i64 x2.1) = w3
      intro HB3 HL3 HP3
      go_wp2
      obtain ⟨F3, hI, hF, hR⟩ := HP3.out
      have hId := C.step hI ((Below.refl _ w3).drew)
      obtain ⟨A, n, c, hd⟩ := C.cells hId
      have hc := (mCells_at hd).2.1.2.2.1
      have HB : Hid (BoxAt C b w3.drew) := HB3
      have z := C.cnum hId hs3 (get (Mg.set (Mg.set m x1.1 .rt) x2.1 .rn) .rs) 1 3 (good_of .rs)
      obtain ⟨cN, hcN⟩ : ∃ x, x = get (Mg.set (Mg.set m x1.1 .rt) x2.1 .rn) .rs := ⟨_, rfl⟩
      rw [← hcN] at z
      replace hc := hc.trans (show _ = some (Value.int .i64 cN) by rw [hcN]; rfl)
      have HZ := Lib.hid z
      have HX := Lib.hid (And.intro hF (And.intro hR (And.intro (C.own hId) (C.mine hId))))
      have HC := Lib.hid hcN
      clear z hF hR hI hId hd hcN
      refine wp_region_held_drew (S := BoxAt C b) (by kernel_rfl) HB.out (fun hHeld => ?_)
      unfold BoxAt at hHeld ⊢
      refine wpAnyH_take (i := 0) (oi := { dst := some 34, op := Go.Op.fieldAddr 51 (Go.Operand.tmp 1) 0, type := 0, pos := "msg.go:145", after := #[], guard := none }) (v := ?_) rfl (by kernel_rfl) (by kernel_rfl) (by kernel_rfl) (fun _ _ _ h => h) (Or.inl ⟨by rfl, ?_⟩) (by assumption) ?_
      rotate_left
      · intro w hSw
        (try dsimp only at hSw)
        go_simp
        (try with_reducible rfl)
      (try simp only [Act.put, List.setIfInBounds_toArray, List.set_cons_zero, List.set_cons_succ])
      refine wpAnyH_take (i := 1) (oi := { dst := some 35, op := Go.Op.load 47 (Go.Operand.tmp 34), type := 47, pos := "msg.go:145", after := #[{ on := 0, ground := Go.Ground.data }], guard := none }) (v := ?_) rfl (by kernel_rfl) (by kernel_rfl) (by kernel_rfl) (fun _ _ _ h => h) (Or.inl ⟨by rfl, ?_⟩) (by assumption) ?_
      rotate_left
      · intro w hSw
        (try dsimp only at hSw)
        go_simp
        (try with_reducible rfl)
      (try simp only [Act.put, List.setIfInBounds_toArray, List.set_cons_zero, List.set_cons_succ])
      refine wpAnyH_take (i := 2) (oi := { dst := some 36, op := Go.Op.fieldAddr 51 (Go.Operand.tmp 1) 1, type := 0, pos := "msg.go:145", after := #[], guard := none }) (v := ?_) rfl (by kernel_rfl) (by kernel_rfl) (by kernel_rfl) (fun _ _ _ h => h) (Or.inl ⟨by rfl, ?_⟩) (by assumption) ?_
      rotate_left
      · intro w hSw
        (try dsimp only at hSw)
        go_simp
        (try with_reducible rfl)
      (try simp only [Act.put, List.setIfInBounds_toArray, List.set_cons_zero, List.set_cons_succ])
      refine wpAnyH_take (i := 3) (oi := { dst := some 37, op := Go.Op.load 49 (Go.Operand.tmp 36), type := 49, pos := "msg.go:145", after := #[{ on := 2, ground := Go.Ground.data }], guard := none }) (v := ?_) rfl (by kernel_rfl) (by kernel_rfl) (by kernel_rfl) (fun _ _ _ h => h) (Or.inl ⟨by rfl, ?_⟩) (by assumption) ?_
      rotate_left
      · intro w hSw
        (try dsimp only at hSw)
        go_simp
        (try with_reducible rfl)
      (try simp only [Act.put, List.setIfInBounds_toArray, List.set_cons_zero, List.set_cons_succ])
      refine wpAnyH_take (i := 4) (oi := { dst := some 38, op := Go.Op.fieldAddr 51 (Go.Operand.tmp 1) 0, type := 0, pos := "msg.go:145", after := #[], guard := none }) (v := ?_) rfl (by kernel_rfl) (by kernel_rfl) (by kernel_rfl) (fun _ _ _ h => h) (Or.inl ⟨by rfl, ?_⟩) (by assumption) ?_
      rotate_left
      · intro w hSw
        (try dsimp only at hSw)
        go_simp
        (try with_reducible rfl)
      (try simp only [Act.put, List.setIfInBounds_toArray, List.set_cons_zero, List.set_cons_succ])
      refine wpAnyH_take (i := 5) (oi := { dst := some 39, op := Go.Op.load 47 (Go.Operand.tmp 38), type := 47, pos := "msg.go:145", after := #[{ on := 4, ground := Go.Ground.data }], guard := none }) (v := ?_) rfl (by kernel_rfl) (by kernel_rfl) (by kernel_rfl) (fun _ _ _ h => h) (Or.inl ⟨by rfl, ?_⟩) (by assumption) ?_
      rotate_left
      · intro w hSw
        (try dsimp only at hSw)
        go_simp
        (try with_reducible rfl)
      (try simp only [Act.put, List.setIfInBounds_toArray, List.set_cons_zero, List.set_cons_succ])
      refine wpAnyH_take (i := 6) (oi := { dst := some 40, op := Go.Op.nilCheck (Go.Operand.tmp 39), type := 0, pos := "msg.go:145", after := #[{ on := 5, ground := Go.Ground.data }], guard := none }) (v := ?_) rfl (by kernel_rfl) (by kernel_rfl) (by kernel_rfl) (fun _ _ _ h => h) (Or.inl ⟨by rfl, ?_⟩) (by assumption) ?_
      rotate_left
      · intro w hSw
        (try dsimp only at hSw)
        go_simp
        (try with_reducible rfl)
      (try simp only [Act.put, List.setIfInBounds_toArray, List.set_cons_zero, List.set_cons_succ])
      refine wpAnyH_take (i := 7) (oi := { dst := some 41, op := Go.Op.fieldAddr 27 (Go.Operand.tmp 40) 7, type := 0, pos := "msg.go:145", after := #[{ on := 6, ground := Go.Ground.data }], guard := none }) (v := ?_) rfl (by kernel_rfl) (by kernel_rfl) (by kernel_rfl) (fun _ _ _ h => h) (Or.inl ⟨by rfl, ?_⟩) (by assumption) ?_
      rotate_left
      · intro w hSw
        (try dsimp only at hSw)
        go_simp
        (try with_reducible rfl)
      (try simp only [Act.put, List.setIfInBounds_toArray, List.set_cons_zero, List.set_cons_succ])
      refine wpAnyH_take (i := 8) (oi := { dst := some 42, op := Go.Op.fieldAddr 23 (Go.Operand.tmp 41) 2, type := 0, pos := "msg.go:145", after := #[{ on := 7, ground := Go.Ground.data }], guard := none }) (v := ?_) rfl (by kernel_rfl) (by kernel_rfl) (by kernel_rfl) (fun _ _ _ h => h) (Or.inl ⟨by rfl, ?_⟩) (by assumption) ?_
      rotate_left
      · intro w hSw
        (try dsimp only at hSw)
        go_simp
        (try with_reducible rfl)
      (try simp only [Act.put, List.setIfInBounds_toArray, List.set_cons_zero, List.set_cons_succ])
      refine wpAnyH_take (i := 10) (oi := { dst := some 44, op := Go.Op.nilCheck (Go.Operand.tmp 37), type := 49, pos := "msg.go:145", after := #[{ on := 3, ground := Go.Ground.data }], guard := none }) (v := ?_) rfl (by kernel_rfl) (by kernel_rfl) (by kernel_rfl) (fun _ _ _ h => h) (Or.inl ⟨by rfl, ?_⟩) (by assumption) ?_
      rotate_left
      · intro w hSw
        (try dsimp only at hSw)
        go_simp
        (try with_reducible rfl)
      (try simp only [Act.put, List.setIfInBounds_toArray, List.set_cons_zero, List.set_cons_succ])
      refine wpAnyH_take (i := 11) (oi := { dst := some 45, op := Go.Op.move (Go.Operand.tmp 37), type := 49, pos := "msg.go:145", after := #[{ on := 3, ground := Go.Ground.data }, { on := 10, ground := Go.Ground.data }], guard := none }) (v := ?_) rfl (by kernel_rfl) (by kernel_rfl) (by kernel_rfl) (fun _ _ _ h => h) (Or.inl ⟨by rfl, ?_⟩) (by assumption) ?_
      rotate_left
      · intro w hSw
        (try dsimp only at hSw)
        go_simp
        (try with_reducible rfl)
      (try simp only [Act.put, List.setIfInBounds_toArray, List.set_cons_zero, List.set_cons_succ])
      refine wpAnyH_ready (rs := [9]) (by kernel_rfl) (by simp) ?_
      refine AllReadyH.cons (o := { dst := some 43, op := Go.Op.load 3 (Go.Operand.tmp 42), type := 3, pos := "msg.go:145", after := #[{ on := 8, ground := Go.Ground.data }], guard := none }) rfl (fun K hK => ?_) AllReadyH.nil
      go_simp
      refine hK.out _ _ HB.out (fun hHeld2 => ?_)
      clear hK K
      (try simp only [Act.put, List.setIfInBounds_toArray, List.set_cons_zero, List.set_cons_succ])
      refine wpAnyH_ready (rs := [12]) (by kernel_rfl) (by simp) ?_
      refine AllReadyH.cons (o := { dst := some 46, op := Go.Op.call { callee := Go.Callee.invoke (Go.Operand.tmp 45) "tandem/msg.number", args := #[Go.Operand.tmp 43, Go.Operand.const (Go.Value.int Go.IntKind.i64 1), Go.Operand.const (Go.Value.int Go.IntKind.i64 3)], argTypes := #[3, 3, 3] }, type := 3, pos := "msg.go:145", after := #[{ on := 11, ground := Go.Ground.data }, { on := 9, ground := Go.Ground.data }], guard := none }) rfl (fun K hK => ?_) AllReadyH.nil
      go_simp
      refine HZ.out.mono ?_
      rintro e u3 hz
      obtain ⟨r, hr⟩ : ∃ r, r = C.o.num x2.2 cN 1 3 := ⟨_, rfl⟩
      have HQ3 : Hid (run C.o (.num .rs :: []) ((Mg.set (Mg.set m x1.1 .rt) x2.1 .rn), x2.2) = (r.bind fun x => .ok (Mg.set (Mg.set (Mg.set m x1.1 .rt) x2.1 .rn) x.1 .rs, x.2)).bind (run C.o [])) := Lib.hid (by rw [run_pair, hr, HC.out]; rfl)
      rw [← hr] at hz
      obtain ⟨hF, hR, hin2, hmine2⟩ := HX.out
      obtain ⟨⟨hin, hmine⟩, hnb, hbg, hlt1, hB1⟩ := HI.out
      have hlt := HL3.out
      cases r with
      | no er at_ =>
        obtain ⟨rfl, hR2⟩ := hz
        refine ⟨rfl, ?_⟩
        rw [show run C.o _ (m, a) = _ from HQ1.out]
        show FldPost C w F (run C.o _ _) _ _
        rw [show run C.o _ (Mg.set m x1.1 .rt, _) = _ from HQ2.out]
        show FldPost C w F (run C.o _ _) _ _
        rw [show run C.o _ (Mg.set (Mg.set m x1.1 .rt) x2.1 .rn, _) = _ from HQ3.out]
        exact ⟨rfl, (Frame.of_below hB1).trans ((hR.trans (Frame.of_below ((Below.refl _ w3).drew)) (fun k hk => .inl hk)).trans hR2 hF) (fun k hk => .inl hk)⟩
      | ok x3 =>
        clear hr
        obtain ⟨rfl, hP⟩ := hz
        have hP3 := hP
        obtain ⟨Fv, hI2, hF2, hR2⟩ := hP3
        obtain ⟨A2, n2, c2, hd2⟩ := C.cells hI2
        have hnb2 : ¬ F3 b := fun hf => (hF b hf).elim hnb (fun h => by omega)
        have hb2 := HB.out.frame hR2 hlt hnb2
        have hc2 := (mCells_at hd2).2.1.2.2.1
        have hz2 := hd2.frozen 9
        have HBx := Lib.hid hb2
        have HB4 := Lib.hid (BoxAt.far (k := 9) (v := .int .i64 x3.1) hb2 hbg)
        have HL4 : Hid (b < (u3.setCell ⟨C.gm, 9, none⟩ (.int .i64 x3.1)).heap.size) := Lib.hid (by have hs : w3.heap.size ≤ u3.heap.size := hR2.size; simp [World.setCell]; omega)
        have HP4 := Lib.hid (CarPost.trans hF (hR.trans (Frame.of_below ((Below.refl _ w3).drew)) (fun k hk => .inl hk)) (CarPost.store0 C (k := 9) (v := .int .i64 x3.1) hmine2 hP (fun hI => C.set hI .rs x3.1)))
        clear hb2 hd2 hI2 hR2 hF2 hP hnb2 hin hmine hnb hbg hlt hlt1 hB1 hF hR hin2 hmine2 HZ HX hc
        refine hK.out _ _ HBx.out (fun hHeld3 => ?_)
        clear hK K hHeld
        (try simp only [Act.put, List.setIfInBounds_toArray, List.set_cons_zero, List.set_cons_succ])
        refine wpAnyH_take (i := 13) (oi := { dst := some 47, op := Go.Op.nilCheck (Go.Operand.tmp 35), type := 0, pos := "msg.go:145", after := #[{ on := 1, ground := Go.Ground.data }, { on := 0, ground := Go.Ground.phase }, { on := 1, ground := Go.Ground.phase }, { on := 2, ground := Go.Ground.phase }, { on := 3, ground := Go.Ground.phase }, { on := 4, ground := Go.Ground.phase }, { on := 5, ground := Go.Ground.phase }, { on := 6, ground := Go.Ground.phase }, { on := 7, ground := Go.Ground.phase }, { on := 8, ground := Go.Ground.phase }, { on := 9, ground := Go.Ground.phase }, { on := 10, ground := Go.Ground.phase }, { on := 11, ground := Go.Ground.phase }, { on := 12, ground := Go.Ground.phase }], guard := none }) (v := ?_) rfl (by kernel_rfl) (by kernel_rfl) (by kernel_rfl) (fun _ _ _ h => h) (Or.inl ⟨by rfl, ?_⟩) (by assumption) ?_
        rotate_left
        · intro w hSw
          (try dsimp only at hSw)
          go_simp
          (try with_reducible rfl)
        (try simp only [Act.put, List.setIfInBounds_toArray, List.set_cons_zero, List.set_cons_succ])
        refine wpAnyH_take (i := 14) (oi := { dst := some 48, op := Go.Op.fieldAddr 27 (Go.Operand.tmp 47) 7, type := 0, pos := "msg.go:145", after := #[{ on := 13, ground := Go.Ground.data }, { on := 0, ground := Go.Ground.phase }, { on := 1, ground := Go.Ground.phase }, { on := 2, ground := Go.Ground.phase }, { on := 3, ground := Go.Ground.phase }, { on := 4, ground := Go.Ground.phase }, { on := 5, ground := Go.Ground.phase }, { on := 6, ground := Go.Ground.phase }, { on := 7, ground := Go.Ground.phase }, { on := 8, ground := Go.Ground.phase }, { on := 9, ground := Go.Ground.phase }, { on := 10, ground := Go.Ground.phase }, { on := 11, ground := Go.Ground.phase }, { on := 12, ground := Go.Ground.phase }], guard := none }) (v := ?_) rfl (by kernel_rfl) (by kernel_rfl) (by kernel_rfl) (fun _ _ _ h => h) (Or.inl ⟨by rfl, ?_⟩) (by assumption) ?_
        rotate_left
        · intro w hSw
          (try dsimp only at hSw)
          go_simp
          (try with_reducible rfl)
        (try simp only [Act.put, List.setIfInBounds_toArray, List.set_cons_zero, List.set_cons_succ])
        refine wpAnyH_take (i := 15) (oi := { dst := some 49, op := Go.Op.fieldAddr 23 (Go.Operand.tmp 48) 2, type := 0, pos := "msg.go:145", after := #[{ on := 14, ground := Go.Ground.data }, { on := 0, ground := Go.Ground.phase }, { on := 1, ground := Go.Ground.phase }, { on := 2, ground := Go.Ground.phase }, { on := 3, ground := Go.Ground.phase }, { on := 4, ground := Go.Ground.phase }, { on := 5, ground := Go.Ground.phase }, { on := 6, ground := Go.Ground.phase }, { on := 7, ground := Go.Ground.phase }, { on := 8, ground := Go.Ground.phase }, { on := 9, ground := Go.Ground.phase }, { on := 10, ground := Go.Ground.phase }, { on := 11, ground := Go.Ground.phase }, { on := 12, ground := Go.Ground.phase }], guard := none }) (v := ?_) rfl (by kernel_rfl) (by kernel_rfl) (by kernel_rfl) (fun _ _ _ h => h) (Or.inl ⟨by rfl, ?_⟩) (by assumption) ?_
        rotate_left
        · intro w hSw
          (try dsimp only at hSw)
          go_simp
          (try with_reducible rfl)
        (try simp only [Act.put, List.setIfInBounds_toArray, List.set_cons_zero, List.set_cons_succ])
        refine wpAnyH_ready (rs := [16]) (by kernel_rfl) (by simp) ?_
        refine AllReadyH.cons (o := { dst := none, op := Go.Op.store 3 (Go.Operand.tmp 49) (Go.Operand.tmp 46), type := 0, pos := "msg.go:145", after := #[{ on := 15, ground := Go.Ground.data }, { on := 12, ground := Go.Ground.data }, { on := 12, ground := Go.Ground.chain }, { on := 0, ground := Go.Ground.phase }, { on := 1, ground := Go.Ground.phase }, { on := 2, ground := Go.Ground.phase }, { on := 3, ground := Go.Ground.phase }, { on := 4, ground := Go.Ground.phase }, { on := 5, ground := Go.Ground.phase }, { on := 6, ground := Go.Ground.phase }, { on := 7, ground := Go.Ground.phase }, { on := 8, ground := Go.Ground.phase }, { on := 9, ground := Go.Ground.phase }, { on := 10, ground := Go.Ground.phase }, { on := 11, ground := Go.Ground.phase }, { on := 12, ground := Go.Ground.phase }], guard := none }) rfl (fun K hK => ?_) AllReadyH.nil
        go_simp
        refine hK.out _ _ HB4.out (fun hHeld4 => ?_)
        clear hK K hHeld3
        (try simp only [Act.put, List.setIfInBounds_toArray, List.set_cons_zero, List.set_cons_succ])
        refine wpAnyH_done (by kernel_rfl) ?_ _
        clear hc2 hz2 HBx hHeld4
        go_end0
        rw [show run C.o _ (m, a) = _ from HQ1.out]
        show FldPost C w F (run C.o _ _) _ _
        rw [show run C.o _ (Mg.set m x1.1 .rt, _) = _ from HQ2.out]
        show FldPost C w F (run C.o _ _) _ _
        rw [show run C.o _ (Mg.set (Mg.set m x1.1 .rt) x2.1 .rn, _) = _ from HQ3.out]
        exact ⟨rfl, CarPost.first HI.out.2.2.2.2 HP4.out⟩
set_option maxRecDepth 100000 in
set_option maxHeartbeats 2000000 in
theorem fld_term (C : Carr α) (h : C.Inv w F m a) (hs : C.small 3 a) : Calls Try.prog 38 #[C.val] w (FldPost C w F (run C.o [.num .term] (m, a))) := by
  have B1 : Below w.heap.size w (w.alloc (.cells #[.pointer (some ⟨C.gm, 0, none⟩), .iface C.T C.p] 51)) := (Below.refl _ w).alloc (Nat.le_refl _) _
  have hb : BoxAt C w.heap.size (w.alloc (.cells #[.pointer (some ⟨C.gm, 0, none⟩), .iface C.T C.p] 51)) := box_new C w
  have hlt : w.heap.size < (w.alloc (.cells #[.pointer (some ⟨C.gm, 0, none⟩), .iface C.T C.p] 51)).heap.size := by simp
  have hs1 := C.less (C.less hs)
  have hin := C.own h
  have hmine := C.mine h
  have hP : CarPost (fun w F (s : M × α) => C.Inv w F s.1 s.2) (w.alloc (.cells #[.pointer (some ⟨C.gm, 0, none⟩), .iface C.T C.p] 51)) F (m, a) (w.alloc (.cells #[.pointer (some ⟨C.gm, 0, none⟩), .iface C.T C.p] 51)) := ⟨F, C.step h B1, fun k hk => .inl hk, Frame.refl _ _⟩
  have hm1 := C.mnum
  have hm2 := C.mlon
  have hm3 := C.mbyt
  have hfn1 := C.fnum
  have hfn2 := C.flon
  have hfn3 := C.fbyt
  obtain ⟨b, hbe⟩ : ∃ x, x = w.heap.size := ⟨_, rfl⟩
  obtain ⟨w1, hw1⟩ : ∃ x, x = w.alloc (.cells #[.pointer (some ⟨C.gm, 0, none⟩), .iface C.T C.p] 51) := ⟨_, rfl⟩
  rw [← hw1] at hb hlt hP B1
  rw [← hbe] at hb hlt
  have hnb : ¬ F b := fun hf => by have := hin _ hf; omega
  have hbg : b ≠ C.gm := fun e => hnb (e ▸ hmine)
  have HI := Lib.hid (And.intro (And.intro hin hmine) (And.intro hnb (And.intro hbg (And.intro hlt B1))))
  have HP1 := Lib.hid hP
  have HL1 := Lib.hid hlt
  have HB1 := Lib.hid hb
  clear B1 hin hmine hnb hbg hP hlt hb
  unfold Carr.val
  go_enter Try.func38, Try.ntmps38
  go_wp2
  rw [← hw1, ← hbe]
  clear hw1 hbe
  obtain ⟨F1, hI, hF, hR⟩ := HP1.out
  have hId := C.step hI ((Below.refl _ w1).drew)
  obtain ⟨A, n, c, hd⟩ := C.cells hId
  have hc := (mCells_at hd).1.1
  have HB : Hid (BoxAt C b w1.drew) := HB1
  have z := C.cnum hId hs1 (get m .term) 6 1099511627776 (good_of .term)
  obtain ⟨cN, hcN⟩ : ∃ x, x = get m .term := ⟨_, rfl⟩
  rw [← hcN] at z
  replace hc := hc.trans (show _ = some (Value.int .i64 cN) by rw [hcN]; rfl)
  have HZ := Lib.hid z
  have HX := Lib.hid (And.intro hF (And.intro hR (And.intro (C.own hId) (C.mine hId))))
  have HC := Lib.hid hcN
  clear z hF hR hI hId hd hcN
  refine wp_region_held_drew (S := BoxAt C b) (by kernel_rfl) HB.out (fun hHeld => ?_)
  unfold BoxAt at hHeld ⊢
  refine wpAnyH_take (i := 0) (oi := { dst := some 2, op := Go.Op.fieldAddr 51 (Go.Operand.tmp 1) 0, type := 0, pos := "msg.go:126", after := #[], guard := none }) (v := ?_) rfl (by kernel_rfl) (by kernel_rfl) (by kernel_rfl) (fun _ _ _ h => h) (Or.inl ⟨by rfl, ?_⟩) (by assumption) ?_
  rotate_left
  · intro w hSw
    (try dsimp only at hSw)
    go_simp
    (try with_reducible rfl)
  (try simp only [Act.put, List.setIfInBounds_toArray, List.set_cons_zero, List.set_cons_succ])
  refine wpAnyH_take (i := 1) (oi := { dst := some 3, op := Go.Op.load 47 (Go.Operand.tmp 2), type := 47, pos := "msg.go:126", after := #[{ on := 0, ground := Go.Ground.data }], guard := none }) (v := ?_) rfl (by kernel_rfl) (by kernel_rfl) (by kernel_rfl) (fun _ _ _ h => h) (Or.inl ⟨by rfl, ?_⟩) (by assumption) ?_
  rotate_left
  · intro w hSw
    (try dsimp only at hSw)
    go_simp
    (try with_reducible rfl)
  (try simp only [Act.put, List.setIfInBounds_toArray, List.set_cons_zero, List.set_cons_succ])
  refine wpAnyH_take (i := 2) (oi := { dst := some 4, op := Go.Op.fieldAddr 51 (Go.Operand.tmp 1) 1, type := 0, pos := "msg.go:126", after := #[], guard := none }) (v := ?_) rfl (by kernel_rfl) (by kernel_rfl) (by kernel_rfl) (fun _ _ _ h => h) (Or.inl ⟨by rfl, ?_⟩) (by assumption) ?_
  rotate_left
  · intro w hSw
    (try dsimp only at hSw)
    go_simp
    (try with_reducible rfl)
  (try simp only [Act.put, List.setIfInBounds_toArray, List.set_cons_zero, List.set_cons_succ])
  refine wpAnyH_take (i := 3) (oi := { dst := some 5, op := Go.Op.load 49 (Go.Operand.tmp 4), type := 49, pos := "msg.go:126", after := #[{ on := 2, ground := Go.Ground.data }], guard := none }) (v := ?_) rfl (by kernel_rfl) (by kernel_rfl) (by kernel_rfl) (fun _ _ _ h => h) (Or.inl ⟨by rfl, ?_⟩) (by assumption) ?_
  rotate_left
  · intro w hSw
    (try dsimp only at hSw)
    go_simp
    (try with_reducible rfl)
  (try simp only [Act.put, List.setIfInBounds_toArray, List.set_cons_zero, List.set_cons_succ])
  refine wpAnyH_take (i := 4) (oi := { dst := some 6, op := Go.Op.fieldAddr 51 (Go.Operand.tmp 1) 0, type := 0, pos := "msg.go:126", after := #[], guard := none }) (v := ?_) rfl (by kernel_rfl) (by kernel_rfl) (by kernel_rfl) (fun _ _ _ h => h) (Or.inl ⟨by rfl, ?_⟩) (by assumption) ?_
  rotate_left
  · intro w hSw
    (try dsimp only at hSw)
    go_simp
    (try with_reducible rfl)
  (try simp only [Act.put, List.setIfInBounds_toArray, List.set_cons_zero, List.set_cons_succ])
  refine wpAnyH_take (i := 5) (oi := { dst := some 7, op := Go.Op.load 47 (Go.Operand.tmp 6), type := 47, pos := "msg.go:126", after := #[{ on := 4, ground := Go.Ground.data }], guard := none }) (v := ?_) rfl (by kernel_rfl) (by kernel_rfl) (by kernel_rfl) (fun _ _ _ h => h) (Or.inl ⟨by rfl, ?_⟩) (by assumption) ?_
  rotate_left
  · intro w hSw
    (try dsimp only at hSw)
    go_simp
    (try with_reducible rfl)
  (try simp only [Act.put, List.setIfInBounds_toArray, List.set_cons_zero, List.set_cons_succ])
  refine wpAnyH_take (i := 6) (oi := { dst := some 8, op := Go.Op.nilCheck (Go.Operand.tmp 7), type := 0, pos := "msg.go:126", after := #[{ on := 5, ground := Go.Ground.data }], guard := none }) (v := ?_) rfl (by kernel_rfl) (by kernel_rfl) (by kernel_rfl) (fun _ _ _ h => h) (Or.inl ⟨by rfl, ?_⟩) (by assumption) ?_
  rotate_left
  · intro w hSw
    (try dsimp only at hSw)
    go_simp
    (try with_reducible rfl)
  (try simp only [Act.put, List.setIfInBounds_toArray, List.set_cons_zero, List.set_cons_succ])
  refine wpAnyH_take (i := 7) (oi := { dst := some 9, op := Go.Op.fieldAddr 27 (Go.Operand.tmp 8) 2, type := 0, pos := "msg.go:126", after := #[{ on := 6, ground := Go.Ground.data }], guard := none }) (v := ?_) rfl (by kernel_rfl) (by kernel_rfl) (by kernel_rfl) (fun _ _ _ h => h) (Or.inl ⟨by rfl, ?_⟩) (by assumption) ?_
  rotate_left
  · intro w hSw
    (try dsimp only at hSw)
    go_simp
    (try with_reducible rfl)
  (try simp only [Act.put, List.setIfInBounds_toArray, List.set_cons_zero, List.set_cons_succ])
  refine wpAnyH_take (i := 9) (oi := { dst := some 11, op := Go.Op.nilCheck (Go.Operand.tmp 5), type := 49, pos := "msg.go:126", after := #[{ on := 3, ground := Go.Ground.data }], guard := none }) (v := ?_) rfl (by kernel_rfl) (by kernel_rfl) (by kernel_rfl) (fun _ _ _ h => h) (Or.inl ⟨by rfl, ?_⟩) (by assumption) ?_
  rotate_left
  · intro w hSw
    (try dsimp only at hSw)
    go_simp
    (try with_reducible rfl)
  (try simp only [Act.put, List.setIfInBounds_toArray, List.set_cons_zero, List.set_cons_succ])
  refine wpAnyH_take (i := 10) (oi := { dst := some 12, op := Go.Op.move (Go.Operand.tmp 5), type := 49, pos := "msg.go:126", after := #[{ on := 3, ground := Go.Ground.data }, { on := 9, ground := Go.Ground.data }], guard := none }) (v := ?_) rfl (by kernel_rfl) (by kernel_rfl) (by kernel_rfl) (fun _ _ _ h => h) (Or.inl ⟨by rfl, ?_⟩) (by assumption) ?_
  rotate_left
  · intro w hSw
    (try dsimp only at hSw)
    go_simp
    (try with_reducible rfl)
  (try simp only [Act.put, List.setIfInBounds_toArray, List.set_cons_zero, List.set_cons_succ])
  refine wpAnyH_ready (rs := [8]) (by kernel_rfl) (by simp) ?_
  refine AllReadyH.cons (o := { dst := some 10, op := Go.Op.load 3 (Go.Operand.tmp 9), type := 3, pos := "msg.go:126", after := #[{ on := 7, ground := Go.Ground.data }], guard := none }) rfl (fun K hK => ?_) AllReadyH.nil
  go_simp
  refine hK.out _ _ HB.out (fun hHeld2 => ?_)
  clear hK K
  (try simp only [Act.put, List.setIfInBounds_toArray, List.set_cons_zero, List.set_cons_succ])
  refine wpAnyH_ready (rs := [11]) (by kernel_rfl) (by simp) ?_
  refine AllReadyH.cons (o := { dst := some 13, op := Go.Op.call { callee := Go.Callee.invoke (Go.Operand.tmp 12) "tandem/msg.number", args := #[Go.Operand.tmp 10, Go.Operand.const (Go.Value.int Go.IntKind.i64 6), Go.Operand.const (Go.Value.int Go.IntKind.i64 1099511627776)], argTypes := #[3, 3, 3] }, type := 3, pos := "msg.go:126", after := #[{ on := 10, ground := Go.Ground.data }, { on := 8, ground := Go.Ground.data }], guard := none }) rfl (fun K hK => ?_) AllReadyH.nil
  go_simp
  refine HZ.out.mono ?_
  rintro e u1 hz
  obtain ⟨r, hr⟩ : ∃ r, r = C.o.num a cN 6 1099511627776 := ⟨_, rfl⟩
  have HQ1 : Hid (run C.o (.num .term :: []) (m, a) = (r.bind fun x => .ok (Mg.set m x.1 .term, x.2)).bind (run C.o [])) := Lib.hid (by rw [run_pair, hr, HC.out]; rfl)
  rw [← hr] at hz
  obtain ⟨hF, hR, hin2, hmine2⟩ := HX.out
  obtain ⟨⟨hin, hmine⟩, hnb, hbg, hlt1, hB1⟩ := HI.out
  have hlt := HL1.out
  cases r with
  | no er at_ =>
    obtain ⟨rfl, hR2⟩ := hz
    refine ⟨rfl, ?_⟩
    rw [show run C.o _ (m, a) = _ from HQ1.out]
    exact ⟨rfl, (Frame.of_below hB1).trans ((hR.trans (Frame.of_below ((Below.refl _ w1).drew)) (fun k hk => .inl hk)).trans hR2 hF) (fun k hk => .inl hk)⟩
  | ok x1 =>
    clear hr
    obtain ⟨rfl, hP⟩ := hz
    have hP3 := hP
    obtain ⟨Fv, hI2, hF2, hR2⟩ := hP3
    obtain ⟨A2, n2, c2, hd2⟩ := C.cells hI2
    have hnb2 : ¬ F1 b := fun hf => (hF b hf).elim hnb (fun h => by omega)
    have hb2 := HB.out.frame hR2 hlt hnb2
    have hc2 := (mCells_at hd2).1.1
    have hz2 := hd2.frozen 2
    have HBx := Lib.hid hb2
    have HB2 := Lib.hid (BoxAt.far (k := 2) (v := .int .i64 x1.1) hb2 hbg)
    have HL2 : Hid (b < (u1.setCell ⟨C.gm, 2, none⟩ (.int .i64 x1.1)).heap.size) := Lib.hid (by have hs : w1.heap.size ≤ u1.heap.size := hR2.size; simp [World.setCell]; omega)
    have HP2 := Lib.hid (CarPost.trans hF (hR.trans (Frame.of_below ((Below.refl _ w1).drew)) (fun k hk => .inl hk)) (CarPost.store0 C (k := 2) (v := .int .i64 x1.1) hmine2 hP (fun hI => C.set hI .term x1.1)))
    clear hb2 hd2 hI2 hR2 hF2 hP hnb2 hin hmine hnb hbg hlt hlt1 hB1 hF hR hin2 hmine2 HZ HX hc
    refine hK.out _ _ HBx.out (fun hHeld3 => ?_)
    clear hK K hHeld
    (try simp only [Act.put, List.setIfInBounds_toArray, List.set_cons_zero, List.set_cons_succ])
    refine wpAnyH_take (i := 12) (oi := { dst := some 14, op := Go.Op.nilCheck (Go.Operand.tmp 3), type := 0, pos := "msg.go:126", after := #[{ on := 1, ground := Go.Ground.data }, { on := 0, ground := Go.Ground.phase }, { on := 1, ground := Go.Ground.phase }, { on := 2, ground := Go.Ground.phase }, { on := 3, ground := Go.Ground.phase }, { on := 4, ground := Go.Ground.phase }, { on := 5, ground := Go.Ground.phase }, { on := 6, ground := Go.Ground.phase }, { on := 7, ground := Go.Ground.phase }, { on := 8, ground := Go.Ground.phase }, { on := 9, ground := Go.Ground.phase }, { on := 10, ground := Go.Ground.phase }, { on := 11, ground := Go.Ground.phase }], guard := none }) (v := ?_) rfl (by kernel_rfl) (by kernel_rfl) (by kernel_rfl) (fun _ _ _ h => h) (Or.inl ⟨by rfl, ?_⟩) (by assumption) ?_
    rotate_left
    · intro w hSw
      (try dsimp only at hSw)
      go_simp
      (try with_reducible rfl)
    (try simp only [Act.put, List.setIfInBounds_toArray, List.set_cons_zero, List.set_cons_succ])
    refine wpAnyH_take (i := 13) (oi := { dst := some 15, op := Go.Op.fieldAddr 27 (Go.Operand.tmp 14) 2, type := 0, pos := "msg.go:126", after := #[{ on := 12, ground := Go.Ground.data }, { on := 0, ground := Go.Ground.phase }, { on := 1, ground := Go.Ground.phase }, { on := 2, ground := Go.Ground.phase }, { on := 3, ground := Go.Ground.phase }, { on := 4, ground := Go.Ground.phase }, { on := 5, ground := Go.Ground.phase }, { on := 6, ground := Go.Ground.phase }, { on := 7, ground := Go.Ground.phase }, { on := 8, ground := Go.Ground.phase }, { on := 9, ground := Go.Ground.phase }, { on := 10, ground := Go.Ground.phase }, { on := 11, ground := Go.Ground.phase }], guard := none }) (v := ?_) rfl (by kernel_rfl) (by kernel_rfl) (by kernel_rfl) (fun _ _ _ h => h) (Or.inl ⟨by rfl, ?_⟩) (by assumption) ?_
    rotate_left
    · intro w hSw
      (try dsimp only at hSw)
      go_simp
      (try with_reducible rfl)
    (try simp only [Act.put, List.setIfInBounds_toArray, List.set_cons_zero, List.set_cons_succ])
    refine wpAnyH_ready (rs := [14]) (by kernel_rfl) (by simp) ?_
    refine AllReadyH.cons (o := { dst := none, op := Go.Op.store 3 (Go.Operand.tmp 15) (Go.Operand.tmp 13), type := 0, pos := "msg.go:126", after := #[{ on := 13, ground := Go.Ground.data }, { on := 11, ground := Go.Ground.data }, { on := 11, ground := Go.Ground.chain }, { on := 0, ground := Go.Ground.phase }, { on := 1, ground := Go.Ground.phase }, { on := 2, ground := Go.Ground.phase }, { on := 3, ground := Go.Ground.phase }, { on := 4, ground := Go.Ground.phase }, { on := 5, ground := Go.Ground.phase }, { on := 6, ground := Go.Ground.phase }, { on := 7, ground := Go.Ground.phase }, { on := 8, ground := Go.Ground.phase }, { on := 9, ground := Go.Ground.phase }, { on := 10, ground := Go.Ground.phase }, { on := 11, ground := Go.Ground.phase }], guard := none }) rfl (fun K hK => ?_) AllReadyH.nil
    go_simp
    refine hK.out _ _ HB2.out (fun hHeld4 => ?_)
    clear hK K hHeld3
    (try simp only [Act.put, List.setIfInBounds_toArray, List.set_cons_zero, List.set_cons_succ])
    refine wpAnyH_done (by kernel_rfl) ?_ _
    clear hc2 hz2 HBx hHeld4
    go_end0
    rw [show run C.o _ (m, a) = _ from HQ1.out]
    exact ⟨rfl, CarPost.first HI.out.2.2.2.2 HP2.out⟩
set_option maxRecDepth 100000 in
set_option maxHeartbeats 2000000 in
theorem fld_seq (C : Carr α) (h : C.Inv w F m a) (hs : C.small 3 a) : Calls Try.prog 42 #[C.val] w (FldPost C w F (run C.o [.num .seq] (m, a))) := by
  have B1 : Below w.heap.size w (w.alloc (.cells #[.pointer (some ⟨C.gm, 0, none⟩), .iface C.T C.p] 51)) := (Below.refl _ w).alloc (Nat.le_refl _) _
  have hb : BoxAt C w.heap.size (w.alloc (.cells #[.pointer (some ⟨C.gm, 0, none⟩), .iface C.T C.p] 51)) := box_new C w
  have hlt : w.heap.size < (w.alloc (.cells #[.pointer (some ⟨C.gm, 0, none⟩), .iface C.T C.p] 51)).heap.size := by simp
  have hs1 := C.less (C.less hs)
  have hin := C.own h
  have hmine := C.mine h
  have hP : CarPost (fun w F (s : M × α) => C.Inv w F s.1 s.2) (w.alloc (.cells #[.pointer (some ⟨C.gm, 0, none⟩), .iface C.T C.p] 51)) F (m, a) (w.alloc (.cells #[.pointer (some ⟨C.gm, 0, none⟩), .iface C.T C.p] 51)) := ⟨F, C.step h B1, fun k hk => .inl hk, Frame.refl _ _⟩
  have hm1 := C.mnum
  have hm2 := C.mlon
  have hm3 := C.mbyt
  have hfn1 := C.fnum
  have hfn2 := C.flon
  have hfn3 := C.fbyt
  obtain ⟨b, hbe⟩ : ∃ x, x = w.heap.size := ⟨_, rfl⟩
  obtain ⟨w1, hw1⟩ : ∃ x, x = w.alloc (.cells #[.pointer (some ⟨C.gm, 0, none⟩), .iface C.T C.p] 51) := ⟨_, rfl⟩
  rw [← hw1] at hb hlt hP B1
  rw [← hbe] at hb hlt
  have hnb : ¬ F b := fun hf => by have := hin _ hf; omega
  have hbg : b ≠ C.gm := fun e => hnb (e ▸ hmine)
  have HI := Lib.hid (And.intro (And.intro hin hmine) (And.intro hnb (And.intro hbg (And.intro hlt B1))))
  have HP1 := Lib.hid hP
  have HL1 := Lib.hid hlt
  have HB1 := Lib.hid hb
  clear B1 hin hmine hnb hbg hP hlt hb
  unfold Carr.val
  go_enter Try.func42, Try.ntmps42
  go_wp2
  rw [← hw1, ← hbe]
  clear hw1 hbe
  obtain ⟨F1, hI, hF, hR⟩ := HP1.out
  have hId := C.step hI ((Below.refl _ w1).drew)
  obtain ⟨A, n, c, hd⟩ := C.cells hId
  have hc := (mCells_at hd).1.2.1
  have HB : Hid (BoxAt C b w1.drew) := HB1
  have z := C.cnum hId hs1 (get m .seq) 6 1099511627776 (good_of .seq)
  obtain ⟨cN, hcN⟩ : ∃ x, x = get m .seq := ⟨_, rfl⟩
  rw [← hcN] at z
  replace hc := hc.trans (show _ = some (Value.int .i64 cN) by rw [hcN]; rfl)
  have HZ := Lib.hid z
  have HX := Lib.hid (And.intro hF (And.intro hR (And.intro (C.own hId) (C.mine hId))))
  have HC := Lib.hid hcN
  clear z hF hR hI hId hd hcN
  refine wp_region_held_drew (S := BoxAt C b) (by kernel_rfl) HB.out (fun hHeld => ?_)
  unfold BoxAt at hHeld ⊢
  refine wpAnyH_take (i := 0) (oi := { dst := some 2, op := Go.Op.fieldAddr 51 (Go.Operand.tmp 1) 0, type := 0, pos := "msg.go:127", after := #[], guard := none }) (v := ?_) rfl (by kernel_rfl) (by kernel_rfl) (by kernel_rfl) (fun _ _ _ h => h) (Or.inl ⟨by rfl, ?_⟩) (by assumption) ?_
  rotate_left
  · intro w hSw
    (try dsimp only at hSw)
    go_simp
    (try with_reducible rfl)
  (try simp only [Act.put, List.setIfInBounds_toArray, List.set_cons_zero, List.set_cons_succ])
  refine wpAnyH_take (i := 1) (oi := { dst := some 3, op := Go.Op.load 47 (Go.Operand.tmp 2), type := 47, pos := "msg.go:127", after := #[{ on := 0, ground := Go.Ground.data }], guard := none }) (v := ?_) rfl (by kernel_rfl) (by kernel_rfl) (by kernel_rfl) (fun _ _ _ h => h) (Or.inl ⟨by rfl, ?_⟩) (by assumption) ?_
  rotate_left
  · intro w hSw
    (try dsimp only at hSw)
    go_simp
    (try with_reducible rfl)
  (try simp only [Act.put, List.setIfInBounds_toArray, List.set_cons_zero, List.set_cons_succ])
  refine wpAnyH_take (i := 2) (oi := { dst := some 4, op := Go.Op.fieldAddr 51 (Go.Operand.tmp 1) 1, type := 0, pos := "msg.go:127", after := #[], guard := none }) (v := ?_) rfl (by kernel_rfl) (by kernel_rfl) (by kernel_rfl) (fun _ _ _ h => h) (Or.inl ⟨by rfl, ?_⟩) (by assumption) ?_
  rotate_left
  · intro w hSw
    (try dsimp only at hSw)
    go_simp
    (try with_reducible rfl)
  (try simp only [Act.put, List.setIfInBounds_toArray, List.set_cons_zero, List.set_cons_succ])
  refine wpAnyH_take (i := 3) (oi := { dst := some 5, op := Go.Op.load 49 (Go.Operand.tmp 4), type := 49, pos := "msg.go:127", after := #[{ on := 2, ground := Go.Ground.data }], guard := none }) (v := ?_) rfl (by kernel_rfl) (by kernel_rfl) (by kernel_rfl) (fun _ _ _ h => h) (Or.inl ⟨by rfl, ?_⟩) (by assumption) ?_
  rotate_left
  · intro w hSw
    (try dsimp only at hSw)
    go_simp
    (try with_reducible rfl)
  (try simp only [Act.put, List.setIfInBounds_toArray, List.set_cons_zero, List.set_cons_succ])
  refine wpAnyH_take (i := 4) (oi := { dst := some 6, op := Go.Op.fieldAddr 51 (Go.Operand.tmp 1) 0, type := 0, pos := "msg.go:127", after := #[], guard := none }) (v := ?_) rfl (by kernel_rfl) (by kernel_rfl) (by kernel_rfl) (fun _ _ _ h => h) (Or.inl ⟨by rfl, ?_⟩) (by assumption) ?_
  rotate_left
  · intro w hSw
    (try dsimp only at hSw)
    go_simp
    (try with_reducible rfl)
  (try simp only [Act.put, List.setIfInBounds_toArray, List.set_cons_zero, List.set_cons_succ])
  refine wpAnyH_take (i := 5) (oi := { dst := some 7, op := Go.Op.load 47 (Go.Operand.tmp 6), type := 47, pos := "msg.go:127", after := #[{ on := 4, ground := Go.Ground.data }], guard := none }) (v := ?_) rfl (by kernel_rfl) (by kernel_rfl) (by kernel_rfl) (fun _ _ _ h => h) (Or.inl ⟨by rfl, ?_⟩) (by assumption) ?_
  rotate_left
  · intro w hSw
    (try dsimp only at hSw)
    go_simp
    (try with_reducible rfl)
  (try simp only [Act.put, List.setIfInBounds_toArray, List.set_cons_zero, List.set_cons_succ])
  refine wpAnyH_take (i := 6) (oi := { dst := some 8, op := Go.Op.nilCheck (Go.Operand.tmp 7), type := 0, pos := "msg.go:127", after := #[{ on := 5, ground := Go.Ground.data }], guard := none }) (v := ?_) rfl (by kernel_rfl) (by kernel_rfl) (by kernel_rfl) (fun _ _ _ h => h) (Or.inl ⟨by rfl, ?_⟩) (by assumption) ?_
  rotate_left
  · intro w hSw
    (try dsimp only at hSw)
    go_simp
    (try with_reducible rfl)
  (try simp only [Act.put, List.setIfInBounds_toArray, List.set_cons_zero, List.set_cons_succ])
  refine wpAnyH_take (i := 7) (oi := { dst := some 9, op := Go.Op.fieldAddr 27 (Go.Operand.tmp 8) 3, type := 0, pos := "msg.go:127", after := #[{ on := 6, ground := Go.Ground.data }], guard := none }) (v := ?_) rfl (by kernel_rfl) (by kernel_rfl) (by kernel_rfl) (fun _ _ _ h => h) (Or.inl ⟨by rfl, ?_⟩) (by assumption) ?_
  rotate_left
  · intro w hSw
    (try dsimp only at hSw)
    go_simp
    (try with_reducible rfl)
  (try simp only [Act.put, List.setIfInBounds_toArray, List.set_cons_zero, List.set_cons_succ])
  refine wpAnyH_take (i := 9) (oi := { dst := some 11, op := Go.Op.nilCheck (Go.Operand.tmp 5), type := 49, pos := "msg.go:127", after := #[{ on := 3, ground := Go.Ground.data }], guard := none }) (v := ?_) rfl (by kernel_rfl) (by kernel_rfl) (by kernel_rfl) (fun _ _ _ h => h) (Or.inl ⟨by rfl, ?_⟩) (by assumption) ?_
  rotate_left
  · intro w hSw
    (try dsimp only at hSw)
    go_simp
    (try with_reducible rfl)
  (try simp only [Act.put, List.setIfInBounds_toArray, List.set_cons_zero, List.set_cons_succ])
  refine wpAnyH_take (i := 10) (oi := { dst := some 12, op := Go.Op.move (Go.Operand.tmp 5), type := 49, pos := "msg.go:127", after := #[{ on := 3, ground := Go.Ground.data }, { on := 9, ground := Go.Ground.data }], guard := none }) (v := ?_) rfl (by kernel_rfl) (by kernel_rfl) (by kernel_rfl) (fun _ _ _ h => h) (Or.inl ⟨by rfl, ?_⟩) (by assumption) ?_
  rotate_left
  · intro w hSw
    (try dsimp only at hSw)
    go_simp
    (try with_reducible rfl)
  (try simp only [Act.put, List.setIfInBounds_toArray, List.set_cons_zero, List.set_cons_succ])
  refine wpAnyH_ready (rs := [8]) (by kernel_rfl) (by simp) ?_
  refine AllReadyH.cons (o := { dst := some 10, op := Go.Op.load 3 (Go.Operand.tmp 9), type := 3, pos := "msg.go:127", after := #[{ on := 7, ground := Go.Ground.data }], guard := none }) rfl (fun K hK => ?_) AllReadyH.nil
  go_simp
  refine hK.out _ _ HB.out (fun hHeld2 => ?_)
  clear hK K
  (try simp only [Act.put, List.setIfInBounds_toArray, List.set_cons_zero, List.set_cons_succ])
  refine wpAnyH_ready (rs := [11]) (by kernel_rfl) (by simp) ?_
  refine AllReadyH.cons (o := { dst := some 13, op := Go.Op.call { callee := Go.Callee.invoke (Go.Operand.tmp 12) "tandem/msg.number", args := #[Go.Operand.tmp 10, Go.Operand.const (Go.Value.int Go.IntKind.i64 6), Go.Operand.const (Go.Value.int Go.IntKind.i64 1099511627776)], argTypes := #[3, 3, 3] }, type := 3, pos := "msg.go:127", after := #[{ on := 10, ground := Go.Ground.data }, { on := 8, ground := Go.Ground.data }], guard := none }) rfl (fun K hK => ?_) AllReadyH.nil
  go_simp
  refine HZ.out.mono ?_
  rintro e u1 hz
  obtain ⟨r, hr⟩ : ∃ r, r = C.o.num a cN 6 1099511627776 := ⟨_, rfl⟩
  have HQ1 : Hid (run C.o (.num .seq :: []) (m, a) = (r.bind fun x => .ok (Mg.set m x.1 .seq, x.2)).bind (run C.o [])) := Lib.hid (by rw [run_pair, hr, HC.out]; rfl)
  rw [← hr] at hz
  obtain ⟨hF, hR, hin2, hmine2⟩ := HX.out
  obtain ⟨⟨hin, hmine⟩, hnb, hbg, hlt1, hB1⟩ := HI.out
  have hlt := HL1.out
  cases r with
  | no er at_ =>
    obtain ⟨rfl, hR2⟩ := hz
    refine ⟨rfl, ?_⟩
    rw [show run C.o _ (m, a) = _ from HQ1.out]
    exact ⟨rfl, (Frame.of_below hB1).trans ((hR.trans (Frame.of_below ((Below.refl _ w1).drew)) (fun k hk => .inl hk)).trans hR2 hF) (fun k hk => .inl hk)⟩
  | ok x1 =>
    clear hr
    obtain ⟨rfl, hP⟩ := hz
    have hP3 := hP
    obtain ⟨Fv, hI2, hF2, hR2⟩ := hP3
    obtain ⟨A2, n2, c2, hd2⟩ := C.cells hI2
    have hnb2 : ¬ F1 b := fun hf => (hF b hf).elim hnb (fun h => by omega)
    have hb2 := HB.out.frame hR2 hlt hnb2
    have hc2 := (mCells_at hd2).1.2.1
    have hz2 := hd2.frozen 3
    have HBx := Lib.hid hb2
    have HB2 := Lib.hid (BoxAt.far (k := 3) (v := .int .i64 x1.1) hb2 hbg)
    have HL2 : Hid (b < (u1.setCell ⟨C.gm, 3, none⟩ (.int .i64 x1.1)).heap.size) := Lib.hid (by have hs : w1.heap.size ≤ u1.heap.size := hR2.size; simp [World.setCell]; omega)
    have HP2 := Lib.hid (CarPost.trans hF (hR.trans (Frame.of_below ((Below.refl _ w1).drew)) (fun k hk => .inl hk)) (CarPost.store0 C (k := 3) (v := .int .i64 x1.1) hmine2 hP (fun hI => C.set hI .seq x1.1)))
    clear hb2 hd2 hI2 hR2 hF2 hP hnb2 hin hmine hnb hbg hlt hlt1 hB1 hF hR hin2 hmine2 HZ HX hc
    refine hK.out _ _ HBx.out (fun hHeld3 => ?_)
    clear hK K hHeld
    (try simp only [Act.put, List.setIfInBounds_toArray, List.set_cons_zero, List.set_cons_succ])
    refine wpAnyH_take (i := 12) (oi := { dst := some 14, op := Go.Op.nilCheck (Go.Operand.tmp 3), type := 0, pos := "msg.go:127", after := #[{ on := 1, ground := Go.Ground.data }, { on := 0, ground := Go.Ground.phase }, { on := 1, ground := Go.Ground.phase }, { on := 2, ground := Go.Ground.phase }, { on := 3, ground := Go.Ground.phase }, { on := 4, ground := Go.Ground.phase }, { on := 5, ground := Go.Ground.phase }, { on := 6, ground := Go.Ground.phase }, { on := 7, ground := Go.Ground.phase }, { on := 8, ground := Go.Ground.phase }, { on := 9, ground := Go.Ground.phase }, { on := 10, ground := Go.Ground.phase }, { on := 11, ground := Go.Ground.phase }], guard := none }) (v := ?_) rfl (by kernel_rfl) (by kernel_rfl) (by kernel_rfl) (fun _ _ _ h => h) (Or.inl ⟨by rfl, ?_⟩) (by assumption) ?_
    rotate_left
    · intro w hSw
      (try dsimp only at hSw)
      go_simp
      (try with_reducible rfl)
    (try simp only [Act.put, List.setIfInBounds_toArray, List.set_cons_zero, List.set_cons_succ])
    refine wpAnyH_take (i := 13) (oi := { dst := some 15, op := Go.Op.fieldAddr 27 (Go.Operand.tmp 14) 3, type := 0, pos := "msg.go:127", after := #[{ on := 12, ground := Go.Ground.data }, { on := 0, ground := Go.Ground.phase }, { on := 1, ground := Go.Ground.phase }, { on := 2, ground := Go.Ground.phase }, { on := 3, ground := Go.Ground.phase }, { on := 4, ground := Go.Ground.phase }, { on := 5, ground := Go.Ground.phase }, { on := 6, ground := Go.Ground.phase }, { on := 7, ground := Go.Ground.phase }, { on := 8, ground := Go.Ground.phase }, { on := 9, ground := Go.Ground.phase }, { on := 10, ground := Go.Ground.phase }, { on := 11, ground := Go.Ground.phase }], guard := none }) (v := ?_) rfl (by kernel_rfl) (by kernel_rfl) (by kernel_rfl) (fun _ _ _ h => h) (Or.inl ⟨by rfl, ?_⟩) (by assumption) ?_
    rotate_left
    · intro w hSw
      (try dsimp only at hSw)
      go_simp
      (try with_reducible rfl)
    (try simp only [Act.put, List.setIfInBounds_toArray, List.set_cons_zero, List.set_cons_succ])
    refine wpAnyH_ready (rs := [14]) (by kernel_rfl) (by simp) ?_
    refine AllReadyH.cons (o := { dst := none, op := Go.Op.store 3 (Go.Operand.tmp 15) (Go.Operand.tmp 13), type := 0, pos := "msg.go:127", after := #[{ on := 13, ground := Go.Ground.data }, { on := 11, ground := Go.Ground.data }, { on := 11, ground := Go.Ground.chain }, { on := 0, ground := Go.Ground.phase }, { on := 1, ground := Go.Ground.phase }, { on := 2, ground := Go.Ground.phase }, { on := 3, ground := Go.Ground.phase }, { on := 4, ground := Go.Ground.phase }, { on := 5, ground := Go.Ground.phase }, { on := 6, ground := Go.Ground.phase }, { on := 7, ground := Go.Ground.phase }, { on := 8, ground := Go.Ground.phase }, { on := 9, ground := Go.Ground.phase }, { on := 10, ground := Go.Ground.phase }, { on := 11, ground := Go.Ground.phase }], guard := none }) rfl (fun K hK => ?_) AllReadyH.nil
    go_simp
    refine hK.out _ _ HB2.out (fun hHeld4 => ?_)
    clear hK K hHeld3
    (try simp only [Act.put, List.setIfInBounds_toArray, List.set_cons_zero, List.set_cons_succ])
    refine wpAnyH_done (by kernel_rfl) ?_ _
    clear hc2 hz2 HBx hHeld4
    go_end0
    rw [show run C.o _ (m, a) = _ from HQ1.out]
    exact ⟨rfl, CarPost.first HI.out.2.2.2.2 HP2.out⟩
set_option maxRecDepth 100000 in
set_option maxHeartbeats 2000000 in
theorem fld_stamp (C : Carr α) (h : C.Inv w F m a) (hs : C.small 3 a) : Calls Try.prog 40 #[C.val] w (FldPost C w F (run C.o [.num .stamp] (m, a))) := by
  have B1 : Below w.heap.size w (w.alloc (.cells #[.pointer (some ⟨C.gm, 0, none⟩), .iface C.T C.p] 51)) := (Below.refl _ w).alloc (Nat.le_refl _) _
  have hb : BoxAt C w.heap.size (w.alloc (.cells #[.pointer (some ⟨C.gm, 0, none⟩), .iface C.T C.p] 51)) := box_new C w
  have hlt : w.heap.size < (w.alloc (.cells #[.pointer (some ⟨C.gm, 0, none⟩), .iface C.T C.p] 51)).heap.size := by simp
  have hs1 := C.less (C.less hs)
  have hin := C.own h
  have hmine := C.mine h
  have hP : CarPost (fun w F (s : M × α) => C.Inv w F s.1 s.2) (w.alloc (.cells #[.pointer (some ⟨C.gm, 0, none⟩), .iface C.T C.p] 51)) F (m, a) (w.alloc (.cells #[.pointer (some ⟨C.gm, 0, none⟩), .iface C.T C.p] 51)) := ⟨F, C.step h B1, fun k hk => .inl hk, Frame.refl _ _⟩
  have hm1 := C.mnum
  have hm2 := C.mlon
  have hm3 := C.mbyt
  have hfn1 := C.fnum
  have hfn2 := C.flon
  have hfn3 := C.fbyt
  obtain ⟨b, hbe⟩ : ∃ x, x = w.heap.size := ⟨_, rfl⟩
  obtain ⟨w1, hw1⟩ : ∃ x, x = w.alloc (.cells #[.pointer (some ⟨C.gm, 0, none⟩), .iface C.T C.p] 51) := ⟨_, rfl⟩
  rw [← hw1] at hb hlt hP B1
  rw [← hbe] at hb hlt
  have hnb : ¬ F b := fun hf => by have := hin _ hf; omega
  have hbg : b ≠ C.gm := fun e => hnb (e ▸ hmine)
  have HI := Lib.hid (And.intro (And.intro hin hmine) (And.intro hnb (And.intro hbg (And.intro hlt B1))))
  have HP1 := Lib.hid hP
  have HL1 := Lib.hid hlt
  have HB1 := Lib.hid hb
  clear B1 hin hmine hnb hbg hP hlt hb
  unfold Carr.val
  go_enter Try.func40, Try.ntmps40
  go_wp2
  rw [← hw1, ← hbe]
  clear hw1 hbe
  obtain ⟨F1, hI, hF, hR⟩ := HP1.out
  have hId := C.step hI ((Below.refl _ w1).drew)
  obtain ⟨A, n, c, hd⟩ := C.cells hId
  have hc := (mCells_at hd).1.2.2.1
  have HB : Hid (BoxAt C b w1.drew) := HB1
  have z := C.cnum hId hs1 (get m .stamp) 6 1099511627776 (good_of .stamp)
  obtain ⟨cN, hcN⟩ : ∃ x, x = get m .stamp := ⟨_, rfl⟩
  rw [← hcN] at z
  replace hc := hc.trans (show _ = some (Value.int .i64 cN) by rw [hcN]; rfl)
  have HZ := Lib.hid z
  have HX := Lib.hid (And.intro hF (And.intro hR (And.intro (C.own hId) (C.mine hId))))
  have HC := Lib.hid hcN
  clear z hF hR hI hId hd hcN
  refine wp_region_held_drew (S := BoxAt C b) (by kernel_rfl) HB.out (fun hHeld => ?_)
  unfold BoxAt at hHeld ⊢
  refine wpAnyH_take (i := 0) (oi := { dst := some 2, op := Go.Op.fieldAddr 51 (Go.Operand.tmp 1) 0, type := 0, pos := "msg.go:128", after := #[], guard := none }) (v := ?_) rfl (by kernel_rfl) (by kernel_rfl) (by kernel_rfl) (fun _ _ _ h => h) (Or.inl ⟨by rfl, ?_⟩) (by assumption) ?_
  rotate_left
  · intro w hSw
    (try dsimp only at hSw)
    go_simp
    (try with_reducible rfl)
  (try simp only [Act.put, List.setIfInBounds_toArray, List.set_cons_zero, List.set_cons_succ])
  refine wpAnyH_take (i := 1) (oi := { dst := some 3, op := Go.Op.load 47 (Go.Operand.tmp 2), type := 47, pos := "msg.go:128", after := #[{ on := 0, ground := Go.Ground.data }], guard := none }) (v := ?_) rfl (by kernel_rfl) (by kernel_rfl) (by kernel_rfl) (fun _ _ _ h => h) (Or.inl ⟨by rfl, ?_⟩) (by assumption) ?_
  rotate_left
  · intro w hSw
    (try dsimp only at hSw)
    go_simp
    (try with_reducible rfl)
  (try simp only [Act.put, List.setIfInBounds_toArray, List.set_cons_zero, List.set_cons_succ])
  refine wpAnyH_take (i := 2) (oi := { dst := some 4, op := Go.Op.fieldAddr 51 (Go.Operand.tmp 1) 1, type := 0, pos := "msg.go:128", after := #[], guard := none }) (v := ?_) rfl (by kernel_rfl) (by kernel_rfl) (by kernel_rfl) (fun _ _ _ h => h) (Or.inl ⟨by rfl, ?_⟩) (by assumption) ?_
  rotate_left
  · intro w hSw
    (try dsimp only at hSw)
    go_simp
    (try with_reducible rfl)
  (try simp only [Act.put, List.setIfInBounds_toArray, List.set_cons_zero, List.set_cons_succ])
  refine wpAnyH_take (i := 3) (oi := { dst := some 5, op := Go.Op.load 49 (Go.Operand.tmp 4), type := 49, pos := "msg.go:128", after := #[{ on := 2, ground := Go.Ground.data }], guard := none }) (v := ?_) rfl (by kernel_rfl) (by kernel_rfl) (by kernel_rfl) (fun _ _ _ h => h) (Or.inl ⟨by rfl, ?_⟩) (by assumption) ?_
  rotate_left
  · intro w hSw
    (try dsimp only at hSw)
    go_simp
    (try with_reducible rfl)
  (try simp only [Act.put, List.setIfInBounds_toArray, List.set_cons_zero, List.set_cons_succ])
  refine wpAnyH_take (i := 4) (oi := { dst := some 6, op := Go.Op.fieldAddr 51 (Go.Operand.tmp 1) 0, type := 0, pos := "msg.go:128", after := #[], guard := none }) (v := ?_) rfl (by kernel_rfl) (by kernel_rfl) (by kernel_rfl) (fun _ _ _ h => h) (Or.inl ⟨by rfl, ?_⟩) (by assumption) ?_
  rotate_left
  · intro w hSw
    (try dsimp only at hSw)
    go_simp
    (try with_reducible rfl)
  (try simp only [Act.put, List.setIfInBounds_toArray, List.set_cons_zero, List.set_cons_succ])
  refine wpAnyH_take (i := 5) (oi := { dst := some 7, op := Go.Op.load 47 (Go.Operand.tmp 6), type := 47, pos := "msg.go:128", after := #[{ on := 4, ground := Go.Ground.data }], guard := none }) (v := ?_) rfl (by kernel_rfl) (by kernel_rfl) (by kernel_rfl) (fun _ _ _ h => h) (Or.inl ⟨by rfl, ?_⟩) (by assumption) ?_
  rotate_left
  · intro w hSw
    (try dsimp only at hSw)
    go_simp
    (try with_reducible rfl)
  (try simp only [Act.put, List.setIfInBounds_toArray, List.set_cons_zero, List.set_cons_succ])
  refine wpAnyH_take (i := 6) (oi := { dst := some 8, op := Go.Op.nilCheck (Go.Operand.tmp 7), type := 0, pos := "msg.go:128", after := #[{ on := 5, ground := Go.Ground.data }], guard := none }) (v := ?_) rfl (by kernel_rfl) (by kernel_rfl) (by kernel_rfl) (fun _ _ _ h => h) (Or.inl ⟨by rfl, ?_⟩) (by assumption) ?_
  rotate_left
  · intro w hSw
    (try dsimp only at hSw)
    go_simp
    (try with_reducible rfl)
  (try simp only [Act.put, List.setIfInBounds_toArray, List.set_cons_zero, List.set_cons_succ])
  refine wpAnyH_take (i := 7) (oi := { dst := some 9, op := Go.Op.fieldAddr 27 (Go.Operand.tmp 8) 4, type := 0, pos := "msg.go:128", after := #[{ on := 6, ground := Go.Ground.data }], guard := none }) (v := ?_) rfl (by kernel_rfl) (by kernel_rfl) (by kernel_rfl) (fun _ _ _ h => h) (Or.inl ⟨by rfl, ?_⟩) (by assumption) ?_
  rotate_left
  · intro w hSw
    (try dsimp only at hSw)
    go_simp
    (try with_reducible rfl)
  (try simp only [Act.put, List.setIfInBounds_toArray, List.set_cons_zero, List.set_cons_succ])
  refine wpAnyH_take (i := 9) (oi := { dst := some 11, op := Go.Op.nilCheck (Go.Operand.tmp 5), type := 49, pos := "msg.go:128", after := #[{ on := 3, ground := Go.Ground.data }], guard := none }) (v := ?_) rfl (by kernel_rfl) (by kernel_rfl) (by kernel_rfl) (fun _ _ _ h => h) (Or.inl ⟨by rfl, ?_⟩) (by assumption) ?_
  rotate_left
  · intro w hSw
    (try dsimp only at hSw)
    go_simp
    (try with_reducible rfl)
  (try simp only [Act.put, List.setIfInBounds_toArray, List.set_cons_zero, List.set_cons_succ])
  refine wpAnyH_take (i := 10) (oi := { dst := some 12, op := Go.Op.move (Go.Operand.tmp 5), type := 49, pos := "msg.go:128", after := #[{ on := 3, ground := Go.Ground.data }, { on := 9, ground := Go.Ground.data }], guard := none }) (v := ?_) rfl (by kernel_rfl) (by kernel_rfl) (by kernel_rfl) (fun _ _ _ h => h) (Or.inl ⟨by rfl, ?_⟩) (by assumption) ?_
  rotate_left
  · intro w hSw
    (try dsimp only at hSw)
    go_simp
    (try with_reducible rfl)
  (try simp only [Act.put, List.setIfInBounds_toArray, List.set_cons_zero, List.set_cons_succ])
  refine wpAnyH_ready (rs := [8]) (by kernel_rfl) (by simp) ?_
  refine AllReadyH.cons (o := { dst := some 10, op := Go.Op.load 3 (Go.Operand.tmp 9), type := 3, pos := "msg.go:128", after := #[{ on := 7, ground := Go.Ground.data }], guard := none }) rfl (fun K hK => ?_) AllReadyH.nil
  go_simp
  refine hK.out _ _ HB.out (fun hHeld2 => ?_)
  clear hK K
  (try simp only [Act.put, List.setIfInBounds_toArray, List.set_cons_zero, List.set_cons_succ])
  refine wpAnyH_ready (rs := [11]) (by kernel_rfl) (by simp) ?_
  refine AllReadyH.cons (o := { dst := some 13, op := Go.Op.call { callee := Go.Callee.invoke (Go.Operand.tmp 12) "tandem/msg.number", args := #[Go.Operand.tmp 10, Go.Operand.const (Go.Value.int Go.IntKind.i64 6), Go.Operand.const (Go.Value.int Go.IntKind.i64 1099511627776)], argTypes := #[3, 3, 3] }, type := 3, pos := "msg.go:128", after := #[{ on := 10, ground := Go.Ground.data }, { on := 8, ground := Go.Ground.data }], guard := none }) rfl (fun K hK => ?_) AllReadyH.nil
  go_simp
  refine HZ.out.mono ?_
  rintro e u1 hz
  obtain ⟨r, hr⟩ : ∃ r, r = C.o.num a cN 6 1099511627776 := ⟨_, rfl⟩
  have HQ1 : Hid (run C.o (.num .stamp :: []) (m, a) = (r.bind fun x => .ok (Mg.set m x.1 .stamp, x.2)).bind (run C.o [])) := Lib.hid (by rw [run_pair, hr, HC.out]; rfl)
  rw [← hr] at hz
  obtain ⟨hF, hR, hin2, hmine2⟩ := HX.out
  obtain ⟨⟨hin, hmine⟩, hnb, hbg, hlt1, hB1⟩ := HI.out
  have hlt := HL1.out
  cases r with
  | no er at_ =>
    obtain ⟨rfl, hR2⟩ := hz
    refine ⟨rfl, ?_⟩
    rw [show run C.o _ (m, a) = _ from HQ1.out]
    exact ⟨rfl, (Frame.of_below hB1).trans ((hR.trans (Frame.of_below ((Below.refl _ w1).drew)) (fun k hk => .inl hk)).trans hR2 hF) (fun k hk => .inl hk)⟩
  | ok x1 =>
    clear hr
    obtain ⟨rfl, hP⟩ := hz
    have hP3 := hP
    obtain ⟨Fv, hI2, hF2, hR2⟩ := hP3
    obtain ⟨A2, n2, c2, hd2⟩ := C.cells hI2
    have hnb2 : ¬ F1 b := fun hf => (hF b hf).elim hnb (fun h => by omega)
    have hb2 := HB.out.frame hR2 hlt hnb2
    have hc2 := (mCells_at hd2).1.2.2.1
    have hz2 := hd2.frozen 4
    have HBx := Lib.hid hb2
    have HB2 := Lib.hid (BoxAt.far (k := 4) (v := .int .i64 x1.1) hb2 hbg)
    have HL2 : Hid (b < (u1.setCell ⟨C.gm, 4, none⟩ (.int .i64 x1.1)).heap.size) := Lib.hid (by have hs : w1.heap.size ≤ u1.heap.size := hR2.size; simp [World.setCell]; omega)
    have HP2 := Lib.hid (CarPost.trans hF (hR.trans (Frame.of_below ((Below.refl _ w1).drew)) (fun k hk => .inl hk)) (CarPost.store0 C (k := 4) (v := .int .i64 x1.1) hmine2 hP (fun hI => C.set hI .stamp x1.1)))
    clear hb2 hd2 hI2 hR2 hF2 hP hnb2 hin hmine hnb hbg hlt hlt1 hB1 hF hR hin2 hmine2 HZ HX hc
    refine hK.out _ _ HBx.out (fun hHeld3 => ?_)
    clear hK K hHeld
    (try simp only [Act.put, List.setIfInBounds_toArray, List.set_cons_zero, List.set_cons_succ])
    refine wpAnyH_take (i := 12) (oi := { dst := some 14, op := Go.Op.nilCheck (Go.Operand.tmp 3), type := 0, pos := "msg.go:128", after := #[{ on := 1, ground := Go.Ground.data }, { on := 0, ground := Go.Ground.phase }, { on := 1, ground := Go.Ground.phase }, { on := 2, ground := Go.Ground.phase }, { on := 3, ground := Go.Ground.phase }, { on := 4, ground := Go.Ground.phase }, { on := 5, ground := Go.Ground.phase }, { on := 6, ground := Go.Ground.phase }, { on := 7, ground := Go.Ground.phase }, { on := 8, ground := Go.Ground.phase }, { on := 9, ground := Go.Ground.phase }, { on := 10, ground := Go.Ground.phase }, { on := 11, ground := Go.Ground.phase }], guard := none }) (v := ?_) rfl (by kernel_rfl) (by kernel_rfl) (by kernel_rfl) (fun _ _ _ h => h) (Or.inl ⟨by rfl, ?_⟩) (by assumption) ?_
    rotate_left
    · intro w hSw
      (try dsimp only at hSw)
      go_simp
      (try with_reducible rfl)
    (try simp only [Act.put, List.setIfInBounds_toArray, List.set_cons_zero, List.set_cons_succ])
    refine wpAnyH_take (i := 13) (oi := { dst := some 15, op := Go.Op.fieldAddr 27 (Go.Operand.tmp 14) 4, type := 0, pos := "msg.go:128", after := #[{ on := 12, ground := Go.Ground.data }, { on := 0, ground := Go.Ground.phase }, { on := 1, ground := Go.Ground.phase }, { on := 2, ground := Go.Ground.phase }, { on := 3, ground := Go.Ground.phase }, { on := 4, ground := Go.Ground.phase }, { on := 5, ground := Go.Ground.phase }, { on := 6, ground := Go.Ground.phase }, { on := 7, ground := Go.Ground.phase }, { on := 8, ground := Go.Ground.phase }, { on := 9, ground := Go.Ground.phase }, { on := 10, ground := Go.Ground.phase }, { on := 11, ground := Go.Ground.phase }], guard := none }) (v := ?_) rfl (by kernel_rfl) (by kernel_rfl) (by kernel_rfl) (fun _ _ _ h => h) (Or.inl ⟨by rfl, ?_⟩) (by assumption) ?_
    rotate_left
    · intro w hSw
      (try dsimp only at hSw)
      go_simp
      (try with_reducible rfl)
    (try simp only [Act.put, List.setIfInBounds_toArray, List.set_cons_zero, List.set_cons_succ])
    refine wpAnyH_ready (rs := [14]) (by kernel_rfl) (by simp) ?_
    refine AllReadyH.cons (o := { dst := none, op := Go.Op.store 3 (Go.Operand.tmp 15) (Go.Operand.tmp 13), type := 0, pos := "msg.go:128", after := #[{ on := 13, ground := Go.Ground.data }, { on := 11, ground := Go.Ground.data }, { on := 11, ground := Go.Ground.chain }, { on := 0, ground := Go.Ground.phase }, { on := 1, ground := Go.Ground.phase }, { on := 2, ground := Go.Ground.phase }, { on := 3, ground := Go.Ground.phase }, { on := 4, ground := Go.Ground.phase }, { on := 5, ground := Go.Ground.phase }, { on := 6, ground := Go.Ground.phase }, { on := 7, ground := Go.Ground.phase }, { on := 8, ground := Go.Ground.phase }, { on := 9, ground := Go.Ground.phase }, { on := 10, ground := Go.Ground.phase }, { on := 11, ground := Go.Ground.phase }], guard := none }) rfl (fun K hK => ?_) AllReadyH.nil
    go_simp
    refine hK.out _ _ HB2.out (fun hHeld4 => ?_)
    clear hK K hHeld3
    (try simp only [Act.put, List.setIfInBounds_toArray, List.set_cons_zero, List.set_cons_succ])
    refine wpAnyH_done (by kernel_rfl) ?_ _
    clear hc2 hz2 HBx hHeld4
    go_end0
    rw [show run C.o _ (m, a) = _ from HQ1.out]
    exact ⟨rfl, CarPost.first HI.out.2.2.2.2 HP2.out⟩
set_option maxRecDepth 100000 in
set_option maxHeartbeats 2000000 in
theorem fld_block (C : Carr α) (h : C.Inv w F m a) (hs : C.small 3 a) : Calls Try.prog 43 #[C.val] w (FldPost C w F (run C.o [.num .block] (m, a))) := by
  have B1 : Below w.heap.size w (w.alloc (.cells #[.pointer (some ⟨C.gm, 0, none⟩), .iface C.T C.p] 51)) := (Below.refl _ w).alloc (Nat.le_refl _) _
  have hb : BoxAt C w.heap.size (w.alloc (.cells #[.pointer (some ⟨C.gm, 0, none⟩), .iface C.T C.p] 51)) := box_new C w
  have hlt : w.heap.size < (w.alloc (.cells #[.pointer (some ⟨C.gm, 0, none⟩), .iface C.T C.p] 51)).heap.size := by simp
  have hs1 := C.less (C.less hs)
  have hin := C.own h
  have hmine := C.mine h
  have hP : CarPost (fun w F (s : M × α) => C.Inv w F s.1 s.2) (w.alloc (.cells #[.pointer (some ⟨C.gm, 0, none⟩), .iface C.T C.p] 51)) F (m, a) (w.alloc (.cells #[.pointer (some ⟨C.gm, 0, none⟩), .iface C.T C.p] 51)) := ⟨F, C.step h B1, fun k hk => .inl hk, Frame.refl _ _⟩
  have hm1 := C.mnum
  have hm2 := C.mlon
  have hm3 := C.mbyt
  have hfn1 := C.fnum
  have hfn2 := C.flon
  have hfn3 := C.fbyt
  obtain ⟨b, hbe⟩ : ∃ x, x = w.heap.size := ⟨_, rfl⟩
  obtain ⟨w1, hw1⟩ : ∃ x, x = w.alloc (.cells #[.pointer (some ⟨C.gm, 0, none⟩), .iface C.T C.p] 51) := ⟨_, rfl⟩
  rw [← hw1] at hb hlt hP B1
  rw [← hbe] at hb hlt
  have hnb : ¬ F b := fun hf => by have := hin _ hf; omega
  have hbg : b ≠ C.gm := fun e => hnb (e ▸ hmine)
  have HI := Lib.hid (And.intro (And.intro hin hmine) (And.intro hnb (And.intro hbg (And.intro hlt B1))))
  have HP1 := Lib.hid hP
  have HL1 := Lib.hid hlt
  have HB1 := Lib.hid hb
  clear B1 hin hmine hnb hbg hP hlt hb
  unfold Carr.val
  go_enter Try.func43, Try.ntmps43
  go_wp2
  rw [← hw1, ← hbe]
  clear hw1 hbe
  obtain ⟨F1, hI, hF, hR⟩ := HP1.out
  have hId := C.step hI ((Below.refl _ w1).drew)
  obtain ⟨A, n, c, hd⟩ := C.cells hId
  have hc := (mCells_at hd).1.2.2.2.1
  have HB : Hid (BoxAt C b w1.drew) := HB1
  have z := C.cnum hId hs1 (get m .block) 1 63 (good_of .block)
  obtain ⟨cN, hcN⟩ : ∃ x, x = get m .block := ⟨_, rfl⟩
  rw [← hcN] at z
  replace hc := hc.trans (show _ = some (Value.int .i64 cN) by rw [hcN]; rfl)
  have HZ := Lib.hid z
  have HX := Lib.hid (And.intro hF (And.intro hR (And.intro (C.own hId) (C.mine hId))))
  have HC := Lib.hid hcN
  clear z hF hR hI hId hd hcN
  refine wp_region_held_drew (S := BoxAt C b) (by kernel_rfl) HB.out (fun hHeld => ?_)
  unfold BoxAt at hHeld ⊢
  refine wpAnyH_take (i := 0) (oi := { dst := some 2, op := Go.Op.fieldAddr 51 (Go.Operand.tmp 1) 0, type := 0, pos := "msg.go:129", after := #[], guard := none }) (v := ?_) rfl (by kernel_rfl) (by kernel_rfl) (by kernel_rfl) (fun _ _ _ h => h) (Or.inl ⟨by rfl, ?_⟩) (by assumption) ?_
  rotate_left
  · intro w hSw
    (try dsimp only at hSw)
    go_simp
    (try with_reducible rfl)
  (try simp only [Act.put, List.setIfInBounds_toArray, List.set_cons_zero, List.set_cons_succ])
  refine wpAnyH_take (i := 1) (oi := { dst := some 3, op := Go.Op.load 47 (Go.Operand.tmp 2), type := 47, pos := "msg.go:129", after := #[{ on := 0, ground := Go.Ground.data }], guard := none }) (v := ?_) rfl (by kernel_rfl) (by kernel_rfl) (by kernel_rfl) (fun _ _ _ h => h) (Or.inl ⟨by rfl, ?_⟩) (by assumption) ?_
  rotate_left
  · intro w hSw
    (try dsimp only at hSw)
    go_simp
    (try with_reducible rfl)
  (try simp only [Act.put, List.setIfInBounds_toArray, List.set_cons_zero, List.set_cons_succ])
  refine wpAnyH_take (i := 2) (oi := { dst := some 4, op := Go.Op.fieldAddr 51 (Go.Operand.tmp 1) 1, type := 0, pos := "msg.go:129", after := #[], guard := none }) (v := ?_) rfl (by kernel_rfl) (by kernel_rfl) (by kernel_rfl) (fun _ _ _ h => h) (Or.inl ⟨by rfl, ?_⟩) (by assumption) ?_
  rotate_left
  · intro w hSw
    (try dsimp only at hSw)
    go_simp
    (try with_reducible rfl)
  (try simp only [Act.put, List.setIfInBounds_toArray, List.set_cons_zero, List.set_cons_succ])
  refine wpAnyH_take (i := 3) (oi := { dst := some 5, op := Go.Op.load 49 (Go.Operand.tmp 4), type := 49, pos := "msg.go:129", after := #[{ on := 2, ground := Go.Ground.data }], guard := none }) (v := ?_) rfl (by kernel_rfl) (by kernel_rfl) (by kernel_rfl) (fun _ _ _ h => h) (Or.inl ⟨by rfl, ?_⟩) (by assumption) ?_
  rotate_left
  · intro w hSw
    (try dsimp only at hSw)
    go_simp
    (try with_reducible rfl)
  (try simp only [Act.put, List.setIfInBounds_toArray, List.set_cons_zero, List.set_cons_succ])
  refine wpAnyH_take (i := 4) (oi := { dst := some 6, op := Go.Op.fieldAddr 51 (Go.Operand.tmp 1) 0, type := 0, pos := "msg.go:129", after := #[], guard := none }) (v := ?_) rfl (by kernel_rfl) (by kernel_rfl) (by kernel_rfl) (fun _ _ _ h => h) (Or.inl ⟨by rfl, ?_⟩) (by assumption) ?_
  rotate_left
  · intro w hSw
    (try dsimp only at hSw)
    go_simp
    (try with_reducible rfl)
  (try simp only [Act.put, List.setIfInBounds_toArray, List.set_cons_zero, List.set_cons_succ])
  refine wpAnyH_take (i := 5) (oi := { dst := some 7, op := Go.Op.load 47 (Go.Operand.tmp 6), type := 47, pos := "msg.go:129", after := #[{ on := 4, ground := Go.Ground.data }], guard := none }) (v := ?_) rfl (by kernel_rfl) (by kernel_rfl) (by kernel_rfl) (fun _ _ _ h => h) (Or.inl ⟨by rfl, ?_⟩) (by assumption) ?_
  rotate_left
  · intro w hSw
    (try dsimp only at hSw)
    go_simp
    (try with_reducible rfl)
  (try simp only [Act.put, List.setIfInBounds_toArray, List.set_cons_zero, List.set_cons_succ])
  refine wpAnyH_take (i := 6) (oi := { dst := some 8, op := Go.Op.nilCheck (Go.Operand.tmp 7), type := 0, pos := "msg.go:129", after := #[{ on := 5, ground := Go.Ground.data }], guard := none }) (v := ?_) rfl (by kernel_rfl) (by kernel_rfl) (by kernel_rfl) (fun _ _ _ h => h) (Or.inl ⟨by rfl, ?_⟩) (by assumption) ?_
  rotate_left
  · intro w hSw
    (try dsimp only at hSw)
    go_simp
    (try with_reducible rfl)
  (try simp only [Act.put, List.setIfInBounds_toArray, List.set_cons_zero, List.set_cons_succ])
  refine wpAnyH_take (i := 7) (oi := { dst := some 9, op := Go.Op.fieldAddr 27 (Go.Operand.tmp 8) 5, type := 0, pos := "msg.go:129", after := #[{ on := 6, ground := Go.Ground.data }], guard := none }) (v := ?_) rfl (by kernel_rfl) (by kernel_rfl) (by kernel_rfl) (fun _ _ _ h => h) (Or.inl ⟨by rfl, ?_⟩) (by assumption) ?_
  rotate_left
  · intro w hSw
    (try dsimp only at hSw)
    go_simp
    (try with_reducible rfl)
  (try simp only [Act.put, List.setIfInBounds_toArray, List.set_cons_zero, List.set_cons_succ])
  refine wpAnyH_take (i := 9) (oi := { dst := some 11, op := Go.Op.nilCheck (Go.Operand.tmp 5), type := 49, pos := "msg.go:129", after := #[{ on := 3, ground := Go.Ground.data }], guard := none }) (v := ?_) rfl (by kernel_rfl) (by kernel_rfl) (by kernel_rfl) (fun _ _ _ h => h) (Or.inl ⟨by rfl, ?_⟩) (by assumption) ?_
  rotate_left
  · intro w hSw
    (try dsimp only at hSw)
    go_simp
    (try with_reducible rfl)
  (try simp only [Act.put, List.setIfInBounds_toArray, List.set_cons_zero, List.set_cons_succ])
  refine wpAnyH_take (i := 10) (oi := { dst := some 12, op := Go.Op.move (Go.Operand.tmp 5), type := 49, pos := "msg.go:129", after := #[{ on := 3, ground := Go.Ground.data }, { on := 9, ground := Go.Ground.data }], guard := none }) (v := ?_) rfl (by kernel_rfl) (by kernel_rfl) (by kernel_rfl) (fun _ _ _ h => h) (Or.inl ⟨by rfl, ?_⟩) (by assumption) ?_
  rotate_left
  · intro w hSw
    (try dsimp only at hSw)
    go_simp
    (try with_reducible rfl)
  (try simp only [Act.put, List.setIfInBounds_toArray, List.set_cons_zero, List.set_cons_succ])
  refine wpAnyH_ready (rs := [8]) (by kernel_rfl) (by simp) ?_
  refine AllReadyH.cons (o := { dst := some 10, op := Go.Op.load 3 (Go.Operand.tmp 9), type := 3, pos := "msg.go:129", after := #[{ on := 7, ground := Go.Ground.data }], guard := none }) rfl (fun K hK => ?_) AllReadyH.nil
  go_simp
  refine hK.out _ _ HB.out (fun hHeld2 => ?_)
  clear hK K
  (try simp only [Act.put, List.setIfInBounds_toArray, List.set_cons_zero, List.set_cons_succ])
  refine wpAnyH_ready (rs := [11]) (by kernel_rfl) (by simp) ?_
  refine AllReadyH.cons (o := { dst := some 13, op := Go.Op.call { callee := Go.Callee.invoke (Go.Operand.tmp 12) "tandem/msg.number", args := #[Go.Operand.tmp 10, Go.Operand.const (Go.Value.int Go.IntKind.i64 1), Go.Operand.const (Go.Value.int Go.IntKind.i64 63)], argTypes := #[3, 3, 3] }, type := 3, pos := "msg.go:129", after := #[{ on := 10, ground := Go.Ground.data }, { on := 8, ground := Go.Ground.data }], guard := none }) rfl (fun K hK => ?_) AllReadyH.nil
  go_simp
  refine HZ.out.mono ?_
  rintro e u1 hz
  obtain ⟨r, hr⟩ : ∃ r, r = C.o.num a cN 1 63 := ⟨_, rfl⟩
  have HQ1 : Hid (run C.o (.num .block :: []) (m, a) = (r.bind fun x => .ok (Mg.set m x.1 .block, x.2)).bind (run C.o [])) := Lib.hid (by rw [run_pair, hr, HC.out]; rfl)
  rw [← hr] at hz
  obtain ⟨hF, hR, hin2, hmine2⟩ := HX.out
  obtain ⟨⟨hin, hmine⟩, hnb, hbg, hlt1, hB1⟩ := HI.out
  have hlt := HL1.out
  cases r with
  | no er at_ =>
    obtain ⟨rfl, hR2⟩ := hz
    refine ⟨rfl, ?_⟩
    rw [show run C.o _ (m, a) = _ from HQ1.out]
    exact ⟨rfl, (Frame.of_below hB1).trans ((hR.trans (Frame.of_below ((Below.refl _ w1).drew)) (fun k hk => .inl hk)).trans hR2 hF) (fun k hk => .inl hk)⟩
  | ok x1 =>
    clear hr
    obtain ⟨rfl, hP⟩ := hz
    have hP3 := hP
    obtain ⟨Fv, hI2, hF2, hR2⟩ := hP3
    obtain ⟨A2, n2, c2, hd2⟩ := C.cells hI2
    have hnb2 : ¬ F1 b := fun hf => (hF b hf).elim hnb (fun h => by omega)
    have hb2 := HB.out.frame hR2 hlt hnb2
    have hc2 := (mCells_at hd2).1.2.2.2.1
    have hz2 := hd2.frozen 5
    have HBx := Lib.hid hb2
    have HB2 := Lib.hid (BoxAt.far (k := 5) (v := .int .i64 x1.1) hb2 hbg)
    have HL2 : Hid (b < (u1.setCell ⟨C.gm, 5, none⟩ (.int .i64 x1.1)).heap.size) := Lib.hid (by have hs : w1.heap.size ≤ u1.heap.size := hR2.size; simp [World.setCell]; omega)
    have HP2 := Lib.hid (CarPost.trans hF (hR.trans (Frame.of_below ((Below.refl _ w1).drew)) (fun k hk => .inl hk)) (CarPost.store0 C (k := 5) (v := .int .i64 x1.1) hmine2 hP (fun hI => C.set hI .block x1.1)))
    clear hb2 hd2 hI2 hR2 hF2 hP hnb2 hin hmine hnb hbg hlt hlt1 hB1 hF hR hin2 hmine2 HZ HX hc
    refine hK.out _ _ HBx.out (fun hHeld3 => ?_)
    clear hK K hHeld
    (try simp only [Act.put, List.setIfInBounds_toArray, List.set_cons_zero, List.set_cons_succ])
    refine wpAnyH_take (i := 12) (oi := { dst := some 14, op := Go.Op.nilCheck (Go.Operand.tmp 3), type := 0, pos := "msg.go:129", after := #[{ on := 1, ground := Go.Ground.data }, { on := 0, ground := Go.Ground.phase }, { on := 1, ground := Go.Ground.phase }, { on := 2, ground := Go.Ground.phase }, { on := 3, ground := Go.Ground.phase }, { on := 4, ground := Go.Ground.phase }, { on := 5, ground := Go.Ground.phase }, { on := 6, ground := Go.Ground.phase }, { on := 7, ground := Go.Ground.phase }, { on := 8, ground := Go.Ground.phase }, { on := 9, ground := Go.Ground.phase }, { on := 10, ground := Go.Ground.phase }, { on := 11, ground := Go.Ground.phase }], guard := none }) (v := ?_) rfl (by kernel_rfl) (by kernel_rfl) (by kernel_rfl) (fun _ _ _ h => h) (Or.inl ⟨by rfl, ?_⟩) (by assumption) ?_
    rotate_left
    · intro w hSw
      (try dsimp only at hSw)
      go_simp
      (try with_reducible rfl)
    (try simp only [Act.put, List.setIfInBounds_toArray, List.set_cons_zero, List.set_cons_succ])
    refine wpAnyH_take (i := 13) (oi := { dst := some 15, op := Go.Op.fieldAddr 27 (Go.Operand.tmp 14) 5, type := 0, pos := "msg.go:129", after := #[{ on := 12, ground := Go.Ground.data }, { on := 0, ground := Go.Ground.phase }, { on := 1, ground := Go.Ground.phase }, { on := 2, ground := Go.Ground.phase }, { on := 3, ground := Go.Ground.phase }, { on := 4, ground := Go.Ground.phase }, { on := 5, ground := Go.Ground.phase }, { on := 6, ground := Go.Ground.phase }, { on := 7, ground := Go.Ground.phase }, { on := 8, ground := Go.Ground.phase }, { on := 9, ground := Go.Ground.phase }, { on := 10, ground := Go.Ground.phase }, { on := 11, ground := Go.Ground.phase }], guard := none }) (v := ?_) rfl (by kernel_rfl) (by kernel_rfl) (by kernel_rfl) (fun _ _ _ h => h) (Or.inl ⟨by rfl, ?_⟩) (by assumption) ?_
    rotate_left
    · intro w hSw
      (try dsimp only at hSw)
      go_simp
      (try with_reducible rfl)
    (try simp only [Act.put, List.setIfInBounds_toArray, List.set_cons_zero, List.set_cons_succ])
    refine wpAnyH_ready (rs := [14]) (by kernel_rfl) (by simp) ?_
    refine AllReadyH.cons (o := { dst := none, op := Go.Op.store 3 (Go.Operand.tmp 15) (Go.Operand.tmp 13), type := 0, pos := "msg.go:129", after := #[{ on := 13, ground := Go.Ground.data }, { on := 11, ground := Go.Ground.data }, { on := 11, ground := Go.Ground.chain }, { on := 0, ground := Go.Ground.phase }, { on := 1, ground := Go.Ground.phase }, { on := 2, ground := Go.Ground.phase }, { on := 3, ground := Go.Ground.phase }, { on := 4, ground := Go.Ground.phase }, { on := 5, ground := Go.Ground.phase }, { on := 6, ground := Go.Ground.phase }, { on := 7, ground := Go.Ground.phase }, { on := 8, ground := Go.Ground.phase }, { on := 9, ground := Go.Ground.phase }, { on := 10, ground := Go.Ground.phase }, { on := 11, ground := Go.Ground.phase }], guard := none }) rfl (fun K hK => ?_) AllReadyH.nil
    go_simp
    refine hK.out _ _ HB2.out (fun hHeld4 => ?_)
    clear hK K hHeld3
    (try simp only [Act.put, List.setIfInBounds_toArray, List.set_cons_zero, List.set_cons_succ])
    refine wpAnyH_done (by kernel_rfl) ?_ _
    clear hc2 hz2 HBx hHeld4
    go_end0
    rw [show run C.o _ (m, a) = _ from HQ1.out]
    exact ⟨rfl, CarPost.first HI.out.2.2.2.2 HP2.out⟩
set_option maxRecDepth 100000 in
set_option maxHeartbeats 2000000 in
theorem fld_bits (C : Carr α) (h : C.Inv w F m a) (hs : C.small 3 a) : Calls Try.prog 45 #[C.val] w (FldPost C w F (run C.o [.bits] (m, a))) := by
  have B1 : Below w.heap.size w (w.alloc (.cells #[.pointer (some ⟨C.gm, 0, none⟩), .iface C.T C.p] 51)) := (Below.refl _ w).alloc (Nat.le_refl _) _
  have hb : BoxAt C w.heap.size (w.alloc (.cells #[.pointer (some ⟨C.gm, 0, none⟩), .iface C.T C.p] 51)) := box_new C w
  have hlt : w.heap.size < (w.alloc (.cells #[.pointer (some ⟨C.gm, 0, none⟩), .iface C.T C.p] 51)).heap.size := by simp
  have hs1 := C.less (C.less hs)
  have hin := C.own h
  have hmine := C.mine h
  have hP : CarPost (fun w F (s : M × α) => C.Inv w F s.1 s.2) (w.alloc (.cells #[.pointer (some ⟨C.gm, 0, none⟩), .iface C.T C.p] 51)) F (m, a) (w.alloc (.cells #[.pointer (some ⟨C.gm, 0, none⟩), .iface C.T C.p] 51)) := ⟨F, C.step h B1, fun k hk => .inl hk, Frame.refl _ _⟩
  have hm1 := C.mnum
  have hm2 := C.mlon
  have hm3 := C.mbyt
  have hfn1 := C.fnum
  have hfn2 := C.flon
  have hfn3 := C.fbyt
  obtain ⟨b, hbe⟩ : ∃ x, x = w.heap.size := ⟨_, rfl⟩
  obtain ⟨w1, hw1⟩ : ∃ x, x = w.alloc (.cells #[.pointer (some ⟨C.gm, 0, none⟩), .iface C.T C.p] 51) := ⟨_, rfl⟩
  rw [← hw1] at hb hlt hP B1
  rw [← hbe] at hb hlt
  have hnb : ¬ F b := fun hf => by have := hin _ hf; omega
  have hbg : b ≠ C.gm := fun e => hnb (e ▸ hmine)
  have HI := Lib.hid (And.intro (And.intro hin hmine) (And.intro hnb (And.intro hbg (And.intro hlt B1))))
  have HP1 := Lib.hid hP
  have HL1 := Lib.hid hlt
  have HB1 := Lib.hid hb
  clear B1 hin hmine hnb hbg hP hlt hb
  unfold Carr.val
  go_enter Try.func45, Try.ntmps45
  go_wp2
  rw [← hw1, ← hbe]
  clear hw1 hbe
  obtain ⟨F1, hI, hF, hR⟩ := HP1.out
  have hId := C.step hI ((Below.refl _ w1).drew)
  obtain ⟨A, n, c, hd⟩ := C.cells hId
  have hc := (mCells_at hd).2.1.2.2.2.1
  have HB : Hid (BoxAt C b w1.drew) := HB1
  have z := C.clon hId hs1 m.bits
  obtain ⟨cN, hcN⟩ : ∃ x, x = m.bits := ⟨_, rfl⟩
  rw [← hcN] at z hc
  have HZ := Lib.hid z
  have HX := Lib.hid (And.intro hF (And.intro hR (And.intro (C.own hId) (C.mine hId))))
  have HC := Lib.hid hcN
  clear z hF hR hI hId hd hcN
  refine wp_region_held_drew (S := BoxAt C b) (by kernel_rfl) HB.out (fun hHeld => ?_)
  unfold BoxAt at hHeld ⊢
  refine wpAnyH_take (i := 0) (oi := { dst := some 2, op := Go.Op.fieldAddr 51 (Go.Operand.tmp 1) 0, type := 0, pos := "msg.go:130", after := #[], guard := none }) (v := ?_) rfl (by kernel_rfl) (by kernel_rfl) (by kernel_rfl) (fun _ _ _ h => h) (Or.inl ⟨by rfl, ?_⟩) (by assumption) ?_
  rotate_left
  · intro w hSw
    (try dsimp only at hSw)
    go_simp
    (try with_reducible rfl)
  (try simp only [Act.put, List.setIfInBounds_toArray, List.set_cons_zero, List.set_cons_succ])
  refine wpAnyH_take (i := 1) (oi := { dst := some 3, op := Go.Op.load 47 (Go.Operand.tmp 2), type := 47, pos := "msg.go:130", after := #[{ on := 0, ground := Go.Ground.data }], guard := none }) (v := ?_) rfl (by kernel_rfl) (by kernel_rfl) (by kernel_rfl) (fun _ _ _ h => h) (Or.inl ⟨by rfl, ?_⟩) (by assumption) ?_
  rotate_left
  · intro w hSw
    (try dsimp only at hSw)
    go_simp
    (try with_reducible rfl)
  (try simp only [Act.put, List.setIfInBounds_toArray, List.set_cons_zero, List.set_cons_succ])
  refine wpAnyH_take (i := 2) (oi := { dst := some 4, op := Go.Op.fieldAddr 51 (Go.Operand.tmp 1) 1, type := 0, pos := "msg.go:130", after := #[], guard := none }) (v := ?_) rfl (by kernel_rfl) (by kernel_rfl) (by kernel_rfl) (fun _ _ _ h => h) (Or.inl ⟨by rfl, ?_⟩) (by assumption) ?_
  rotate_left
  · intro w hSw
    (try dsimp only at hSw)
    go_simp
    (try with_reducible rfl)
  (try simp only [Act.put, List.setIfInBounds_toArray, List.set_cons_zero, List.set_cons_succ])
  refine wpAnyH_take (i := 3) (oi := { dst := some 5, op := Go.Op.load 49 (Go.Operand.tmp 4), type := 49, pos := "msg.go:130", after := #[{ on := 2, ground := Go.Ground.data }], guard := none }) (v := ?_) rfl (by kernel_rfl) (by kernel_rfl) (by kernel_rfl) (fun _ _ _ h => h) (Or.inl ⟨by rfl, ?_⟩) (by assumption) ?_
  rotate_left
  · intro w hSw
    (try dsimp only at hSw)
    go_simp
    (try with_reducible rfl)
  (try simp only [Act.put, List.setIfInBounds_toArray, List.set_cons_zero, List.set_cons_succ])
  refine wpAnyH_take (i := 4) (oi := { dst := some 6, op := Go.Op.fieldAddr 51 (Go.Operand.tmp 1) 0, type := 0, pos := "msg.go:130", after := #[], guard := none }) (v := ?_) rfl (by kernel_rfl) (by kernel_rfl) (by kernel_rfl) (fun _ _ _ h => h) (Or.inl ⟨by rfl, ?_⟩) (by assumption) ?_
  rotate_left
  · intro w hSw
    (try dsimp only at hSw)
    go_simp
    (try with_reducible rfl)
  (try simp only [Act.put, List.setIfInBounds_toArray, List.set_cons_zero, List.set_cons_succ])
  refine wpAnyH_take (i := 5) (oi := { dst := some 7, op := Go.Op.load 47 (Go.Operand.tmp 6), type := 47, pos := "msg.go:130", after := #[{ on := 4, ground := Go.Ground.data }], guard := none }) (v := ?_) rfl (by kernel_rfl) (by kernel_rfl) (by kernel_rfl) (fun _ _ _ h => h) (Or.inl ⟨by rfl, ?_⟩) (by assumption) ?_
  rotate_left
  · intro w hSw
    (try dsimp only at hSw)
    go_simp
    (try with_reducible rfl)
  (try simp only [Act.put, List.setIfInBounds_toArray, List.set_cons_zero, List.set_cons_succ])
  refine wpAnyH_take (i := 6) (oi := { dst := some 8, op := Go.Op.nilCheck (Go.Operand.tmp 7), type := 0, pos := "msg.go:130", after := #[{ on := 5, ground := Go.Ground.data }], guard := none }) (v := ?_) rfl (by kernel_rfl) (by kernel_rfl) (by kernel_rfl) (fun _ _ _ h => h) (Or.inl ⟨by rfl, ?_⟩) (by assumption) ?_
  rotate_left
  · intro w hSw
    (try dsimp only at hSw)
    go_simp
    (try with_reducible rfl)
  (try simp only [Act.put, List.setIfInBounds_toArray, List.set_cons_zero, List.set_cons_succ])
  refine wpAnyH_take (i := 7) (oi := { dst := some 9, op := Go.Op.fieldAddr 27 (Go.Operand.tmp 8) 8, type := 0, pos := "msg.go:130", after := #[{ on := 6, ground := Go.Ground.data }], guard := none }) (v := ?_) rfl (by kernel_rfl) (by kernel_rfl) (by kernel_rfl) (fun _ _ _ h => h) (Or.inl ⟨by rfl, ?_⟩) (by assumption) ?_
  rotate_left
  · intro w hSw
    (try dsimp only at hSw)
    go_simp
    (try with_reducible rfl)
  (try simp only [Act.put, List.setIfInBounds_toArray, List.set_cons_zero, List.set_cons_succ])
  refine wpAnyH_take (i := 9) (oi := { dst := some 11, op := Go.Op.nilCheck (Go.Operand.tmp 5), type := 49, pos := "msg.go:130", after := #[{ on := 3, ground := Go.Ground.data }], guard := none }) (v := ?_) rfl (by kernel_rfl) (by kernel_rfl) (by kernel_rfl) (fun _ _ _ h => h) (Or.inl ⟨by rfl, ?_⟩) (by assumption) ?_
  rotate_left
  · intro w hSw
    (try dsimp only at hSw)
    go_simp
    (try with_reducible rfl)
  (try simp only [Act.put, List.setIfInBounds_toArray, List.set_cons_zero, List.set_cons_succ])
  refine wpAnyH_take (i := 10) (oi := { dst := some 12, op := Go.Op.move (Go.Operand.tmp 5), type := 49, pos := "msg.go:130", after := #[{ on := 3, ground := Go.Ground.data }, { on := 9, ground := Go.Ground.data }], guard := none }) (v := ?_) rfl (by kernel_rfl) (by kernel_rfl) (by kernel_rfl) (fun _ _ _ h => h) (Or.inl ⟨by rfl, ?_⟩) (by assumption) ?_
  rotate_left
  · intro w hSw
    (try dsimp only at hSw)
    go_simp
    (try with_reducible rfl)
  (try simp only [Act.put, List.setIfInBounds_toArray, List.set_cons_zero, List.set_cons_succ])
  refine wpAnyH_ready (rs := [8]) (by kernel_rfl) (by simp) ?_
  refine AllReadyH.cons (o := { dst := some 10, op := Go.Op.load 24 (Go.Operand.tmp 9), type := 24, pos := "msg.go:130", after := #[{ on := 7, ground := Go.Ground.data }], guard := none }) rfl (fun K hK => ?_) AllReadyH.nil
  go_simp
  refine hK.out _ _ HB.out (fun hHeld2 => ?_)
  clear hK K
  (try simp only [Act.put, List.setIfInBounds_toArray, List.set_cons_zero, List.set_cons_succ])
  refine wpAnyH_ready (rs := [11]) (by kernel_rfl) (by simp) ?_
  refine AllReadyH.cons (o := { dst := some 13, op := Go.Op.call { callee := Go.Callee.invoke (Go.Operand.tmp 12) "tandem/msg.long", args := #[Go.Operand.tmp 10], argTypes := #[24] }, type := 24, pos := "msg.go:130", after := #[{ on := 10, ground := Go.Ground.data }, { on := 8, ground := Go.Ground.data }], guard := none }) rfl (fun K hK => ?_) AllReadyH.nil
  go_simp
  refine HZ.out.mono ?_
  rintro e u1 hz
  obtain ⟨r, hr⟩ : ∃ r, r = C.o.lon a cN := ⟨_, rfl⟩
  have HQ1 : Hid (run C.o (.bits :: []) (m, a) = (r.bind fun x => .ok ({ m with bits := x.1 }, x.2)).bind (run C.o [])) := Lib.hid (by rw [run_pair, hr, HC.out]; rfl)
  rw [← hr] at hz
  obtain ⟨hF, hR, hin2, hmine2⟩ := HX.out
  obtain ⟨⟨hin, hmine⟩, hnb, hbg, hlt1, hB1⟩ := HI.out
  have hlt := HL1.out
  cases r with
  | no er at_ =>
    obtain ⟨rfl, hR2⟩ := hz
    refine ⟨rfl, ?_⟩
    rw [show run C.o _ (m, a) = _ from HQ1.out]
    exact ⟨rfl, (Frame.of_below hB1).trans ((hR.trans (Frame.of_below ((Below.refl _ w1).drew)) (fun k hk => .inl hk)).trans hR2 hF) (fun k hk => .inl hk)⟩
  | ok x1 =>
    clear hr
    obtain ⟨rfl, hP⟩ := hz
    have hP3 := hP
    obtain ⟨Fv, hI2, hF2, hR2⟩ := hP3
    obtain ⟨A2, n2, c2, hd2⟩ := C.cells hI2
    have hnb2 : ¬ F1 b := fun hf => (hF b hf).elim hnb (fun h => by omega)
    have hb2 := HB.out.frame hR2 hlt hnb2
    have hc2 := (mCells_at hd2).2.1.2.2.2.1
    have hz2 := hd2.frozen 10
    have HBx := Lib.hid hb2
    have HB2 := Lib.hid (BoxAt.far (k := 10) (v := .int .u64 (x1.1 : Int)) hb2 hbg)
    have HL2 : Hid (b < (u1.setCell ⟨C.gm, 10, none⟩ (.int .u64 (x1.1 : Int))).heap.size) := Lib.hid (by have hs : w1.heap.size ≤ u1.heap.size := hR2.size; simp [World.setCell]; omega)
    have HP2 := Lib.hid (CarPost.trans hF (hR.trans (Frame.of_below ((Below.refl _ w1).drew)) (fun k hk => .inl hk)) (CarPost.store0 C (k := 10) (v := .int .u64 (x1.1 : Int)) hmine2 hP (fun hI => C.sbits hI x1.1)))
    clear hb2 hd2 hI2 hR2 hF2 hP hnb2 hin hmine hnb hbg hlt hlt1 hB1 hF hR hin2 hmine2 HZ HX hc
    refine hK.out _ _ HBx.out (fun hHeld3 => ?_)
    clear hK K hHeld
    (try simp only [Act.put, List.setIfInBounds_toArray, List.set_cons_zero, List.set_cons_succ])
    refine wpAnyH_take (i := 12) (oi := { dst := some 14, op := Go.Op.nilCheck (Go.Operand.tmp 3), type := 0, pos := "msg.go:130", after := #[{ on := 1, ground := Go.Ground.data }, { on := 0, ground := Go.Ground.phase }, { on := 1, ground := Go.Ground.phase }, { on := 2, ground := Go.Ground.phase }, { on := 3, ground := Go.Ground.phase }, { on := 4, ground := Go.Ground.phase }, { on := 5, ground := Go.Ground.phase }, { on := 6, ground := Go.Ground.phase }, { on := 7, ground := Go.Ground.phase }, { on := 8, ground := Go.Ground.phase }, { on := 9, ground := Go.Ground.phase }, { on := 10, ground := Go.Ground.phase }, { on := 11, ground := Go.Ground.phase }], guard := none }) (v := ?_) rfl (by kernel_rfl) (by kernel_rfl) (by kernel_rfl) (fun _ _ _ h => h) (Or.inl ⟨by rfl, ?_⟩) (by assumption) ?_
    rotate_left
    · intro w hSw
      (try dsimp only at hSw)
      go_simp
      (try with_reducible rfl)
    (try simp only [Act.put, List.setIfInBounds_toArray, List.set_cons_zero, List.set_cons_succ])
    refine wpAnyH_take (i := 13) (oi := { dst := some 15, op := Go.Op.fieldAddr 27 (Go.Operand.tmp 14) 8, type := 0, pos := "msg.go:130", after := #[{ on := 12, ground := Go.Ground.data }, { on := 0, ground := Go.Ground.phase }, { on := 1, ground := Go.Ground.phase }, { on := 2, ground := Go.Ground.phase }, { on := 3, ground := Go.Ground.phase }, { on := 4, ground := Go.Ground.phase }, { on := 5, ground := Go.Ground.phase }, { on := 6, ground := Go.Ground.phase }, { on := 7, ground := Go.Ground.phase }, { on := 8, ground := Go.Ground.phase }, { on := 9, ground := Go.Ground.phase }, { on := 10, ground := Go.Ground.phase }, { on := 11, ground := Go.Ground.phase }], guard := none }) (v := ?_) rfl (by kernel_rfl) (by kernel_rfl) (by kernel_rfl) (fun _ _ _ h => h) (Or.inl ⟨by rfl, ?_⟩) (by assumption) ?_
    rotate_left
    · intro w hSw
      (try dsimp only at hSw)
      go_simp
      (try with_reducible rfl)
    (try simp only [Act.put, List.setIfInBounds_toArray, List.set_cons_zero, List.set_cons_succ])
    refine wpAnyH_ready (rs := [14]) (by kernel_rfl) (by simp) ?_
    refine AllReadyH.cons (o := { dst := none, op := Go.Op.store 24 (Go.Operand.tmp 15) (Go.Operand.tmp 13), type := 0, pos := "msg.go:130", after := #[{ on := 13, ground := Go.Ground.data }, { on := 11, ground := Go.Ground.data }, { on := 11, ground := Go.Ground.chain }, { on := 0, ground := Go.Ground.phase }, { on := 1, ground := Go.Ground.phase }, { on := 2, ground := Go.Ground.phase }, { on := 3, ground := Go.Ground.phase }, { on := 4, ground := Go.Ground.phase }, { on := 5, ground := Go.Ground.phase }, { on := 6, ground := Go.Ground.phase }, { on := 7, ground := Go.Ground.phase }, { on := 8, ground := Go.Ground.phase }, { on := 9, ground := Go.Ground.phase }, { on := 10, ground := Go.Ground.phase }, { on := 11, ground := Go.Ground.phase }], guard := none }) rfl (fun K hK => ?_) AllReadyH.nil
    go_simp
    refine hK.out _ _ HB2.out (fun hHeld4 => ?_)
    clear hK K hHeld3
    (try simp only [Act.put, List.setIfInBounds_toArray, List.set_cons_zero, List.set_cons_succ])
    refine wpAnyH_done (by kernel_rfl) ?_ _
    clear hc2 hz2 HBx hHeld4
    go_end0
    rw [show run C.o _ (m, a) = _ from HQ1.out]
    exact ⟨rfl, CarPost.first HI.out.2.2.2.2 HP2.out⟩
set_option maxRecDepth 100000 in
set_option maxHeartbeats 2000000 in
theorem fld_data (C : Carr α) (h : C.Inv w F m a) (hs : C.small 3 a) : Calls Try.prog 44 #[C.val] w (FldPost C w F (run C.o [.data] (m, a))) := by
  have B1 : Below w.heap.size w (w.alloc (.cells #[.pointer (some ⟨C.gm, 0, none⟩), .iface C.T C.p] 51)) := (Below.refl _ w).alloc (Nat.le_refl _) _
  have hb : BoxAt C w.heap.size (w.alloc (.cells #[.pointer (some ⟨C.gm, 0, none⟩), .iface C.T C.p] 51)) := box_new C w
  have hlt : w.heap.size < (w.alloc (.cells #[.pointer (some ⟨C.gm, 0, none⟩), .iface C.T C.p] 51)).heap.size := by simp
  have hs1 := C.less (C.less hs)
  have hin := C.own h
  have hmine := C.mine h
  have hP : CarPost (fun w F (s : M × α) => C.Inv w F s.1 s.2) (w.alloc (.cells #[.pointer (some ⟨C.gm, 0, none⟩), .iface C.T C.p] 51)) F (m, a) (w.alloc (.cells #[.pointer (some ⟨C.gm, 0, none⟩), .iface C.T C.p] 51)) := ⟨F, C.step h B1, fun k hk => .inl hk, Frame.refl _ _⟩
  have hm1 := C.mnum
  have hm2 := C.mlon
  have hm3 := C.mbyt
  have hfn1 := C.fnum
  have hfn2 := C.flon
  have hfn3 := C.fbyt
  obtain ⟨b, hbe⟩ : ∃ x, x = w.heap.size := ⟨_, rfl⟩
  obtain ⟨w1, hw1⟩ : ∃ x, x = w.alloc (.cells #[.pointer (some ⟨C.gm, 0, none⟩), .iface C.T C.p] 51) := ⟨_, rfl⟩
  rw [← hw1] at hb hlt hP B1
  rw [← hbe] at hb hlt
  have hnb : ¬ F b := fun hf => by have := hin _ hf; omega
  have hbg : b ≠ C.gm := fun e => hnb (e ▸ hmine)
  have HI := Lib.hid (And.intro (And.intro hin hmine) (And.intro hnb (And.intro hbg (And.intro hlt B1))))
  have HP1 := Lib.hid hP
  have HL1 := Lib.hid hlt
  have HB1 := Lib.hid hb
  clear B1 hin hmine hnb hbg hP hlt hb
  unfold Carr.val
  go_enter Try.func44, Try.ntmps44
  go_wp2
  rw [← hw1, ← hbe]
  clear hw1 hbe
  obtain ⟨F1, hI, hF, hR⟩ := HP1.out
  have hId := C.step hI ((Below.refl _ w1).drew)
  obtain ⟨A, n, c, hd⟩ := C.cells hId
  have hc := (mCells_at hd).2.1.2.2.2.2
  have HB : Hid (BoxAt C b w1.drew) := HB1
  have z := C.cbyt hId hs1 A n c hd
  have HZ := Lib.hid z
  have HX := Lib.hid (And.intro hF (And.intro hR (And.intro (C.own hId) (C.mine hId))))
  clear z hF hR hI hId hd
  refine wp_region_held_drew (S := BoxAt C b) (by kernel_rfl) HB.out (fun hHeld => ?_)
  unfold BoxAt at hHeld ⊢
  refine wpAnyH_take (i := 0) (oi := { dst := some 2, op := Go.Op.fieldAddr 51 (Go.Operand.tmp 1) 0, type := 0, pos := "msg.go:131", after := #[], guard := none }) (v := ?_) rfl (by kernel_rfl) (by kernel_rfl) (by kernel_rfl) (fun _ _ _ h => h) (Or.inl ⟨by rfl, ?_⟩) (by assumption) ?_
  rotate_left
  · intro w hSw
    (try dsimp only at hSw)
    go_simp
    (try with_reducible rfl)
  (try simp only [Act.put, List.setIfInBounds_toArray, List.set_cons_zero, List.set_cons_succ])
  refine wpAnyH_take (i := 1) (oi := { dst := some 3, op := Go.Op.load 47 (Go.Operand.tmp 2), type := 47, pos := "msg.go:131", after := #[{ on := 0, ground := Go.Ground.data }], guard := none }) (v := ?_) rfl (by kernel_rfl) (by kernel_rfl) (by kernel_rfl) (fun _ _ _ h => h) (Or.inl ⟨by rfl, ?_⟩) (by assumption) ?_
  rotate_left
  · intro w hSw
    (try dsimp only at hSw)
    go_simp
    (try with_reducible rfl)
  (try simp only [Act.put, List.setIfInBounds_toArray, List.set_cons_zero, List.set_cons_succ])
  refine wpAnyH_take (i := 2) (oi := { dst := some 4, op := Go.Op.fieldAddr 51 (Go.Operand.tmp 1) 1, type := 0, pos := "msg.go:131", after := #[], guard := none }) (v := ?_) rfl (by kernel_rfl) (by kernel_rfl) (by kernel_rfl) (fun _ _ _ h => h) (Or.inl ⟨by rfl, ?_⟩) (by assumption) ?_
  rotate_left
  · intro w hSw
    (try dsimp only at hSw)
    go_simp
    (try with_reducible rfl)
  (try simp only [Act.put, List.setIfInBounds_toArray, List.set_cons_zero, List.set_cons_succ])
  refine wpAnyH_take (i := 3) (oi := { dst := some 5, op := Go.Op.load 49 (Go.Operand.tmp 4), type := 49, pos := "msg.go:131", after := #[{ on := 2, ground := Go.Ground.data }], guard := none }) (v := ?_) rfl (by kernel_rfl) (by kernel_rfl) (by kernel_rfl) (fun _ _ _ h => h) (Or.inl ⟨by rfl, ?_⟩) (by assumption) ?_
  rotate_left
  · intro w hSw
    (try dsimp only at hSw)
    go_simp
    (try with_reducible rfl)
  (try simp only [Act.put, List.setIfInBounds_toArray, List.set_cons_zero, List.set_cons_succ])
  refine wpAnyH_take (i := 4) (oi := { dst := some 6, op := Go.Op.fieldAddr 51 (Go.Operand.tmp 1) 0, type := 0, pos := "msg.go:131", after := #[], guard := none }) (v := ?_) rfl (by kernel_rfl) (by kernel_rfl) (by kernel_rfl) (fun _ _ _ h => h) (Or.inl ⟨by rfl, ?_⟩) (by assumption) ?_
  rotate_left
  · intro w hSw
    (try dsimp only at hSw)
    go_simp
    (try with_reducible rfl)
  (try simp only [Act.put, List.setIfInBounds_toArray, List.set_cons_zero, List.set_cons_succ])
  refine wpAnyH_take (i := 5) (oi := { dst := some 7, op := Go.Op.load 47 (Go.Operand.tmp 6), type := 47, pos := "msg.go:131", after := #[{ on := 4, ground := Go.Ground.data }], guard := none }) (v := ?_) rfl (by kernel_rfl) (by kernel_rfl) (by kernel_rfl) (fun _ _ _ h => h) (Or.inl ⟨by rfl, ?_⟩) (by assumption) ?_
  rotate_left
  · intro w hSw
    (try dsimp only at hSw)
    go_simp
    (try with_reducible rfl)
  (try simp only [Act.put, List.setIfInBounds_toArray, List.set_cons_zero, List.set_cons_succ])
  refine wpAnyH_take (i := 6) (oi := { dst := some 8, op := Go.Op.nilCheck (Go.Operand.tmp 7), type := 0, pos := "msg.go:131", after := #[{ on := 5, ground := Go.Ground.data }], guard := none }) (v := ?_) rfl (by kernel_rfl) (by kernel_rfl) (by kernel_rfl) (fun _ _ _ h => h) (Or.inl ⟨by rfl, ?_⟩) (by assumption) ?_
  rotate_left
  · intro w hSw
    (try dsimp only at hSw)
    go_simp
    (try with_reducible rfl)
  (try simp only [Act.put, List.setIfInBounds_toArray, List.set_cons_zero, List.set_cons_succ])
  refine wpAnyH_take (i := 7) (oi := { dst := some 9, op := Go.Op.fieldAddr 27 (Go.Operand.tmp 8) 9, type := 0, pos := "msg.go:131", after := #[{ on := 6, ground := Go.Ground.data }], guard := none }) (v := ?_) rfl (by kernel_rfl) (by kernel_rfl) (by kernel_rfl) (fun _ _ _ h => h) (Or.inl ⟨by rfl, ?_⟩) (by assumption) ?_
  rotate_left
  · intro w hSw
    (try dsimp only at hSw)
    go_simp
    (try with_reducible rfl)
  (try simp only [Act.put, List.setIfInBounds_toArray, List.set_cons_zero, List.set_cons_succ])
  refine wpAnyH_take (i := 9) (oi := { dst := some 11, op := Go.Op.nilCheck (Go.Operand.tmp 5), type := 49, pos := "msg.go:131", after := #[{ on := 3, ground := Go.Ground.data }], guard := none }) (v := ?_) rfl (by kernel_rfl) (by kernel_rfl) (by kernel_rfl) (fun _ _ _ h => h) (Or.inl ⟨by rfl, ?_⟩) (by assumption) ?_
  rotate_left
  · intro w hSw
    (try dsimp only at hSw)
    go_simp
    (try with_reducible rfl)
  (try simp only [Act.put, List.setIfInBounds_toArray, List.set_cons_zero, List.set_cons_succ])
  refine wpAnyH_take (i := 10) (oi := { dst := some 12, op := Go.Op.move (Go.Operand.tmp 5), type := 49, pos := "msg.go:131", after := #[{ on := 3, ground := Go.Ground.data }, { on := 9, ground := Go.Ground.data }], guard := none }) (v := ?_) rfl (by kernel_rfl) (by kernel_rfl) (by kernel_rfl) (fun _ _ _ h => h) (Or.inl ⟨by rfl, ?_⟩) (by assumption) ?_
  rotate_left
  · intro w hSw
    (try dsimp only at hSw)
    go_simp
    (try with_reducible rfl)
  (try simp only [Act.put, List.setIfInBounds_toArray, List.set_cons_zero, List.set_cons_succ])
  refine wpAnyH_ready (rs := [8]) (by kernel_rfl) (by simp) ?_
  refine AllReadyH.cons (o := { dst := some 10, op := Go.Op.load 25 (Go.Operand.tmp 9), type := 25, pos := "msg.go:131", after := #[{ on := 7, ground := Go.Ground.data }], guard := none }) rfl (fun K hK => ?_) AllReadyH.nil
  go_simp
  refine hK.out _ _ HB.out (fun hHeld2 => ?_)
  clear hK K
  (try simp only [Act.put, List.setIfInBounds_toArray, List.set_cons_zero, List.set_cons_succ])
  refine wpAnyH_ready (rs := [11]) (by kernel_rfl) (by simp) ?_
  refine AllReadyH.cons (o := { dst := some 13, op := Go.Op.call { callee := Go.Callee.invoke (Go.Operand.tmp 12) "tandem/msg.bytes", args := #[Go.Operand.tmp 10], argTypes := #[25] }, type := 25, pos := "msg.go:131", after := #[{ on := 10, ground := Go.Ground.data }, { on := 8, ground := Go.Ground.data }], guard := none }) rfl (fun K hK => ?_) AllReadyH.nil
  go_simp
  refine HZ.out.mono ?_
  rintro e u1 hz
  obtain ⟨r, hr⟩ : ∃ r, r = C.o.byt a m.data := ⟨_, rfl⟩
  have HQ1 : Hid (run C.o (.data :: []) (m, a) = (r.bind fun x => .ok ({ m with data := x.1 }, x.2)).bind (run C.o [])) := Lib.hid (by rw [run_pair, hr]; rfl)
  rw [← hr] at hz
  obtain ⟨hF, hR, hin2, hmine2⟩ := HX.out
  obtain ⟨⟨hin, hmine⟩, hnb, hbg, hlt1, hB1⟩ := HI.out
  have hlt := HL1.out
  cases r with
  | no er at_ =>
    obtain ⟨rfl, hR2⟩ := hz
    refine ⟨rfl, ?_⟩
    rw [show run C.o _ (m, a) = _ from HQ1.out]
    exact ⟨rfl, (Frame.of_below hB1).trans ((hR.trans (Frame.of_below ((Below.refl _ w1).drew)) (fun k hk => .inl hk)).trans hR2 hF) (fun k hk => .inl hk)⟩
  | ok x1 =>
    clear hr
    obtain ⟨A2, n2, c2, rfl, hd2, hP⟩ := hz
    have hP3 := hP
    obtain ⟨Fv, hI2, hF2, hR2⟩ := hP3
    have hnb2 : ¬ F1 b := fun hf => (hF b hf).elim hnb (fun h => by omega)
    have hb2 := HB.out.frame hR2 hlt hnb2
    have hc2 := (mCells_at hd2).2.1.2.2.2.2
    have hz2 := hd2.frozen 11
    have HBx := Lib.hid hb2
    have HB2 := Lib.hid (BoxAt.far (k := 11) (v := .slice A2 n2 c2) hb2 hbg)
    have HL2 : Hid (b < (u1.setCell ⟨C.gm, 11, none⟩ (.slice A2 n2 c2)).heap.size) := Lib.hid (by have hs : w1.heap.size ≤ u1.heap.size := hR2.size; simp [World.setCell]; omega)
    have HP2 := Lib.hid (CarPost.trans hF (hR.trans (Frame.of_below ((Below.refl _ w1).drew)) (fun k hk => .inl hk)) (CarPost.store0 C (k := 11) (v := .slice A2 n2 c2) hmine2 hP (fun hI => hI)))
    clear hb2 hd2 hI2 hR2 hF2 hP hnb2 hin hmine hnb hbg hlt hlt1 hB1 hF hR hin2 hmine2 HZ HX hc
    refine hK.out _ _ HBx.out (fun hHeld3 => ?_)
    clear hK K hHeld
    (try simp only [Act.put, List.setIfInBounds_toArray, List.set_cons_zero, List.set_cons_succ])
    refine wpAnyH_take (i := 12) (oi := { dst := some 14, op := Go.Op.nilCheck (Go.Operand.tmp 3), type := 0, pos := "msg.go:131", after := #[{ on := 1, ground := Go.Ground.data }, { on := 0, ground := Go.Ground.phase }, { on := 1, ground := Go.Ground.phase }, { on := 2, ground := Go.Ground.phase }, { on := 3, ground := Go.Ground.phase }, { on := 4, ground := Go.Ground.phase }, { on := 5, ground := Go.Ground.phase }, { on := 6, ground := Go.Ground.phase }, { on := 7, ground := Go.Ground.phase }, { on := 8, ground := Go.Ground.phase }, { on := 9, ground := Go.Ground.phase }, { on := 10, ground := Go.Ground.phase }, { on := 11, ground := Go.Ground.phase }], guard := none }) (v := ?_) rfl (by kernel_rfl) (by kernel_rfl) (by kernel_rfl) (fun _ _ _ h => h) (Or.inl ⟨by rfl, ?_⟩) (by assumption) ?_
    rotate_left
    · intro w hSw
      (try dsimp only at hSw)
      go_simp
      (try with_reducible rfl)
    (try simp only [Act.put, List.setIfInBounds_toArray, List.set_cons_zero, List.set_cons_succ])
    refine wpAnyH_take (i := 13) (oi := { dst := some 15, op := Go.Op.fieldAddr 27 (Go.Operand.tmp 14) 9, type := 0, pos := "msg.go:131", after := #[{ on := 12, ground := Go.Ground.data }, { on := 0, ground := Go.Ground.phase }, { on := 1, ground := Go.Ground.phase }, { on := 2, ground := Go.Ground.phase }, { on := 3, ground := Go.Ground.phase }, { on := 4, ground := Go.Ground.phase }, { on := 5, ground := Go.Ground.phase }, { on := 6, ground := Go.Ground.phase }, { on := 7, ground := Go.Ground.phase }, { on := 8, ground := Go.Ground.phase }, { on := 9, ground := Go.Ground.phase }, { on := 10, ground := Go.Ground.phase }, { on := 11, ground := Go.Ground.phase }], guard := none }) (v := ?_) rfl (by kernel_rfl) (by kernel_rfl) (by kernel_rfl) (fun _ _ _ h => h) (Or.inl ⟨by rfl, ?_⟩) (by assumption) ?_
    rotate_left
    · intro w hSw
      (try dsimp only at hSw)
      go_simp
      (try with_reducible rfl)
    (try simp only [Act.put, List.setIfInBounds_toArray, List.set_cons_zero, List.set_cons_succ])
    refine wpAnyH_ready (rs := [14]) (by kernel_rfl) (by simp) ?_
    refine AllReadyH.cons (o := { dst := none, op := Go.Op.store 25 (Go.Operand.tmp 15) (Go.Operand.tmp 13), type := 0, pos := "msg.go:131", after := #[{ on := 13, ground := Go.Ground.data }, { on := 11, ground := Go.Ground.data }, { on := 11, ground := Go.Ground.chain }, { on := 0, ground := Go.Ground.phase }, { on := 1, ground := Go.Ground.phase }, { on := 2, ground := Go.Ground.phase }, { on := 3, ground := Go.Ground.phase }, { on := 4, ground := Go.Ground.phase }, { on := 5, ground := Go.Ground.phase }, { on := 6, ground := Go.Ground.phase }, { on := 7, ground := Go.Ground.phase }, { on := 8, ground := Go.Ground.phase }, { on := 9, ground := Go.Ground.phase }, { on := 10, ground := Go.Ground.phase }, { on := 11, ground := Go.Ground.phase }], guard := none }) rfl (fun K hK => ?_) AllReadyH.nil
    go_simp
    refine hK.out _ _ HB2.out (fun hHeld4 => ?_)
    clear hK K hHeld3
    (try simp only [Act.put, List.setIfInBounds_toArray, List.set_cons_zero, List.set_cons_succ])
    refine wpAnyH_done (by kernel_rfl) ?_ _
    clear hc2 hz2 HBx hHeld4
    go_end0
    rw [show run C.o _ (m, a) = _ from HQ1.out]
    exact ⟨rfl, CarPost.first HI.out.2.2.2.2 HP2.out⟩
end
end Go.Proofs.Ytfiijnpabmocdaa
