/-
  All that a message has, carried: msg.carry, whatever carries the parts. Conditions: none.
-/
import Derived.Test.YtfiijnpabmocdaaMgFns
import Derived.Test.YtfiijnpabmocdaaMgSmall
namespace Go.Proofs.Ytfiijnpabmocdaa
open Go.RowKit Mg

section
variable {α : Type} {w : World} {F : Nat → Prop} {m : M} {a : α}
theorem less_many (C : Carr α) : ∀ {j k a}, C.small (k + j) a → C.small k a
  | 0, _, _, h => h
  | j + 1, _, _, h => less_many C (j := j) (C.less h)
theorem step_small (C : Carr α) {k : Nat} {p : Pt} {s s' : M × α} (h : Mg.step C.o p s = .ok s') (hs : C.small (k + 1) s.2) : C.small k s'.2 := by
  cases p with
  | num q =>
    replace h : (C.o.num s.2 (Mg.get s.1 q) (Mg.size q) (Mg.most q)).bind (fun x => .ok (Mg.set s.1 x.1 q, x.2)) = .ok s' := h
    cases hx : C.o.num s.2 (Mg.get s.1 q) (Mg.size q) (Mg.most q) with
    | no e a => rw [hx] at h; cases h
    | ok x => rw [hx] at h; cases h; exact C.snum (good_of q) hs hx
  | bits =>
    replace h : (C.o.lon s.2 s.1.bits).bind (fun x => .ok ({ s.1 with bits := x.1 }, x.2)) = .ok s' := h
    cases hx : C.o.lon s.2 s.1.bits with
    | no e a => rw [hx] at h; cases h
    | ok x => rw [hx] at h; cases h; exact C.slon hs hx
  | data =>
    replace h : (C.o.byt s.2 s.1.data).bind (fun x => .ok ({ s.1 with data := x.1 }, x.2)) = .ok s' := h
    cases hx : C.o.byt s.2 s.1.data with
    | no e a => rw [hx] at h; cases h
    | ok x => rw [hx] at h; cases h; exact C.sbyt hs hx
theorem run_small (C : Carr α) : ∀ {ps : List Pt} {k : Nat} {s s' : M × α}, run C.o ps s = .ok s' → C.small (k + ps.length) s.2 → C.small k s'.2
  | [], _, _, _, h, hs => by cases h; exact hs
  | p :: r, k, s, s', h, hs => by
    have h : (Mg.step C.o p s).bind (run C.o r) = .ok s' := h
    cases hx : Mg.step C.o p s with
    | no e a => rw [hx] at h; cases h
    | ok x =>
      rw [hx] at h
      exact run_small C h (step_small C hx (by rw [List.length_cons] at hs; exact hs))
theorem parts_len (f : Mg.Fd) : (parts f).length ≤ 3 := by cases f <;> decide
theorem fields_len {k : Int} {fs : List Mg.Fd} (h : fields k = some fs) : fs.length ≤ 5 := by
  unfold fields at h
  repeat' split at h
  all_goals (first | (cases h; done) | (cases h; decide))
theorem known_iff (k : Int) : k ∈ ([1, 2, 3, 4, 5, 6, 7, 8, 9, 10, 11] : List Int) ∨ fields k = none := by
  by_cases h : k ∈ ([1, 2, 3, 4, 5, 6, 7, 8, 9, 10, 11] : List Int)
  · exact .inl h
  · refine .inr ?_
    simp only [List.mem_cons, List.not_mem_nil, or_false, not_or] at h
    unfold fields
    simp [h]
theorem known_no {k : Int} (h : fields k = none) : k ∉ ([1, 2, 3, 4, 5, 6, 7, 8, 9, 10, 11] : List Int) := by
  intro hk
  simp only [List.mem_cons, List.not_mem_nil, or_false] at hk
  rcases hk with rfl | rfl | rfl | rfl | rfl | rfl | rfl | rfl | rfl | rfl | rfl <;> cases h
theorem call_fn (f : Mg.Fd) : ∀ (args : Array Value) (w : World), (callFunc (fnNo f) args).run Try.prog w = .ok (.enter (fnNo f) args) w := by
  intro args w
  cases f <;> kernel_rfl
def CarrySt (C : Carr α) (gb : Nat) (kind : Int) (w : World) : Prop := BoxAt C gb w ∧ w.cell? ⟨C.gm, 0, none⟩ = some (.int .i64 kind)

set_option maxRecDepth 100000 in
set_option maxHeartbeats 2000000 in
theorem carry_any (C : Carr α) (h : C.Inv w F m a) (hs : C.small 20 a) : Calls Try.prog 19 #[C.val] w (FldPost C w F (Mg.carry C.o (m, a))) := by
  have B1 : Below w.heap.size w (w.alloc (.cells #[.pointer (some ⟨C.gm, 0, none⟩), .iface C.T C.p] 51)) := (Below.refl _ w).alloc (Nat.le_refl _) _
  have hb : BoxAt C w.heap.size (w.alloc (.cells #[.pointer (some ⟨C.gm, 0, none⟩), .iface C.T C.p] 51)) := box_new C w
  have hlt : w.heap.size < (w.alloc (.cells #[.pointer (some ⟨C.gm, 0, none⟩), .iface C.T C.p] 51)).heap.size := by simp
  have h1 := C.step h B1
  have hin := C.own h
  obtain ⟨b, hbe⟩ : ∃ x, x = w.heap.size := ⟨_, rfl⟩
  obtain ⟨w1, hw1⟩ : ∃ x, x = w.alloc (.cells #[.pointer (some ⟨C.gm, 0, none⟩), .iface C.T C.p] 51) := ⟨_, rfl⟩
  rw [← hw1] at hb hlt h1 B1
  rw [← hbe] at hb hlt
  have hnb : ∀ k, F k → k < b := fun k hk => by have := hin k hk; omega
  obtain ⟨kd, hkd⟩ : ∃ x, x = m.kind := ⟨_, rfl⟩
  obtain ⟨sr, hsr⟩ : ∃ x, x = m.src := ⟨_, rfl⟩
  have hs1 : CarrySt C b kd w1.drew := by
    obtain ⟨A, n, c, hd⟩ := C.cells h1
    exact ⟨hb, by rw [hkd]; exact (mCells_at hd).2.2.1⟩
  have HS := Lib.hid hs1
  have H1 := Lib.hid (And.intro h1 (And.intro hb (And.intro hlt (And.intro hnb B1))))
  have HK := Lib.hid (And.intro hkd.symm hsr.symm)
  have HSm := Lib.hid hs
  clear h1 hb hlt hnb B1 hs1 h hin hs
  unfold Carr.val
  have hca : Mg.carry C.o (m, a) = match fields kd with | none => .no 6 0 | some fs => if 0 ≤ sr ∧ sr ≤ 2 then run C.o (fs.flatMap parts) (m, a) else .no 5 1 := by rw [hkd, hsr]; rfl
  rw [hca]
  clear hca hkd hsr
  rcases known_iff kd with hkn | hkn
  · obtain ⟨fs, hfs⟩ : ∃ fs, fields kd = some fs := by
      cases hx : fields kd with
      | none => exact absurd hkn (known_no hx)
      | some fs => exact ⟨fs, rfl⟩
    rw [hfs]
    simp only
    have HF := Lib.hid (And.intro hfs hkn)
    clear hfs hkn
    by_cases hsr : 0 ≤ sr ∧ sr ≤ 2
    · rw [if_pos hsr]
      have HR := Lib.hid hsr
      clear hsr
      go_enter Try.func19, Try.ntmps19
      go_wp2
      rw [← hw1, ← hbe]
      clear hw1 hbe
      refine wp_region_held_drew (S := CarrySt C b kd) (by kernel_rfl) HS.out (fun hHeld => ?_)
      unfold CarrySt BoxAt at hHeld ⊢
      refine wpAnyH_take (i := 1) (oi := { dst := some 8, op := Go.Op.fieldAddr 51 (Go.Operand.tmp 1) 0, type := 0, pos := "msg.go:167", after := #[], guard := none }) (v := ?_) rfl (by kernel_rfl) (by kernel_rfl) (by kernel_rfl) (fun _ _ _ h => h) (Or.inl ⟨by rfl, ?_⟩) (by assumption) ?_
      rotate_left
      · intro w hSw
        (try dsimp only at hSw)
        go_simp
        (try with_reducible rfl)
      (try simp only [Act.put, List.setIfInBounds_toArray, List.set_cons_zero, List.set_cons_succ])
      refine wpAnyH_take (i := 2) (oi := { dst := some 9, op := Go.Op.load 47 (Go.Operand.tmp 8), type := 47, pos := "msg.go:167", after := #[{ on := 1, ground := Go.Ground.data }], guard := none }) (v := ?_) rfl (by kernel_rfl) (by kernel_rfl) (by kernel_rfl) (fun _ _ _ h => h) (Or.inl ⟨by rfl, ?_⟩) (by assumption) ?_
      rotate_left
      · intro w hSw
        (try dsimp only at hSw)
        go_simp
        (try with_reducible rfl)
      (try simp only [Act.put, List.setIfInBounds_toArray, List.set_cons_zero, List.set_cons_succ])
      refine wpAnyH_take (i := 3) (oi := { dst := some 10, op := Go.Op.nilCheck (Go.Operand.tmp 9), type := 0, pos := "msg.go:167", after := #[{ on := 2, ground := Go.Ground.data }], guard := none }) (v := ?_) rfl (by kernel_rfl) (by kernel_rfl) (by kernel_rfl) (fun _ _ _ h => h) (Or.inl ⟨by rfl, ?_⟩) (by assumption) ?_
      rotate_left
      · intro w hSw
        (try dsimp only at hSw)
        go_simp
        (try with_reducible rfl)
      (try simp only [Act.put, List.setIfInBounds_toArray, List.set_cons_zero, List.set_cons_succ])
      refine wpAnyH_take (i := 4) (oi := { dst := some 11, op := Go.Op.fieldAddr 27 (Go.Operand.tmp 10) 0, type := 0, pos := "msg.go:167", after := #[{ on := 3, ground := Go.Ground.data }], guard := none }) (v := ?_) rfl (by kernel_rfl) (by kernel_rfl) (by kernel_rfl) (fun _ _ _ h => h) (Or.inl ⟨by rfl, ?_⟩) (by assumption) ?_
      rotate_left
      · intro w hSw
        (try dsimp only at hSw)
        go_simp
        (try with_reducible rfl)
      (try simp only [Act.put, List.setIfInBounds_toArray, List.set_cons_zero, List.set_cons_succ])
      refine wpAnyH_take (i := 5) (oi := { dst := some 12, op := Go.Op.load 3 (Go.Operand.tmp 11), type := 3, pos := "msg.go:167", after := #[{ on := 4, ground := Go.Ground.data }], guard := none }) (v := ?_) rfl (by kernel_rfl) (by kernel_rfl) (by kernel_rfl) (fun _ _ _ h => h) (Or.inl ⟨by rfl, ?_⟩) (by assumption) ?_
      rotate_left
      · intro w hSw
        (try dsimp only at hSw)
        go_simp
        (try with_reducible rfl)
      (try simp only [Act.put, List.setIfInBounds_toArray, List.set_cons_zero, List.set_cons_succ])
      refine wpAnyH_ready (rs := [0]) (by kernel_rfl) (by simp) ?_
      refine AllReadyH.cons (o := { dst := some 7, op := Go.Op.call { callee := Go.Callee.value (Go.Operand.func 30), args := #[], argTypes := #[] }, type := 69, pos := "msg.go:167", after := #[], guard := none }) rfl (fun K hK => ?_) AllReadyH.nil
      go_simp
      refine (fields_any _).mono ?_
      rintro e w2 ⟨mb, rfl, hmap, B2⟩
      have B12 : Below w1.heap.size w1 w2 := ⟨B2.os, B2.tape, B2.output, B2.size, B2.block⟩
      have h2 := C.step H1.out.1 B12
      have hb2 := (BoxAt.frame (F := fun _ => False) H1.out.2.1 (Frame.of_below B12) H1.out.2.2.1 (fun x => x))
      obtain ⟨A, n, c, hd⟩ := C.cells h2
      have hk2 := (mCells_at hd).2.2.1
      have hs2 := (mCells_at hd).2.2.2
      rw [HK.out.1] at hk2
      rw [HK.out.2] at hs2
      obtain ⟨g, fs', hfs', hgb, hblk, hlk⟩ := hmap.yes HF.out.2
      obtain rfl : fs' = fs := Option.some.inj (hfs'.symm.trans HF.out.1)
      have HG := Lib.hid hblk
      have HGB : Hid (w1.heap.size ≤ g) := Lib.hid hgb
      clear hblk hfs' hgb
      have HS2 := Lib.hid (show CarrySt C b kd w2 from ⟨hb2, hk2⟩)
      have H2 := Lib.hid (And.intro h2 (And.intro hb2 B12))
      clear h2 hb2 hmap B2 B12 hd hk2
      refine hK.out _ _ HS2.out (fun hHeld2 => ?_)
      clear hK K hHeld
      (try simp only [Act.put, List.setIfInBounds_toArray, List.set_cons_zero, List.set_cons_succ])
      refine wpAnyH_ready (rs := [6]) (by kernel_rfl) (by simp) ?_
      refine AllReadyH.cons (o := { dst := some 13, op := Go.Op.lookup 69 (Go.Operand.tmp 7) (Go.Operand.tmp 12) true, type := 68, pos := "msg.go:167", after := #[{ on := 0, ground := Go.Ground.data }, { on := 5, ground := Go.Ground.data }], guard := none }) rfl (fun K hK => ?_) AllReadyH.nil
      go_simp
      refine hK.out _ _ HS2.out (fun hHeld3 => ?_)
      clear hK K hHeld2
      (try simp only [Act.put, List.setIfInBounds_toArray, List.set_cons_zero, List.set_cons_succ])
      refine wpAnyH_take (i := 7) (oi := { dst := some 6, op := Go.Op.move (Go.Operand.tmp 13), type := 68, pos := "msg.go:167", after := #[{ on := 6, ground := Go.Ground.data }], guard := none }) (v := ?_) rfl (by kernel_rfl) (by kernel_rfl) (by kernel_rfl) (fun _ _ _ h => h) (Or.inl ⟨by rfl, ?_⟩) (by assumption) ?_
      rotate_left
      · intro w hSw
        (try dsimp only at hSw)
        go_simp
        (try with_reducible rfl)
      (try simp only [Act.put, List.setIfInBounds_toArray, List.set_cons_zero, List.set_cons_succ])
      refine wpAnyH_take (i := 8) (oi := { dst := some 14, op := Go.Op.extract (Go.Operand.tmp 6) 0, type := 67, pos := "msg.go:167", after := #[{ on := 7, ground := Go.Ground.data }], guard := none }) (v := ?_) rfl (by kernel_rfl) (by kernel_rfl) (by kernel_rfl) (fun _ _ _ h => h) (Or.inl ⟨by rfl, ?_⟩) (by assumption) ?_
      rotate_left
      · intro w hSw
        (try dsimp only at hSw)
        go_simp
        (try with_reducible rfl)
      (try simp only [Act.put, List.setIfInBounds_toArray, List.set_cons_zero, List.set_cons_succ])
      refine wpAnyH_take (i := 9) (oi := { dst := some 15, op := Go.Op.extract (Go.Operand.tmp 6) 1, type := 4, pos := "msg.go:167", after := #[{ on := 7, ground := Go.Ground.data }, { on := 10, ground := Go.Ground.gcOnly Go.Departure.lateStores }], guard := none }) (v := ?_) rfl (by kernel_rfl) (by kernel_rfl) (by kernel_rfl) (fun _ _ _ h => h) (Or.inl ⟨by rfl, ?_⟩) (by assumption) ?_
      rotate_left
      · intro w hSw
        (try dsimp only at hSw)
        go_simp
        (try with_reducible rfl)
      (try simp only [Act.put, List.setIfInBounds_toArray, List.set_cons_zero, List.set_cons_succ])
      refine wpAnyH_take (i := 10) (oi := { dst := some 2, op := Go.Op.assign (Go.Operand.tmp 14), type := 67, pos := "msg.go:167", after := #[{ on := 8, ground := Go.Ground.data }, { on := 0, ground := Go.Ground.chain }, { on := 0, ground := Go.Ground.phase }, { on := 1, ground := Go.Ground.phase }, { on := 2, ground := Go.Ground.phase }, { on := 3, ground := Go.Ground.phase }, { on := 4, ground := Go.Ground.phase }, { on := 5, ground := Go.Ground.phase }, { on := 6, ground := Go.Ground.phase }, { on := 7, ground := Go.Ground.phase }, { on := 8, ground := Go.Ground.phase }, { on := 9, ground := Go.Ground.textOnly Go.Departure.lateStores }], guard := none }) (v := ?_) rfl (by kernel_rfl) (by kernel_rfl) (by kernel_rfl) (fun _ _ _ h => h) (Or.inl ⟨by rfl, ?_⟩) (by assumption) ?_
      rotate_left
      · intro w hSw
        (try dsimp only at hSw)
        go_simp
        (try with_reducible rfl)
      (try simp only [Act.put, List.setIfInBounds_toArray, List.set_cons_zero, List.set_cons_succ])
      refine wpAnyH_take (i := 11) (oi := { dst := some 3, op := Go.Op.assign (Go.Operand.tmp 15), type := 4, pos := "msg.go:167", after := #[{ on := 9, ground := Go.Ground.data }, { on := 10, ground := Go.Ground.chain }, { on := 0, ground := Go.Ground.phase }, { on := 1, ground := Go.Ground.phase }, { on := 2, ground := Go.Ground.phase }, { on := 3, ground := Go.Ground.phase }, { on := 4, ground := Go.Ground.phase }, { on := 5, ground := Go.Ground.phase }, { on := 6, ground := Go.Ground.phase }, { on := 7, ground := Go.Ground.phase }, { on := 8, ground := Go.Ground.phase }, { on := 9, ground := Go.Ground.phase }, { on := 10, ground := Go.Ground.phase }], guard := none }) (v := ?_) rfl (by kernel_rfl) (by kernel_rfl) (by kernel_rfl) (fun _ _ _ h => h) (Or.inl ⟨by rfl, ?_⟩) (by assumption) ?_
      rotate_left
      · intro w hSw
        (try dsimp only at hSw)
        go_simp
        (try with_reducible rfl)
      (try simp only [Act.put, List.setIfInBounds_toArray, List.set_cons_zero, List.set_cons_succ])
      refine wpAnyH_done (by kernel_rfl) ?_ _
      clear hHeld3 hlk
      obtain ⟨bx0, bx1⟩ := HS2.out.1
      have za := allow_yes sr 2 1 HR.out.1 HR.out.2 w2
      go_wp2_with (go_at_call 31; (with_reducible refine za.mono ?_); (rintro e w3 ⟨rfl, rfl⟩))
      clear hs2 bx0 bx1
      have hCP : CarPost (fun w F (s : M × α) => C.Inv w F s.1 s.2) w2 F (m, a) w2 := ⟨F, H2.out.1, fun _ hk => .inl hk, Frame.refl _ _⟩
      have hlen := fields_len HF.out.1
      obtain ⟨tot, htot⟩ : ∃ x, x = run C.o (fs'.flatMap parts) (m, a) := ⟨_, rfl⟩
      have hbl : b < w2.heap.size := by have := H2.out.2.2.size; have := H1.out.2.2.1; omega
      have HB := Lib.hid (And.intro H2.out.2.1 hbl)
      have HL := Lib.hid hlen
      have HT := Lib.hid htot
      rw [← htot]
      clear za htot hlen hbl
      go_loopw [27] (fun i wr => ∃ (k : Nat) (s : M × α), k ≤ fs'.length ∧ i = .int .i64 (k : Int) ∧ run C.o ((fs'.drop k).flatMap parts) s = tot ∧ C.small (3 * (fs'.length - k)) s.2 ∧ CarPost (fun w F (s : M × α) => C.Inv w F s.1 s.2) w2 F s wr) (fun i _ => fs'.length - (intOf i).toNat)
      case atStart => exact ⟨0, (m, a), Nat.zero_le _, rfl, HT.out.symm, less_many C (j := 20 - 3 * fs'.length) (by have := HL.out; rw [show 3 * (fs'.length - 0) + (20 - 3 * fs'.length) = 20 by omega]; exact HSm.out), hCP⟩
      case round =>
        obtain ⟨k, s, hk, rfl, hrun, hsm, hcp⟩ := hrel
        by_cases hkn : k < fs'.length
        · obtain ⟨F2, hI, hF2, hR2⟩ := hcp
          have hb1 := H1.out.2.2.1
          have hB2 := H2.out.2.2.size
          have hnb : ¬ F2 b := fun hf => (hF2 b hf).elim (fun h => by have := H1.out.2.2.2.1 b h; omega) (fun h => by have := HB.out.2; omega)
          have hng : ¬ F2 g := fun hf => (hF2 g hf).elim (fun h => by have := H1.out.2.2.2.1 g h; have := HGB.out; omega) (fun h => by have := HG.out.lt; omega)
          have hbr := HB.out.1.frame hR2 HB.out.2 (fun h => by have := H1.out.2.2.2.1 b h; omega)
          obtain ⟨bx0, bx1⟩ := hbr
          have hgr : BlkR 72 wr g (fs'.map fnV) := (hR2.block g HG.out.lt (fun h => by have := H1.out.2.2.2.1 g h; have := HGB.out; omega)).trans HG.out
          obtain ⟨f, hf⟩ : ∃ f, fs'[k]? = some f := ⟨fs'[k], List.getElem?_eq_getElem hkn⟩
          have hcell := hgr.cell (k := k) (u := fnV f) (by rw [List.getElem?_map, hf]; rfl)
          have hidx : (0 : Int) ≤ (k : Int) ∧ (k : Int) < (fs'.length : Int) := by omega
          have hcf := call_fn f
          have hz := fld_any C hI (less_many C (j := 3 * (fs'.length - k) - 3) (by rw [show 3 + (3 * (fs'.length - k) - 3) = 3 * (fs'.length - k) by omega]; exact hsm)) f
          have hdrop : fs'.drop k = f :: fs'.drop (k + 1) := by rw [List.drop_eq_getElem_cons hkn]; congr 1; rw [List.getElem?_eq_getElem hkn] at hf; exact Option.some.inj hf
          rw [hdrop, List.flatMap_cons, run_append] at hrun
          unfold Carr.val at hz
          unfold fnV at hcell
          have HX := Lib.hid (And.intro hF2 hR2)
          have HU := Lib.hid hsm
          cases hr : run C.o (parts f) s with
          | no er at_ =>
            rw [hr] at hz hrun
            have HT2 : Hid (tot = .no er at_) := Lib.hid hrun.symm
            clear hr hrun hgr hf hnb hng hI hF2 hR2 hdrop hb1 hB2 hsm hk
            go_wp2_with ((with_reducible refine hz.mono ?_); (rintro e w5 ⟨rfl, hfr⟩))
            refine ⟨rfl, ?_⟩
            rw [HT2.out]
            exact ⟨rfl, (Frame.of_below (step_trans H1.out.2.2.2.2 H2.out.2.2)).trans (HX.out.2.trans hfr HX.out.1) (fun _ hk => .inl hk)⟩
          | ok s2 =>
            have hs2 := run_small C hr (k := 3 * (fs'.length - (k + 1))) (less_many C (j := 3 - (parts f).length) (by have := parts_len f; rw [show 3 * (fs'.length - (k + 1)) + (parts f).length + (3 - (parts f).length) = 3 * (fs'.length - k) by omega]; exact hsm))
            rw [hr] at hz hrun
            have HT2 := Lib.hid (And.intro hrun hs2)
            clear hr hrun hgr hf hnb hng hI hF2 hR2 hdrop hb1 hB2 hsm hs2 hk
            go_wp2_with ((with_reducible refine hz.mono ?_); (rintro e w5 ⟨rfl, hfr⟩; have HV := Lib.hid hfr; clear hfr))
            go_roundw
            case rel => exact ⟨k + 1, s2, hkn, congrArg _ (by have := HL.out; unfold Go.RowKit.wrap64; omega), HT2.out.1, HT2.out.2, CarPost.trans HX.out.1 HX.out.2 HV.out⟩
            case measure =>
              have hl := HL.out
              have hw : Go.RowKit.wrap64 ((k : Int) + 1) = ((k + 1 : Nat) : Int) := by unfold Go.RowKit.wrap64; omega
              rw [hw]
              simp [intOf]; omega
        · obtain rfl : k = fs'.length := by omega
          rw [List.drop_length] at hrun
          have HR2 : Hid (tot = .ok s) := Lib.hid hrun.symm
          have HC := Lib.hid hcp
          clear hrun hsm hcp hk hkn
          go_wp2
          go_end0
          rw [HR2.out]
          exact ⟨rfl, CarPost.first (step_trans H1.out.2.2.2.2 H2.out.2.2) HC.out⟩
    · rw [if_neg hsr]
      have HR := Lib.hid hsr
      clear hsr
      go_enter Try.func19, Try.ntmps19
      go_wp2
      rw [← hw1, ← hbe]
      clear hw1 hbe
      refine wp_region_held_drew (S := CarrySt C b kd) (by kernel_rfl) HS.out (fun hHeld => ?_)
      unfold CarrySt BoxAt at hHeld ⊢
      refine wpAnyH_take (i := 1) (oi := { dst := some 8, op := Go.Op.fieldAddr 51 (Go.Operand.tmp 1) 0, type := 0, pos := "msg.go:167", after := #[], guard := none }) (v := ?_) rfl (by kernel_rfl) (by kernel_rfl) (by kernel_rfl) (fun _ _ _ h => h) (Or.inl ⟨by rfl, ?_⟩) (by assumption) ?_
      rotate_left
      · intro w hSw
        (try dsimp only at hSw)
        go_simp
        (try with_reducible rfl)
      (try simp only [Act.put, List.setIfInBounds_toArray, List.set_cons_zero, List.set_cons_succ])
      refine wpAnyH_take (i := 2) (oi := { dst := some 9, op := Go.Op.load 47 (Go.Operand.tmp 8), type := 47, pos := "msg.go:167", after := #[{ on := 1, ground := Go.Ground.data }], guard := none }) (v := ?_) rfl (by kernel_rfl) (by kernel_rfl) (by kernel_rfl) (fun _ _ _ h => h) (Or.inl ⟨by rfl, ?_⟩) (by assumption) ?_
      rotate_left
      · intro w hSw
        (try dsimp only at hSw)
        go_simp
        (try with_reducible rfl)
      (try simp only [Act.put, List.setIfInBounds_toArray, List.set_cons_zero, List.set_cons_succ])
      refine wpAnyH_take (i := 3) (oi := { dst := some 10, op := Go.Op.nilCheck (Go.Operand.tmp 9), type := 0, pos := "msg.go:167", after := #[{ on := 2, ground := Go.Ground.data }], guard := none }) (v := ?_) rfl (by kernel_rfl) (by kernel_rfl) (by kernel_rfl) (fun _ _ _ h => h) (Or.inl ⟨by rfl, ?_⟩) (by assumption) ?_
      rotate_left
      · intro w hSw
        (try dsimp only at hSw)
        go_simp
        (try with_reducible rfl)
      (try simp only [Act.put, List.setIfInBounds_toArray, List.set_cons_zero, List.set_cons_succ])
      refine wpAnyH_take (i := 4) (oi := { dst := some 11, op := Go.Op.fieldAddr 27 (Go.Operand.tmp 10) 0, type := 0, pos := "msg.go:167", after := #[{ on := 3, ground := Go.Ground.data }], guard := none }) (v := ?_) rfl (by kernel_rfl) (by kernel_rfl) (by kernel_rfl) (fun _ _ _ h => h) (Or.inl ⟨by rfl, ?_⟩) (by assumption) ?_
      rotate_left
      · intro w hSw
        (try dsimp only at hSw)
        go_simp
        (try with_reducible rfl)
      (try simp only [Act.put, List.setIfInBounds_toArray, List.set_cons_zero, List.set_cons_succ])
      refine wpAnyH_take (i := 5) (oi := { dst := some 12, op := Go.Op.load 3 (Go.Operand.tmp 11), type := 3, pos := "msg.go:167", after := #[{ on := 4, ground := Go.Ground.data }], guard := none }) (v := ?_) rfl (by kernel_rfl) (by kernel_rfl) (by kernel_rfl) (fun _ _ _ h => h) (Or.inl ⟨by rfl, ?_⟩) (by assumption) ?_
      rotate_left
      · intro w hSw
        (try dsimp only at hSw)
        go_simp
        (try with_reducible rfl)
      (try simp only [Act.put, List.setIfInBounds_toArray, List.set_cons_zero, List.set_cons_succ])
      refine wpAnyH_ready (rs := [0]) (by kernel_rfl) (by simp) ?_
      refine AllReadyH.cons (o := { dst := some 7, op := Go.Op.call { callee := Go.Callee.value (Go.Operand.func 30), args := #[], argTypes := #[] }, type := 69, pos := "msg.go:167", after := #[], guard := none }) rfl (fun K hK => ?_) AllReadyH.nil
      go_simp
      refine (fields_any _).mono ?_
      rintro e w2 ⟨mb, rfl, hmap, B2⟩
      have B12 : Below w1.heap.size w1 w2 := ⟨B2.os, B2.tape, B2.output, B2.size, B2.block⟩
      have h2 := C.step H1.out.1 B12
      have hb2 := (BoxAt.frame (F := fun _ => False) H1.out.2.1 (Frame.of_below B12) H1.out.2.2.1 (fun x => x))
      obtain ⟨A, n, c, hd⟩ := C.cells h2
      have hk2 := (mCells_at hd).2.2.1
      have hs2 := (mCells_at hd).2.2.2
      rw [HK.out.1] at hk2
      rw [HK.out.2] at hs2
      obtain ⟨g, fs', hfs', hgb, hblk, hlk⟩ := hmap.yes HF.out.2
      obtain rfl : fs' = fs := Option.some.inj (hfs'.symm.trans HF.out.1)
      have HG := Lib.hid hblk
      have HGB : Hid (w1.heap.size ≤ g) := Lib.hid hgb
      clear hblk hfs' hgb
      have HS2 := Lib.hid (show CarrySt C b kd w2 from ⟨hb2, hk2⟩)
      have H2 := Lib.hid (And.intro h2 (And.intro hb2 B12))
      clear h2 hb2 hmap B2 B12 hd hk2
      refine hK.out _ _ HS2.out (fun hHeld2 => ?_)
      clear hK K hHeld
      (try simp only [Act.put, List.setIfInBounds_toArray, List.set_cons_zero, List.set_cons_succ])
      refine wpAnyH_ready (rs := [6]) (by kernel_rfl) (by simp) ?_
      refine AllReadyH.cons (o := { dst := some 13, op := Go.Op.lookup 69 (Go.Operand.tmp 7) (Go.Operand.tmp 12) true, type := 68, pos := "msg.go:167", after := #[{ on := 0, ground := Go.Ground.data }, { on := 5, ground := Go.Ground.data }], guard := none }) rfl (fun K hK => ?_) AllReadyH.nil
      go_simp
      refine hK.out _ _ HS2.out (fun hHeld3 => ?_)
      clear hK K hHeld2
      (try simp only [Act.put, List.setIfInBounds_toArray, List.set_cons_zero, List.set_cons_succ])
      refine wpAnyH_take (i := 7) (oi := { dst := some 6, op := Go.Op.move (Go.Operand.tmp 13), type := 68, pos := "msg.go:167", after := #[{ on := 6, ground := Go.Ground.data }], guard := none }) (v := ?_) rfl (by kernel_rfl) (by kernel_rfl) (by kernel_rfl) (fun _ _ _ h => h) (Or.inl ⟨by rfl, ?_⟩) (by assumption) ?_
      rotate_left
      · intro w hSw
        (try dsimp only at hSw)
        go_simp
        (try with_reducible rfl)
      (try simp only [Act.put, List.setIfInBounds_toArray, List.set_cons_zero, List.set_cons_succ])
      refine wpAnyH_take (i := 8) (oi := { dst := some 14, op := Go.Op.extract (Go.Operand.tmp 6) 0, type := 67, pos := "msg.go:167", after := #[{ on := 7, ground := Go.Ground.data }], guard := none }) (v := ?_) rfl (by kernel_rfl) (by kernel_rfl) (by kernel_rfl) (fun _ _ _ h => h) (Or.inl ⟨by rfl, ?_⟩) (by assumption) ?_
      rotate_left
      · intro w hSw
        (try dsimp only at hSw)
        go_simp
        (try with_reducible rfl)
      (try simp only [Act.put, List.setIfInBounds_toArray, List.set_cons_zero, List.set_cons_succ])
      refine wpAnyH_take (i := 9) (oi := { dst := some 15, op := Go.Op.extract (Go.Operand.tmp 6) 1, type := 4, pos := "msg.go:167", after := #[{ on := 7, ground := Go.Ground.data }, { on := 10, ground := Go.Ground.gcOnly Go.Departure.lateStores }], guard := none }) (v := ?_) rfl (by kernel_rfl) (by kernel_rfl) (by kernel_rfl) (fun _ _ _ h => h) (Or.inl ⟨by rfl, ?_⟩) (by assumption) ?_
      rotate_left
      · intro w hSw
        (try dsimp only at hSw)
        go_simp
        (try with_reducible rfl)
      (try simp only [Act.put, List.setIfInBounds_toArray, List.set_cons_zero, List.set_cons_succ])
      refine wpAnyH_take (i := 10) (oi := { dst := some 2, op := Go.Op.assign (Go.Operand.tmp 14), type := 67, pos := "msg.go:167", after := #[{ on := 8, ground := Go.Ground.data }, { on := 0, ground := Go.Ground.chain }, { on := 0, ground := Go.Ground.phase }, { on := 1, ground := Go.Ground.phase }, { on := 2, ground := Go.Ground.phase }, { on := 3, ground := Go.Ground.phase }, { on := 4, ground := Go.Ground.phase }, { on := 5, ground := Go.Ground.phase }, { on := 6, ground := Go.Ground.phase }, { on := 7, ground := Go.Ground.phase }, { on := 8, ground := Go.Ground.phase }, { on := 9, ground := Go.Ground.textOnly Go.Departure.lateStores }], guard := none }) (v := ?_) rfl (by kernel_rfl) (by kernel_rfl) (by kernel_rfl) (fun _ _ _ h => h) (Or.inl ⟨by rfl, ?_⟩) (by assumption) ?_
      rotate_left
      · intro w hSw
        (try dsimp only at hSw)
        go_simp
        (try with_reducible rfl)
      (try simp only [Act.put, List.setIfInBounds_toArray, List.set_cons_zero, List.set_cons_succ])
      refine wpAnyH_take (i := 11) (oi := { dst := some 3, op := Go.Op.assign (Go.Operand.tmp 15), type := 4, pos := "msg.go:167", after := #[{ on := 9, ground := Go.Ground.data }, { on := 10, ground := Go.Ground.chain }, { on := 0, ground := Go.Ground.phase }, { on := 1, ground := Go.Ground.phase }, { on := 2, ground := Go.Ground.phase }, { on := 3, ground := Go.Ground.phase }, { on := 4, ground := Go.Ground.phase }, { on := 5, ground := Go.Ground.phase }, { on := 6, ground := Go.Ground.phase }, { on := 7, ground := Go.Ground.phase }, { on := 8, ground := Go.Ground.phase }, { on := 9, ground := Go.Ground.phase }, { on := 10, ground := Go.Ground.phase }], guard := none }) (v := ?_) rfl (by kernel_rfl) (by kernel_rfl) (by kernel_rfl) (fun _ _ _ h => h) (Or.inl ⟨by rfl, ?_⟩) (by assumption) ?_
      rotate_left
      · intro w hSw
        (try dsimp only at hSw)
        go_simp
        (try with_reducible rfl)
      (try simp only [Act.put, List.setIfInBounds_toArray, List.set_cons_zero, List.set_cons_succ])
      refine wpAnyH_done (by kernel_rfl) ?_ _
      clear hHeld3 hlk
      obtain ⟨bx0, bx1⟩ := HS2.out.1
      have za := allow_no sr 2 1 (by have := HR.out; omega) w2
      go_wp2_with (go_at_call 31; (with_reducible refine za.mono ?_); (rintro e w3 ⟨rfl, rfl⟩))
      exact ⟨rfl, rfl, Frame.of_below (step_trans H1.out.2.2.2.2 H2.out.2.2)⟩
  · rw [hkn]
    simp only
    have HF := Lib.hid hkn
    clear hkn
    go_enter Try.func19, Try.ntmps19
    go_wp2
    rw [← hw1, ← hbe]
    clear hw1 hbe
    refine wp_region_held_drew (S := CarrySt C b kd) (by kernel_rfl) HS.out (fun hHeld => ?_)
    unfold CarrySt BoxAt at hHeld ⊢
    refine wpAnyH_take (i := 1) (oi := { dst := some 8, op := Go.Op.fieldAddr 51 (Go.Operand.tmp 1) 0, type := 0, pos := "msg.go:167", after := #[], guard := none }) (v := ?_) rfl (by kernel_rfl) (by kernel_rfl) (by kernel_rfl) (fun _ _ _ h => h) (Or.inl ⟨by rfl, ?_⟩) (by assumption) ?_
    rotate_left
    · intro w hSw
      (try dsimp only at hSw)
      go_simp
      (try with_reducible rfl)
    (try simp only [Act.put, List.setIfInBounds_toArray, List.set_cons_zero, List.set_cons_succ])
    refine wpAnyH_take (i := 2) (oi := { dst := some 9, op := Go.Op.load 47 (Go.Operand.tmp 8), type := 47, pos := "msg.go:167", after := #[{ on := 1, ground := Go.Ground.data }], guard := none }) (v := ?_) rfl (by kernel_rfl) (by kernel_rfl) (by kernel_rfl) (fun _ _ _ h => h) (Or.inl ⟨by rfl, ?_⟩) (by assumption) ?_
    rotate_left
    · intro w hSw
      (try dsimp only at hSw)
      go_simp
      (try with_reducible rfl)
    (try simp only [Act.put, List.setIfInBounds_toArray, List.set_cons_zero, List.set_cons_succ])
    refine wpAnyH_take (i := 3) (oi := { dst := some 10, op := Go.Op.nilCheck (Go.Operand.tmp 9), type := 0, pos := "msg.go:167", after := #[{ on := 2, ground := Go.Ground.data }], guard := none }) (v := ?_) rfl (by kernel_rfl) (by kernel_rfl) (by kernel_rfl) (fun _ _ _ h => h) (Or.inl ⟨by rfl, ?_⟩) (by assumption) ?_
    rotate_left
    · intro w hSw
      (try dsimp only at hSw)
      go_simp
      (try with_reducible rfl)
    (try simp only [Act.put, List.setIfInBounds_toArray, List.set_cons_zero, List.set_cons_succ])
    refine wpAnyH_take (i := 4) (oi := { dst := some 11, op := Go.Op.fieldAddr 27 (Go.Operand.tmp 10) 0, type := 0, pos := "msg.go:167", after := #[{ on := 3, ground := Go.Ground.data }], guard := none }) (v := ?_) rfl (by kernel_rfl) (by kernel_rfl) (by kernel_rfl) (fun _ _ _ h => h) (Or.inl ⟨by rfl, ?_⟩) (by assumption) ?_
    rotate_left
    · intro w hSw
      (try dsimp only at hSw)
      go_simp
      (try with_reducible rfl)
    (try simp only [Act.put, List.setIfInBounds_toArray, List.set_cons_zero, List.set_cons_succ])
    refine wpAnyH_take (i := 5) (oi := { dst := some 12, op := Go.Op.load 3 (Go.Operand.tmp 11), type := 3, pos := "msg.go:167", after := #[{ on := 4, ground := Go.Ground.data }], guard := none }) (v := ?_) rfl (by kernel_rfl) (by kernel_rfl) (by kernel_rfl) (fun _ _ _ h => h) (Or.inl ⟨by rfl, ?_⟩) (by assumption) ?_
    rotate_left
    · intro w hSw
      (try dsimp only at hSw)
      go_simp
      (try with_reducible rfl)
    (try simp only [Act.put, List.setIfInBounds_toArray, List.set_cons_zero, List.set_cons_succ])
    refine wpAnyH_ready (rs := [0]) (by kernel_rfl) (by simp) ?_
    refine AllReadyH.cons (o := { dst := some 7, op := Go.Op.call { callee := Go.Callee.value (Go.Operand.func 30), args := #[], argTypes := #[] }, type := 69, pos := "msg.go:167", after := #[], guard := none }) rfl (fun K hK => ?_) AllReadyH.nil
    go_simp
    refine (fields_any _).mono ?_
    rintro e w2 ⟨mb, rfl, hmap, B2⟩
    have B12 : Below w1.heap.size w1 w2 := ⟨B2.os, B2.tape, B2.output, B2.size, B2.block⟩
    have h2 := C.step H1.out.1 B12
    have hb2 := (BoxAt.frame (F := fun _ => False) H1.out.2.1 (Frame.of_below B12) H1.out.2.2.1 (fun x => x))
    obtain ⟨A, n, c, hd⟩ := C.cells h2
    have hk2 := (mCells_at hd).2.2.1
    have hs2 := (mCells_at hd).2.2.2
    rw [HK.out.1] at hk2
    rw [HK.out.2] at hs2
    have hlk := hmap.no (known_no HF.out)
    have HS2 := Lib.hid (show CarrySt C b kd w2 from ⟨hb2, hk2⟩)
    have H2 := Lib.hid (And.intro h2 (And.intro hb2 B12))
    clear h2 hb2 hmap B2 B12 hd hk2
    refine hK.out _ _ HS2.out (fun hHeld2 => ?_)
    clear hK K hHeld
    (try simp only [Act.put, List.setIfInBounds_toArray, List.set_cons_zero, List.set_cons_succ])
    refine wpAnyH_ready (rs := [6]) (by kernel_rfl) (by simp) ?_
    refine AllReadyH.cons (o := { dst := some 13, op := Go.Op.lookup 69 (Go.Operand.tmp 7) (Go.Operand.tmp 12) true, type := 68, pos := "msg.go:167", after := #[{ on := 0, ground := Go.Ground.data }, { on := 5, ground := Go.Ground.data }], guard := none }) rfl (fun K hK => ?_) AllReadyH.nil
    go_simp
    refine hK.out _ _ HS2.out (fun hHeld3 => ?_)
    clear hK K hHeld2
    (try simp only [Act.put, List.setIfInBounds_toArray, List.set_cons_zero, List.set_cons_succ])
    refine wpAnyH_take (i := 7) (oi := { dst := some 6, op := Go.Op.move (Go.Operand.tmp 13), type := 68, pos := "msg.go:167", after := #[{ on := 6, ground := Go.Ground.data }], guard := none }) (v := ?_) rfl (by kernel_rfl) (by kernel_rfl) (by kernel_rfl) (fun _ _ _ h => h) (Or.inl ⟨by rfl, ?_⟩) (by assumption) ?_
    rotate_left
    · intro w hSw
      (try dsimp only at hSw)
      go_simp
      (try with_reducible rfl)
    (try simp only [Act.put, List.setIfInBounds_toArray, List.set_cons_zero, List.set_cons_succ])
    refine wpAnyH_take (i := 8) (oi := { dst := some 14, op := Go.Op.extract (Go.Operand.tmp 6) 0, type := 67, pos := "msg.go:167", after := #[{ on := 7, ground := Go.Ground.data }], guard := none }) (v := ?_) rfl (by kernel_rfl) (by kernel_rfl) (by kernel_rfl) (fun _ _ _ h => h) (Or.inl ⟨by rfl, ?_⟩) (by assumption) ?_
    rotate_left
    · intro w hSw
      (try dsimp only at hSw)
      go_simp
      (try with_reducible rfl)
    (try simp only [Act.put, List.setIfInBounds_toArray, List.set_cons_zero, List.set_cons_succ])
    refine wpAnyH_take (i := 9) (oi := { dst := some 15, op := Go.Op.extract (Go.Operand.tmp 6) 1, type := 4, pos := "msg.go:167", after := #[{ on := 7, ground := Go.Ground.data }, { on := 10, ground := Go.Ground.gcOnly Go.Departure.lateStores }], guard := none }) (v := ?_) rfl (by kernel_rfl) (by kernel_rfl) (by kernel_rfl) (fun _ _ _ h => h) (Or.inl ⟨by rfl, ?_⟩) (by assumption) ?_
    rotate_left
    · intro w hSw
      (try dsimp only at hSw)
      go_simp
      (try with_reducible rfl)
    (try simp only [Act.put, List.setIfInBounds_toArray, List.set_cons_zero, List.set_cons_succ])
    refine wpAnyH_take (i := 10) (oi := { dst := some 2, op := Go.Op.assign (Go.Operand.tmp 14), type := 67, pos := "msg.go:167", after := #[{ on := 8, ground := Go.Ground.data }, { on := 0, ground := Go.Ground.chain }, { on := 0, ground := Go.Ground.phase }, { on := 1, ground := Go.Ground.phase }, { on := 2, ground := Go.Ground.phase }, { on := 3, ground := Go.Ground.phase }, { on := 4, ground := Go.Ground.phase }, { on := 5, ground := Go.Ground.phase }, { on := 6, ground := Go.Ground.phase }, { on := 7, ground := Go.Ground.phase }, { on := 8, ground := Go.Ground.phase }, { on := 9, ground := Go.Ground.textOnly Go.Departure.lateStores }], guard := none }) (v := ?_) rfl (by kernel_rfl) (by kernel_rfl) (by kernel_rfl) (fun _ _ _ h => h) (Or.inl ⟨by rfl, ?_⟩) (by assumption) ?_
    rotate_left
    · intro w hSw
      (try dsimp only at hSw)
      go_simp
      (try with_reducible rfl)
    (try simp only [Act.put, List.setIfInBounds_toArray, List.set_cons_zero, List.set_cons_succ])
    refine wpAnyH_take (i := 11) (oi := { dst := some 3, op := Go.Op.assign (Go.Operand.tmp 15), type := 4, pos := "msg.go:167", after := #[{ on := 9, ground := Go.Ground.data }, { on := 10, ground := Go.Ground.chain }, { on := 0, ground := Go.Ground.phase }, { on := 1, ground := Go.Ground.phase }, { on := 2, ground := Go.Ground.phase }, { on := 3, ground := Go.Ground.phase }, { on := 4, ground := Go.Ground.phase }, { on := 5, ground := Go.Ground.phase }, { on := 6, ground := Go.Ground.phase }, { on := 7, ground := Go.Ground.phase }, { on := 8, ground := Go.Ground.phase }, { on := 9, ground := Go.Ground.phase }, { on := 10, ground := Go.Ground.phase }], guard := none }) (v := ?_) rfl (by kernel_rfl) (by kernel_rfl) (by kernel_rfl) (fun _ _ _ h => h) (Or.inl ⟨by rfl, ?_⟩) (by assumption) ?_
    rotate_left
    · intro w hSw
      (try dsimp only at hSw)
      go_simp
      (try with_reducible rfl)
    (try simp only [Act.put, List.setIfInBounds_toArray, List.set_cons_zero, List.set_cons_succ])
    refine wpAnyH_done (by kernel_rfl) ?_ _
    clear hHeld3 hlk
    obtain ⟨bx0, bx1⟩ := HS2.out.1
    go_wp2_with (go_at_call 28; (with_reducible refine (refuse_any _ _ _).mono ?_); (rintro e w3 ⟨rfl, rfl⟩))
    exact ⟨rfl, rfl, Frame.of_below (step_trans H1.out.2.2.2.2 H2.out.2.2)⟩
end
end Go.Proofs.Ytfiijnpabmocdaa
