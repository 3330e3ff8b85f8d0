/-
  What the writer's methods do: long, bytes; the writer as a carrier. Conditions: none.
-/
import Derived.Test.YtfiijnpabmocdaaMgWrC
import Derived.Deep.RegionHeld3
namespace Go.Proofs.Ytfiijnpabmocdaa
open Go.RowKit Mg

section
variable {base gm gw : Nat} {w : World} {F : Nat → Prop} {m : M} {a : List UInt8}
set_option maxRecDepth 100000 in
set_option maxHeartbeats 1000000 in
theorem wLon (h : WrInv base gm gw w F m a) (hsm : a.length + 32 * 1 ≤ 1000) (n : Nat) : Calls Try.prog 67 #[.pointer (some ⟨gw, 0, none⟩), .int .u64 (n : Int)] w (LonPost (fun w F a => WrInv base gm gw w F m a) w F (wOps.lon a n)) := by
  rw [show wOps.lon a n = .ok (0, a ++ Fix.dig n 8) from rfl]
  obtain ⟨A, c, g, cg, h⟩ := h
  have B0 : Below w.heap.size w w.drew := (Below.refl _ w).drew
  have h1 := h.step B0
  have c1 := h1.wr.cell (k := 0) rfl
  have z2 := long_any n w.drew
  have hl := Fix.dig_length n 8
  have hne : Fix.dig n 8 ≠ [] := fun e => by rw [e] at hl; simp at hl
  have H := Lib.hid h
  have H1 := Lib.hid (And.intro h1 B0)
  have HB := Lib.hid (And.intro hl hne)
  have HS := Lib.hid hsm
  clear h h1 hl hne hsm B0
  go_enter Try.func67, Try.ntmps67
  go_wp2
  refine wp_region_held_drew (S := fun _ => True) (by kernel_rfl) trivial (fun hHeld => ?_)
  refine wpAnyH_take (i := 0) (oi := { dst := some 5, op := Go.Op.move (Go.Operand.tmp 0), type := 44, pos := "msg.go:71", after := #[], guard := none }) (v := ?_) rfl (by kernel_rfl) (by kernel_rfl) (by kernel_rfl) (fun _ _ _ h => h) (Or.inl ⟨by rfl, ?_⟩) (by assumption) ?_
  rotate_left
  · intro w hSw
    (try dsimp only at hSw)
    go_simp
    (try with_reducible rfl)
  (try simp only [Act.put, List.setIfInBounds_toArray, List.set_cons_zero, List.set_cons_succ])
  refine wpAnyH_take (i := 1) (oi := { dst := some 6, op := Go.Op.move (Go.Operand.tmp 0), type := 44, pos := "msg.go:71", after := #[], guard := none }) (v := ?_) rfl (by kernel_rfl) (by kernel_rfl) (by kernel_rfl) (fun _ _ _ h => h) (Or.inl ⟨by rfl, ?_⟩) (by assumption) ?_
  rotate_left
  · intro w hSw
    (try dsimp only at hSw)
    go_simp
    (try with_reducible rfl)
  (try simp only [Act.put, List.setIfInBounds_toArray, List.set_cons_zero, List.set_cons_succ])
  refine wpAnyH_take (i := 2) (oi := { dst := some 7, op := Go.Op.nilCheck (Go.Operand.tmp 6), type := 0, pos := "msg.go:71", after := #[{ on := 1, ground := Go.Ground.data }], guard := none }) (v := ?_) rfl (by kernel_rfl) (by kernel_rfl) (by kernel_rfl) (fun _ _ _ h => h) (Or.inl ⟨by rfl, ?_⟩) (by assumption) ?_
  rotate_left
  · intro w hSw
    (try dsimp only at hSw)
    go_simp
    (try with_reducible rfl)
  (try simp only [Act.put, List.setIfInBounds_toArray, List.set_cons_zero, List.set_cons_succ])
  refine wpAnyH_take (i := 3) (oi := { dst := some 8, op := Go.Op.fieldAddr 46 (Go.Operand.tmp 7) 0, type := 0, pos := "msg.go:71", after := #[{ on := 2, ground := Go.Ground.data }], guard := none }) (v := ?_) rfl (by kernel_rfl) (by kernel_rfl) (by kernel_rfl) (fun _ _ _ h => h) (Or.inl ⟨by rfl, ?_⟩) (by assumption) ?_
  rotate_left
  · intro w hSw
    (try dsimp only at hSw)
    go_simp
    (try with_reducible rfl)
  (try simp only [Act.put, List.setIfInBounds_toArray, List.set_cons_zero, List.set_cons_succ])
  refine wpAnyH_take (i := 5) (oi := { dst := some 10, op := Go.Op.move (Go.Operand.tmp 1), type := 24, pos := "msg.go:71", after := #[], guard := none }) (v := ?_) rfl (by kernel_rfl) (by kernel_rfl) (by kernel_rfl) (fun _ _ _ h => h) (Or.inl ⟨by rfl, ?_⟩) (by assumption) ?_
  rotate_left
  · intro w hSw
    (try dsimp only at hSw)
    go_simp
    (try with_reducible rfl)
  (try simp only [Act.put, List.setIfInBounds_toArray, List.set_cons_zero, List.set_cons_succ])
  refine wpAnyH_ready (rs := [4, 6]) (by kernel_rfl) (by simp) ?_
  refine AllReadyH.cons (o := { dst := some 9, op := Go.Op.load 25 (Go.Operand.tmp 8), type := 25, pos := "msg.go:71", after := #[{ on := 3, ground := Go.Ground.data }], guard := none }) rfl (fun K hK => ?_) (AllReadyH.cons (o := { dst := some 11, op := Go.Op.call { callee := Go.Callee.value (Go.Operand.func 69), args := #[Go.Operand.tmp 10], argTypes := #[24] }, type := 25, pos := "msg.go:71", after := #[{ on := 5, ground := Go.Ground.data }], guard := none }) rfl (fun K hK => ?_) AllReadyH.nil)
  · go_simp
    refine hK.out _ _ trivial (fun hHeld3 => ?_)
    clear hK K
    (try simp only [Act.put, List.setIfInBounds_toArray, List.set_cons_zero, List.set_cons_succ])
    refine wpAnyH_ready (rs := [6]) (by kernel_rfl) (by simp) ?_
    refine AllReadyH.cons (o := { dst := some 11, op := Go.Op.call { callee := Go.Callee.value (Go.Operand.func 69), args := #[Go.Operand.tmp 10], argTypes := #[24] }, type := 25, pos := "msg.go:71", after := #[{ on := 5, ground := Go.Ground.data }], guard := none }) rfl (fun K hK => ?_) AllReadyH.nil
    go_simp
    refine z2.mono ?_
    rintro e w2 ⟨g2, rfl, hg2, hb2, B2⟩
    obtain ⟨hl, hne⟩ := HB.out
    have B02 := step_trans H1.out.2 B2
    have h2 := H.out.step B02
    obtain ⟨v, w3, hrun, hG⟩ := run_append_whole w2 25 g cg a (Fix.dig n 8) h2.buf h2.len h2.cap (by rw [hl]; have := HS.out; omega) (some ⟨g2, 0, none⟩) 8 8 hl hne (hb2.at_)
    obtain ⟨c3, f3, hP⟩ := H.out.grow B02 hG
    obtain ⟨g3, cc3, rfl, _⟩ := hG
    have c22 := h2.wr.cell (k := 0) rfl
    have HR := Lib.hid hrun
    have HP := Lib.hid hP
    clear hrun hP h2 hb2 hl hne B2 B02
    refine hK.out _ _ trivial (fun hHeld2 => ?_)
    clear hK K
    (try simp only [Act.put, List.setIfInBounds_toArray, List.set_cons_zero, List.set_cons_succ])
    refine wpAnyH_ready (rs := [7]) (by kernel_rfl) (by simp) ?_
    refine AllReadyH.cons (o := { dst := some 12, op := Go.Op.call { callee := Go.Callee.builtin Go.Builtin.append, args := #[Go.Operand.tmp 9, Go.Operand.tmp 11], argTypes := #[25, 25] }, type := 25, pos := "msg.go:71", after := #[{ on := 4, ground := Go.Ground.data }, { on := 6, ground := Go.Ground.data }, { on := 6, ground := Go.Ground.chain }], guard := none }) rfl (fun K hK => ?_) AllReadyH.nil
    refine step_append_run rfl (.tmp 9) (.tmp 11) 25 rfl rfl rfl HR.out ?_
    refine hK.out _ _ trivial (fun hHeld4 => ?_)
    clear hK K
    (try simp only [Act.put, List.setIfInBounds_toArray, List.set_cons_zero, List.set_cons_succ])
    refine wpAnyH_take (i := 8) (oi := { dst := some 13, op := Go.Op.nilCheck (Go.Operand.tmp 5), type := 0, pos := "msg.go:71", after := #[{ on := 0, ground := Go.Ground.data }, { on := 0, ground := Go.Ground.phase }, { on := 1, ground := Go.Ground.phase }, { on := 2, ground := Go.Ground.phase }, { on := 3, ground := Go.Ground.phase }, { on := 4, ground := Go.Ground.phase }, { on := 5, ground := Go.Ground.phase }, { on := 6, ground := Go.Ground.phase }, { on := 7, ground := Go.Ground.phase }], guard := none }) (v := ?_) rfl (by kernel_rfl) (by kernel_rfl) (by kernel_rfl) (fun _ _ _ h => h) (Or.inl ⟨by rfl, ?_⟩) (by assumption) ?_
    rotate_left
    · intro w hSw
      (try dsimp only at hSw)
      go_simp
      (try with_reducible rfl)
    (try simp only [Act.put, List.setIfInBounds_toArray, List.set_cons_zero, List.set_cons_succ])
    refine wpAnyH_take (i := 9) (oi := { dst := some 14, op := Go.Op.fieldAddr 46 (Go.Operand.tmp 13) 0, type := 0, pos := "msg.go:71", after := #[{ on := 8, ground := Go.Ground.data }, { on := 0, ground := Go.Ground.phase }, { on := 1, ground := Go.Ground.phase }, { on := 2, ground := Go.Ground.phase }, { on := 3, ground := Go.Ground.phase }, { on := 4, ground := Go.Ground.phase }, { on := 5, ground := Go.Ground.phase }, { on := 6, ground := Go.Ground.phase }, { on := 7, ground := Go.Ground.phase }], guard := none }) (v := ?_) rfl (by kernel_rfl) (by kernel_rfl) (by kernel_rfl) (fun _ _ _ h => h) (Or.inl ⟨by rfl, ?_⟩) (by assumption) ?_
    rotate_left
    · intro w hSw
      (try dsimp only at hSw)
      go_simp
      (try with_reducible rfl)
    (try simp only [Act.put, List.setIfInBounds_toArray, List.set_cons_zero, List.set_cons_succ])
    refine wpAnyH_ready (rs := [10]) (by kernel_rfl) (by simp) ?_
    refine AllReadyH.cons (o := { dst := none, op := Go.Op.store 25 (Go.Operand.tmp 14) (Go.Operand.tmp 12), type := 0, pos := "msg.go:71", after := #[{ on := 9, ground := Go.Ground.data }, { on := 7, ground := Go.Ground.data }, { on := 7, ground := Go.Ground.chain }, { on := 0, ground := Go.Ground.phase }, { on := 1, ground := Go.Ground.phase }, { on := 2, ground := Go.Ground.phase }, { on := 3, ground := Go.Ground.phase }, { on := 4, ground := Go.Ground.phase }, { on := 5, ground := Go.Ground.phase }, { on := 6, ground := Go.Ground.phase }, { on := 7, ground := Go.Ground.phase }], guard := none }) rfl (fun K hK => ?_) AllReadyH.nil
    go_simp
    refine hK.out _ _ trivial (fun hHeld5 => ?_)
    clear hK K
    (try simp only [Act.put, List.setIfInBounds_toArray, List.set_cons_zero, List.set_cons_succ])
    refine wpAnyH_done (by kernel_rfl) ?_ _
    clear c22 c3 f3
    go_wp2
    go_ret
    exact ⟨rfl, HP.out⟩
  · go_simp
    refine z2.mono ?_
    rintro e w2 ⟨g2, rfl, hg2, hb2, B2⟩
    obtain ⟨hl, hne⟩ := HB.out
    have B02 := step_trans H1.out.2 B2
    have h2 := H.out.step B02
    obtain ⟨v, w3, hrun, hG⟩ := run_append_whole w2 25 g cg a (Fix.dig n 8) h2.buf h2.len h2.cap (by rw [hl]; have := HS.out; omega) (some ⟨g2, 0, none⟩) 8 8 hl hne (hb2.at_)
    obtain ⟨c3, f3, hP⟩ := H.out.grow B02 hG
    obtain ⟨g3, cc3, rfl, _⟩ := hG
    have c22 := h2.wr.cell (k := 0) rfl
    have HR := Lib.hid hrun
    have HP := Lib.hid hP
    clear hrun hP h2 hb2 hl hne B2 B02
    refine hK.out _ _ trivial (fun hHeld2 => ?_)
    clear hK K
    (try simp only [Act.put, List.setIfInBounds_toArray, List.set_cons_zero, List.set_cons_succ])
    refine wpAnyH_ready (rs := [4]) (by kernel_rfl) (by simp) ?_
    refine AllReadyH.cons (o := { dst := some 9, op := Go.Op.load 25 (Go.Operand.tmp 8), type := 25, pos := "msg.go:71", after := #[{ on := 3, ground := Go.Ground.data }], guard := none }) rfl (fun K hK => ?_) AllReadyH.nil
    go_simp
    refine hK.out _ _ trivial (fun hHeld3 => ?_)
    clear hK K
    (try simp only [Act.put, List.setIfInBounds_toArray, List.set_cons_zero, List.set_cons_succ])
    refine wpAnyH_ready (rs := [7]) (by kernel_rfl) (by simp) ?_
    refine AllReadyH.cons (o := { dst := some 12, op := Go.Op.call { callee := Go.Callee.builtin Go.Builtin.append, args := #[Go.Operand.tmp 9, Go.Operand.tmp 11], argTypes := #[25, 25] }, type := 25, pos := "msg.go:71", after := #[{ on := 4, ground := Go.Ground.data }, { on := 6, ground := Go.Ground.data }, { on := 6, ground := Go.Ground.chain }], guard := none }) rfl (fun K hK => ?_) AllReadyH.nil
    refine step_append_run rfl (.tmp 9) (.tmp 11) 25 rfl rfl rfl HR.out ?_
    refine hK.out _ _ trivial (fun hHeld4 => ?_)
    clear hK K
    (try simp only [Act.put, List.setIfInBounds_toArray, List.set_cons_zero, List.set_cons_succ])
    refine wpAnyH_take (i := 8) (oi := { dst := some 13, op := Go.Op.nilCheck (Go.Operand.tmp 5), type := 0, pos := "msg.go:71", after := #[{ on := 0, ground := Go.Ground.data }, { on := 0, ground := Go.Ground.phase }, { on := 1, ground := Go.Ground.phase }, { on := 2, ground := Go.Ground.phase }, { on := 3, ground := Go.Ground.phase }, { on := 4, ground := Go.Ground.phase }, { on := 5, ground := Go.Ground.phase }, { on := 6, ground := Go.Ground.phase }, { on := 7, ground := Go.Ground.phase }], guard := none }) (v := ?_) rfl (by kernel_rfl) (by kernel_rfl) (by kernel_rfl) (fun _ _ _ h => h) (Or.inl ⟨by rfl, ?_⟩) (by assumption) ?_
    rotate_left
    · intro w hSw
      (try dsimp only at hSw)
      go_simp
      (try with_reducible rfl)
    (try simp only [Act.put, List.setIfInBounds_toArray, List.set_cons_zero, List.set_cons_succ])
    refine wpAnyH_take (i := 9) (oi := { dst := some 14, op := Go.Op.fieldAddr 46 (Go.Operand.tmp 13) 0, type := 0, pos := "msg.go:71", after := #[{ on := 8, ground := Go.Ground.data }, { on := 0, ground := Go.Ground.phase }, { on := 1, ground := Go.Ground.phase }, { on := 2, ground := Go.Ground.phase }, { on := 3, ground := Go.Ground.phase }, { on := 4, ground := Go.Ground.phase }, { on := 5, ground := Go.Ground.phase }, { on := 6, ground := Go.Ground.phase }, { on := 7, ground := Go.Ground.phase }], guard := none }) (v := ?_) rfl (by kernel_rfl) (by kernel_rfl) (by kernel_rfl) (fun _ _ _ h => h) (Or.inl ⟨by rfl, ?_⟩) (by assumption) ?_
    rotate_left
    · intro w hSw
      (try dsimp only at hSw)
      go_simp
      (try with_reducible rfl)
    (try simp only [Act.put, List.setIfInBounds_toArray, List.set_cons_zero, List.set_cons_succ])
    refine wpAnyH_ready (rs := [10]) (by kernel_rfl) (by simp) ?_
    refine AllReadyH.cons (o := { dst := none, op := Go.Op.store 25 (Go.Operand.tmp 14) (Go.Operand.tmp 12), type := 0, pos := "msg.go:71", after := #[{ on := 9, ground := Go.Ground.data }, { on := 7, ground := Go.Ground.data }, { on := 7, ground := Go.Ground.chain }, { on := 0, ground := Go.Ground.phase }, { on := 1, ground := Go.Ground.phase }, { on := 2, ground := Go.Ground.phase }, { on := 3, ground := Go.Ground.phase }, { on := 4, ground := Go.Ground.phase }, { on := 5, ground := Go.Ground.phase }, { on := 6, ground := Go.Ground.phase }, { on := 7, ground := Go.Ground.phase }], guard := none }) rfl (fun K hK => ?_) AllReadyH.nil
    go_simp
    refine hK.out _ _ trivial (fun hHeld5 => ?_)
    clear hK K
    (try simp only [Act.put, List.setIfInBounds_toArray, List.set_cons_zero, List.set_cons_succ])
    refine wpAnyH_done (by kernel_rfl) ?_ _
    clear c22 c3 f3
    go_wp2
    go_ret
    exact ⟨rfl, HP.out⟩
theorem bytes_eq {w : World} {g : Nat} {m : M} {A A' : Option Addr} {n n' c c' : Nat} (h : BlkR 27 w g (mCells m (.slice A n c))) (h' : BlkR 27 w g (mCells m (.slice A' n' c'))) : A = A' ∧ n = n' ∧ c = c' := by
  have e := (h.cell (k := 11) rfl).symm.trans (h'.cell (k := 11) rfl)
  injection e with e
  injection e with e1 e2 e3
  exact ⟨e1, e2, e3⟩
theorem CarPost.imp {α : Type} {I J : World → (Nat → Prop) → α → Prop} {w w' : World} {F : Nat → Prop} {a : α} (h : CarPost I w F a w') (hIJ : ∀ {w F}, I w F a → J w F a) : CarPost J w F a w' := by
  obtain ⟨F', hI, hF, hR⟩ := h
  exact ⟨F', hIJ hI, hF, hR⟩
theorem WrInv.noData {base gm gw : Nat} {w : World} {F : Nat → Prop} {m : M} {a : List UInt8} (h : WrInv base gm gw w F m a) : WrInv base gm gw (w.setCell ⟨gm, 11, none⟩ (.slice none 0 0)) F { m with data := [] } a := by
  obtain ⟨A, c, g, cg, h⟩ := h
  exact ⟨none, 0, g, cg, h.msgSet (A' := none) (n' := 0) (c' := 0) (mCells_data m _ _ []) rfl bytes_nil⟩
set_option maxRecDepth 100000 in
set_option maxHeartbeats 1000000 in
theorem wByt (h : WrInv base gm gw w F m a) (hsm : a.length + 32 * 1 ≤ 1000) (A : Option Addr) (n c : Nat) (hd : BlkR 27 w gm (mCells m (.slice A n c))) : Calls Try.prog 66 #[.pointer (some ⟨gw, 0, none⟩), .slice A n c] w (BytPost (fun w F m a => WrInv base gm gw w F m a) gm m (mCells m (.slice A n c)) w F (wOps.byt a m.data)) := by
  obtain ⟨A0, c0, g, cg, h⟩ := h
  obtain ⟨rfl, rfl, rfl⟩ := bytes_eq hd h.msg
  have c1 := h.wr.cell (k := 0) rfl
  by_cases hn : m.data.length = 32
  · have e : wOps.byt a m.data = .ok ([], a ++ m.data) := by simp only [wOps]; rw [if_pos hn]
    rw [e]
    have hd' := h.dat.more h.lo.2.2.2
    have hne : m.data ≠ [] := fun e => by rw [e] at hn; simp at hn
    obtain ⟨v, w3, hrun, hG⟩ := run_append_whole w 25 g cg a m.data h.buf h.len h.cap (by omega) A m.data.length c rfl hne hd'
    obtain ⟨c3, f3, hP⟩ := h.grow (Below.refl _ w) hG
    have hP2 := hP.imp (J := fun w F a => WrInv base gm gw (w.setCell ⟨gm, 11, none⟩ (.slice none 0 0)) F { m with data := [] } a) (fun x => x.noData)
    obtain ⟨g3, cc3, rfl, _, _, _, _, hF3⟩ := hG
    have hm3 : BlkR 27 (w3.setCell ⟨gw, 0, none⟩ (.slice (some ⟨g3, 0, none⟩) (a.length + m.data.length) cc3)) gm (mCells m (.slice A m.data.length c)) :=
      ((setG_frame w3 gw 0 _).block gm (Nat.lt_of_lt_of_le h.msg.lt hF3.size) h.ne.1).trans ((hF3.block gm h.msg.lt h.ne.2.1).trans h.msg)
    have HP := Lib.hid (And.intro hm3 hP2)
    obtain ⟨l, hl⟩ : ∃ x, x = m.data := ⟨_, rfl⟩
    rw [← hl] at hn hrun HP ⊢
    rw [hn] at hrun HP ⊢
    have HR := Lib.hid hrun
    have HL := Lib.hid hl
    clear e hn hd' hne hP hP2 hm3 hF3 h hd hsm hrun hl
    go_enter Try.func66, Try.ntmps66
    go_wp2_with (at_builtin; refine wpList_append_runR rfl (.tmp 18) (.tmp 19) 25 rfl rfl rfl HR.out ?_)
    go_ret
    exact ⟨_, _, _, rfl, HP.out⟩
  · have e : wOps.byt a m.data = .no 5 a.length := by simp only [wOps]; rw [if_neg hn]
    rw [e]
    obtain ⟨nn, hnn⟩ : ∃ x, x = m.data.length := ⟨_, rfl⟩
    rw [← hnn] at hn ⊢
    have hb : ((nn : Int) != 32) = true := by rw [bne_iff_ne]; omega
    clear e hn h hd hnn
    go_enter Try.func66, Try.ntmps66
    go_wp2_with (go_at_call 28; (with_reducible refine (refuse_any _ _ _).mono ?_); (rintro e w2 ⟨rfl, rfl⟩))
    exact ⟨rfl, rfl, Frame.refl _ _⟩
end
/-- the writer, as what carries a message's parts -/
def wrCar (base gm gw : Nat) : Carr (List UInt8) where
  T := 44
  p := .pointer (some ⟨gw, 0, none⟩)
  gm := gm
  o := wOps
  num := 68
  lon := 67
  byt := 66
  mnum := fun n w => by kernel_rfl
  fnum := fun args w => by kernel_rfl
  mlon := fun n w => by kernel_rfl
  flon := fun args w => by kernel_rfl
  mbyt := fun n w => by kernel_rfl
  fbyt := fun args w => by kernel_rfl
  Inv := WrInv base gm gw
  small := fun k a => a.length + 32 * k ≤ 1000
  less := fun h => by omega
  snum := fun {k a n s mo x} hg hs hx => by
    simp only [wOps] at hx
    split at hx
    · cases hx
      rcases hg with ⟨rfl, _⟩ | ⟨rfl, _⟩ <;> (simp only [List.length_append, Fix.dig_length]; omega)
    · cases hx
  slon := fun {k a n x} hs hx => by
    simp only [wOps] at hx
    cases hx
    simp only [List.length_append, Fix.dig_length]; omega
  sbyt := fun {k a l x} hs hx => by
    simp only [wOps] at hx
    split at hx
    · cases hx
      simp only [List.length_append]; omega
    · cases hx
  cells := fun ⟨A, c, g, cg, h⟩ => ⟨A, _, c, h.msg⟩
  own := fun ⟨A, c, g, cg, h⟩ => h.own
  mine := fun ⟨A, c, g, cg, h⟩ => (h.blk gm).2 (.inl rfl)
  step := fun ⟨A, c, g, cg, h⟩ hB => ⟨A, c, g, cg, h.step hB⟩
  set := fun ⟨A, c, g, cg, h⟩ q v => ⟨A, c, g, cg, by
    exact h.msgSet (mCells_set _ _ q v) (by cases q <;> rfl) (by have := h.dat; cases q <;> exact this)⟩
  sbits := fun ⟨A, c, g, cg, h⟩ x => ⟨A, c, g, cg, h.msgSet (mCells_bits _ _ x) rfl h.dat⟩
  cnum := fun h hs n s mo hg => wNum h hs n s mo hg
  clon := fun h hs n => wLon h hs n
  cbyt := fun h hs A n c hd => wByt h hs A n c hd
end Go.Proofs.Ytfiijnpabmocdaa
