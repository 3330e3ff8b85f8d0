/-
  A net's calls: Double, Cut, Send. Conditions: the net was made; how many were lost is a number far from the greatest; the bytes can be read.
-/
import Derived.Test.YtplfhlmipdlmnaaNtCall2
namespace Go.Proofs.Ytplfhlmipdlmnaa
open Go.RowKit Nt

set_option maxRecDepth 100000 in
theorem info_links : RowTy Try.prog 43 (List.replicate 9 (.bool false)) := ⟨fun w => by kernel_rfl, by kernel_rfl, _, Try.underlying43, rfl⟩
section
variable {w : World} {b : Nat} {F : Nat → Prop} {s : N}
theorem TakePost.turned {w' : World} (h : TakePost w b F s w') : Turned w b F s w' := ⟨F, h.1, fun _ hj => .inl hj, h.2⟩
theorem Below.turned {w' : World} (h : NetAt w b F s) (B : Below w.heap.size w w') : Turned w b F s w' := ⟨F, h.step B, fun _ hj => .inl hj, Frame.of_below B⟩
set_option maxRecDepth 100000 in
theorem double_no (h : NetAt w b F s) (i : Int) (hi : s.has i = false) : Calls Try.prog 18 #[.pointer (some ⟨b, 0, none⟩), .int .i64 i] w fun e w' => e = .returned (.int .i64 5) ∧ Turned w b F s w' := by
  have z1 := look_no h i hi
  have HH := Lib.hid h
  clear h hi
  go_enter Try.func18, Try.ntmps18
  go_wp2_with (first
    | (go_at_call 19; (with_reducible refine z1.mono ?_); (rintro e w2 ⟨rfl, B2⟩))
    | ((with_reducible refine atWorld w2 ?_); refine wpList_allocRow (w := w2) info_pk rfl rfl ?_; (intro w3 b3 B3 s3; have b3 := Lib.hid b3; replace s3 := Lib.hid s3))
    | ((with_reducible refine atWorld w3 ?_); refine wpList_storeRow (w := w3) info_pk rfl (.tmp 5) (.tmp 11) rfl w2.heap.size pkZ pkZ rfl rfl rfl rfl pkZ_one b3.out ?_; (intro w4 b4 B4 s4 k4; have D4 := step_trans B2 (B3.trans B4); have b4 := Lib.hid b4; replace s4 := Lib.hid s4; clear k4)))
  go_ret
  exact ⟨rfl, Below.turned HH.out D4⟩
set_option maxRecDepth 100000 in
theorem double_full (h : NetAt w b F s) (k : Nat) (p : Pk) (hk : s.way[k]? = some p) (hf : s.way.length = 4096) : Calls Try.prog 18 #[.pointer (some ⟨b, 0, none⟩), .int .i64 (k : Int)] w fun e w' => e = .returned (.int .i64 8) ∧ Turned w b F s w' := by
  have z1 := look_yes h k p hk
  unfold LookPost at z1
  have zf := fun w1 (B : Below w.heap.size w w1) => isFull_any (h.step B)
  rw [show s.full = true by unfold N.full; simp [hf]] at zf
  have HH := Lib.hid h
  unfold pkCells at z1
  dsimp only at z1
  obtain ⟨M, hM⟩ : ∃ M, M = p.b.length := ⟨_, rfl⟩
  rw [← hM] at z1
  clear h hk hf hM
  go_enter Try.func18, Try.ntmps18
  go_wp2_with (first
    | (go_at_call 19; (with_reducible refine z1.mono ?_); (rintro e w2 ⟨A, c, rfl, _, _, B2⟩))
    | ((with_reducible refine atWorld w2 ?_); refine wpList_allocRow (w := w2) info_pk rfl rfl ?_; (intro w3 b3 B3 s3; have b3 := Lib.hid b3; replace s3 := Lib.hid s3))
    | ((with_reducible refine atWorld w3 ?_); refine wpList_storeRow (w := w3) info_pk rfl (.tmp 5) (.tmp 11) rfl w2.heap.size [.int .i64 (p.fr : Int), .int .i64 (p.to : Int), .slice A M c] pkZ rfl rfl rfl rfl (pk3_one _ _ _ _ _) b3.out ?_; (intro w4 b4 B4 s4 k4; have D4 := step_trans B2 (B3.trans B4); have z4 := zf w4 D4; have b4 := Lib.hid b4; replace s4 := Lib.hid s4; clear k4))
    | (go_at_call 39; (with_reducible refine z4.mono ?_); (rintro e w5 ⟨rfl, rfl⟩)))
  go_ret
  exact ⟨rfl, Below.turned HH.out D4⟩
set_option maxRecDepth 100000 in
set_option maxHeartbeats 1000000 in
theorem double_yes (h : NetAt w b F s) (k : Nat) (p : Pk) (hk : s.way[k]? = some p) (hf : s.way.length ≠ 4096) : Calls Try.prog 18 #[.pointer (some ⟨b, 0, none⟩), .int .i64 (k : Int)] w fun e w' => e = .returned (.int .i64 0) ∧ Turned w b F (s.push p) w' := by
  have z1 := look_yes h k p hk
  unfold LookPost at z1
  have zf := fun w1 (B : Below w.heap.size w w1) => isFull_any (h.step B)
  rw [show s.full = false by unfold N.full; simp [hf]] at zf
  have hpo := h.ok.pk p (List.mem_of_getElem? hk)
  have hmany := h.ok.many
  have zj : Hid (∀ w4 A c, Below w.heap.size w w4 → Whole w4 w.heap.size A c p.b → Calls Try.prog 40 #[.pointer (some ⟨b, 0, none⟩), .agg (pkCells ⟨p, A, c⟩).toArray] w4 fun e w' => e = .returned (.tuple #[]) ∧ Turned w b F (s.push p) w') := Lib.hid fun w4 A c B o => by
    have hb := h.blt
    refine (join_any (h.step B) (by omega) ⟨p, A, c⟩ hpo hf o.bytes o.cap fun ad e hne => ?_).mono fun e w' ⟨k1, F', k2, k3, k4⟩ => ⟨k1, F', k2, fun j hj => ?_, (Frame.of_below (F := fun j => j = b ∨ F j) B).trans k4 fun j e => .inl e⟩
    · have := o.new ad e hne
      exact ⟨by omega, fun x => by have := h.lt _ x; omega⟩
    · rcases k3 j hj with x | ⟨ad, e, hne, x⟩ | x
      · exact .inl x
      · have := o.new ad e hne; exact .inr (by omega)
      · have := B.size; exact .inr (by omega)
  unfold pkCells at z1 zj
  dsimp only at z1 zj
  obtain ⟨M, hM⟩ : ∃ M, M = p.b.length := ⟨_, rfl⟩
  rw [← hM] at z1 zj
  clear h hk hf hM hpo hmany
  go_enter Try.func18, Try.ntmps18
  go_wp2_with (first
    | (go_at_call 19; (with_reducible refine z1.mono ?_); (rintro e w2 ⟨A, c, rfl, _, o2, B2⟩; have o2 := Lib.hid o2))
    | ((with_reducible refine atWorld w2 ?_); refine wpList_allocRow (w := w2) info_pk rfl rfl ?_; (intro w3 b3 B3 s3; have b3 := Lib.hid b3; replace s3 := Lib.hid s3))
    | ((with_reducible refine atWorld w3 ?_); refine wpList_storeRow (w := w3) info_pk rfl (.tmp 5) (.tmp 11) rfl w2.heap.size [.int .i64 (p.fr : Int), .int .i64 (p.to : Int), .slice A M c] pkZ rfl rfl rfl rfl (pk3_one _ _ _ _ _) b3.out ?_; (intro w4 b4 B4 s4 k4; have D4 := step_trans B2 (B3.trans B4); have z4 := zf w4 D4; have zk := zj.out w4 A c D4 (o2.out.step (B3.trans B4)); have b4 := Lib.hid b4; replace s4 := Lib.hid s4; clear k4))
    | (go_at_call 39; (with_reducible refine z4.mono ?_); (rintro e w5 ⟨rfl, rfl⟩))
    | ((with_reducible refine atWorld w4 ?_); refine wpList_loadRow (w := w4) info_pk rfl (.tmp 5) rfl w2.heap.size 0 [.int .i64 (p.fr : Int), .int .i64 (p.to : Int), .slice A M c] rfl rfl (rangeOf b4.out) ?_)
    | (go_at_call 40; (with_reducible refine zk.mono ?_); (rintro e w9 ⟨rfl, T9⟩; have T9 := Lib.hid T9)))
  go_ret
  exact ⟨rfl, T9.out⟩
set_option maxRecDepth 100000 in
set_option maxHeartbeats 1000000 in
theorem with_any (d : Nat → Bool) (p q : Nat) (hp : p < 3) (hq : q < 3) (is : Bool) (w : World) : Calls Try.prog 46 #[.agg (dnC d).toArray, .int .i64 (p : Int), .int .i64 (q : Int), .bool is] w fun e w' => e = .returned (.agg (dnC (upd d (3 * p + q) is)).toArray) ∧ Below w.heap.size w w' := by
  obtain ⟨w1, hw1⟩ : ∃ w1, w1 = w.alloc (.cells (dnC d).toArray 43) := ⟨_, rfl⟩
  have B1 : Below w.heap.size w w1 := by rw [hw1]; exact step_alloc (Below.refl _ w) _
  have b1 : BlkR 43 w1 w.heap.size (dnC d) := by rw [hw1]; exact BlkR.new w _ _
  have s1 : w1.heap.size = w.heap.size + 1 := by rw [hw1]; simp
  have e1 : p * 3 + q = 3 * p + q := by omega
  have HS := Lib.hid (And.intro s1 (And.intro e1 b1))
  have HE : Hid (dnC (upd d (3 * p + q) is) = (dnC d).set (p * 3 + q) (.bool is)) := Lib.hid (by rw [dnC_set, e1])
  obtain ⟨ys, hys⟩ : ∃ ys, ys = dnC (upd d (3 * p + q) is) := ⟨_, rfl⟩
  have hyl : ys.length = 9 := by rw [hys, dnC_len]
  have hy1 : ∀ v ∈ ys, v.oneCell' = true := by rw [hys]; exact dnC_one _
  rw [← hys] at HE ⊢
  obtain ⟨xs, hxs⟩ : ∃ xs, xs = dnC d := ⟨_, rfl⟩
  have hxl : xs.length = 9 := by rw [hxs, dnC_len]
  rw [← hxs] at HE HS hw1 b1 ⊢
  have HL := Lib.hid (And.intro hyl (And.intro hy1 hxl))
  have y0 : ∀ w', Below w1.heap.size w1 w' → ∃ u, w'.cell? ⟨w.heap.size, p * 3 + q, none⟩ = some u ∧ w'.frozen? ⟨w.heap.size, p * 3 + q, none⟩ = false := fun w' B => by
    have b' := b1.below B b1.lt
    exact ⟨_, b'.cell (List.getElem?_eq_getElem (by omega)), b'.frozen _⟩
  clear hxs hys hyl hy1 hxl b1 s1 e1
  go_enter Try.func46, Try.ntmps46
  go_wp2_with (first
    | ((with_reducible refine atWorld (w.alloc (.cells xs.toArray 43)) ?_); rw [← hw1]; refine wpList_allocRow (w := w1) info_links rfl rfl ?_; (intro w2 b2 B2 s2; obtain ⟨u, y1, y2⟩ := y0 w2 B2; have b3 := (HS.out.2.2.below B2 HS.out.2.2.lt).set_ (p * 3 + q) (.bool is); rw [← HE.out] at b3; have k3 : BlkR 43 (w2.setCell ⟨w.heap.size, p * 3 + q, none⟩ (.bool is)) (w.heap.size + 1) (List.replicate 9 (.bool false)) := (by rw [← HS.out.1]; exact (Below.heap_setCell w2 ⟨w.heap.size, p * 3 + q, none⟩ (.bool is) w1.heap.size (by rw [HS.out.1]; simp)).trans b2); have C3 : Below w.heap.size w (w2.setCell ⟨w.heap.size, p * 3 + q, none⟩ (.bool is)) := (step_trans B1 B2).setCell (Nat.le_refl _) _; have b3 := Lib.hid b3; have k3 := Lib.hid k3; clear b2; replace s2 := Lib.hid s2))
    | ((with_reducible refine atWorld (w2.setCell ⟨w.heap.size, p * 3 + q, none⟩ (.bool is)) ?_); refine wpList_loadRow (w := w2.setCell ⟨w.heap.size, p * 3 + q, none⟩ (.bool is)) info_links rfl (.tmp 4) rfl w.heap.size 0 ys rfl HL.out.1 (rangeOf b3.out) ?_)
    | ((with_reducible refine atWorld (w2.setCell ⟨w.heap.size, p * 3 + q, none⟩ (.bool is)) ?_); refine wpList_storeRow (w := w2.setCell ⟨w.heap.size, p * 3 + q, none⟩ (.bool is)) info_links rfl (.tmp 8) (.tmp 14) rfl (w.heap.size + 1) ys (List.replicate 9 (.bool false)) rfl rfl HL.out.1 rfl HL.out.2.1 k3.out ?_; (intro w9 b9 B9 s9 k9; have b9 := Lib.hid b9; replace s9 := Lib.hid s9)))
  have b9 := b9.out
  exact bodyPost_ret (w := w9) (results_cell1 Try.results46 _ _ _ _ _ rfl (loadRow info_links HL.out.1 b9)) rfl ⟨rfl, C3.trans (B9.mono (Nat.le_succ _))⟩
set_option maxRecDepth 100000 in
theorem cut_no (h : NetAt w b F s) (i j : Int) (is : Bool) (hl : link i j = false) : Calls Try.prog 23 #[.pointer (some ⟨b, 0, none⟩), .int .i64 i, .int .i64 j, .bool is] w fun e w' => e = .returned (.int .i64 2) ∧ w = w' := by
  obtain ⟨c0, _⟩ := h.cells
  have zm := ntMade_yes b w c0
  have zl := isLink_any i j w
  rw [hl] at zl
  clear h hl
  go_enter Try.func23, Try.ntmps23
  go_wp2_with (first
    | (go_at_call 36; (with_reducible refine zm.mono ?_); (rintro e w2 ⟨rfl, rfl⟩))
    | (go_at_call 37; (with_reducible refine zl.mono ?_); (rintro e w2 ⟨rfl, rfl⟩)))
  go_ret
  exact ⟨rfl, rfl⟩
/-- the links are laid anew -/
theorem NetAt.cutN (h : NetAt w b F s) (d : Nat → Bool) (hd : { s with down := d }.Ok) : w.rangeAt b 1 (dnC s.down) ∧ w.there b 1 9 ∧ TakePost w b F { s with down := d } (w.setCells b 1 (dnC d)) := by
  obtain ⟨v, ms, r, hw, hms⟩ := h.mem
  have hl : (ntCells b s.down v s.lost).length = 12 := by unfold ntCells; rw [List.length_cons, List.length_append, dnC_len]; rfl
  have b2 := setCells_at (dnC d) w 1 _ r (by rw [dnC_len, hl]; decide)
  have e : (ntCells b s.down v s.lost).take 1 ++ dnC d ++ (ntCells b s.down v s.lost).drop (1 + (dnC d).length) = ntCells b d v s.lost := by
    rw [dnC_len]
    unfold ntCells
    rw [List.take_succ_cons, List.take_zero, show 1 + 9 = 9 + 1 by omega, List.drop_succ_cons, List.drop_left' (dnC_len _)]
    simp
  rw [e] at b2
  obtain ⟨f1, f2, f3, f4⟩ := setCells_frame (dnC d) w b 1
  have fr : Frame (fun k => k = b) w (w.setCells b 1 (dnC d)) := ⟨f1, f2, f3, Nat.le_of_eq f4.symm, fun k _ hn => setCells_keep _ _ _ _ _ hn⟩
  refine ⟨rangeMid r (n := 9) ?_, fun j hj => ?_, ⟨⟨v, ms, b2, hw.frame fr (fun j hj e => h.in_ (e ▸ hj)), hms⟩, h.in_, fun j hj => Nat.lt_of_lt_of_le (h.lt j hj) fr.size, hd⟩, fr.mono fun k e => .inl e⟩
  · unfold ntCells
    rw [List.drop_succ_cons, List.drop_zero, List.take_left' (dnC_len _)]
  · exact ⟨by rw [r.cell (List.getElem?_eq_getElem (by rw [hl]; omega))]; rfl, r.frozen _⟩
set_option maxRecDepth 100000 in
set_option maxHeartbeats 1000000 in
theorem cut_yes (h : NetAt w b F s) (p q : Nat) (is : Bool) (hl : link (p : Int) (q : Int) = true) : Calls Try.prog 23 #[.pointer (some ⟨b, 0, none⟩), .int .i64 (p : Int), .int .i64 (q : Int), .bool is] w fun e w' => e = .returned (.int .i64 0) ∧ TakePost w b F (s.cut p q is) w' := by
  obtain ⟨c0, _⟩ := h.cells
  have zm := ntMade_yes b w c0
  have zl := isLink_any (p : Int) (q : Int) w
  rw [hl] at zl
  obtain ⟨_, hp, _, hq, _⟩ := link_iff.1 hl
  have zw := with_any s.down p q (by omega) (by omega) is w
  have ec : s.cut (p : Int) (q : Int) is = { s with down := upd s.down (3 * p + q) is } := by
    unfold N.cut
    rw [if_pos hl]
    rfl
  have ok2 := cut_ok h.ok (p : Int) (q : Int) is
  rw [ec] at ok2 ⊢
  have K := Lib.hid (fun w2 (B : Below w.heap.size w w2) => (h.step B).cutN (upd s.down (3 * p + q) is) ok2)
  have r0 := Lib.hid (h.cutN (upd s.down (3 * p + q) is) ok2).1
  obtain ⟨D, hD⟩ : ∃ D, D = dnC s.down := ⟨_, rfl⟩
  obtain ⟨E, hE⟩ : ∃ E, E = dnC (upd s.down (3 * p + q) is) := ⟨_, rfl⟩
  have hDl := Lib.hid (show D.length = 9 ∧ E.length = 9 ∧ ∀ v ∈ E, v.oneCell' = true from ⟨by rw [hD, dnC_len], by rw [hE, dnC_len], by rw [hE]; exact dnC_one _⟩)
  rw [← hD, ← hE] at zw
  rw [← hD] at r0 K
  rw [← hE] at K
  obtain ⟨d2, hd2⟩ : ∃ d2, d2 = upd s.down (3 * p + q) is := ⟨_, rfl⟩
  rw [← hd2] at K ⊢
  clear h hl hp hq ec ok2 hD hE hd2
  go_enter Try.func23, Try.ntmps23
  go_wp2_with (first
    | (go_at_call 36; (with_reducible refine zm.mono ?_); (rintro e w2 ⟨rfl, rfl⟩))
    | (go_at_call 37; (with_reducible refine zl.mono ?_); (rintro e w2 ⟨rfl, rfl⟩))
    | ((with_reducible refine atWorld w ?_); refine wpList_loadRow (w := w) info_links rfl (.tmp 21) rfl b 1 D rfl hDl.out.1 r0.out ?_)
    | (go_at_call 46; (with_reducible refine zw.mono ?_); (rintro e w3 ⟨rfl, B3⟩; obtain ⟨_, x2, x3⟩ := K.out w3 B3; have x3 := Lib.hid x3; have B3 := Lib.hid B3; have x2 := Lib.hid x2))
    | ((with_reducible refine atWorld w3 ?_); refine wpList_store_mid rfl 43 (.tmp 28) (.tmp 26) rfl b 1 E.toArray rfl rfl (by rw [List.size_toArray, hDl.out.2.1]; exact x2.out) (by rw [List.size_toArray, hDl.out.2.1]; exact info_links.size) (all_oneCell_toArray hDl.out.2.2) ?_; rw [List.toList_toArray]))
  go_ret
  exact ⟨rfl, TakePost.on (Frame.of_below B3.out) x3.out⟩
set_option maxRecDepth 100000 in
theorem ntSend_arg (h : NetAt w b F s) (i j : Int) (P : Option Addr) (n c : Nat) (hl : link i j = false) : Calls Try.prog 17 #[.pointer (some ⟨b, 0, none⟩), .int .i64 i, .int .i64 j, .slice P n c] w fun e w' => e = .returned (.int .i64 2) ∧ w = w' := by
  obtain ⟨c0, _⟩ := h.cells
  have zm := ntMade_yes b w c0
  have zl := isLink_any i j w
  rw [hl] at zl
  clear h hl
  go_enter Try.func17, Try.ntmps17
  go_wp2_with (first
    | (go_at_call 36; (with_reducible refine zm.mono ?_); (rintro e w2 ⟨rfl, rfl⟩))
    | (go_at_call 37; (with_reducible refine zl.mono ?_); (rintro e w2 ⟨rfl, rfl⟩)))
  go_ret
  exact ⟨rfl, rfl⟩
set_option maxRecDepth 100000 in
theorem ntSend_long (h : NetAt w b F s) (i j : Int) (P : Option Addr) (n c : Nat) (hl : link i j = true) (hn : 512 < n) : Calls Try.prog 17 #[.pointer (some ⟨b, 0, none⟩), .int .i64 i, .int .i64 j, .slice P n c] w fun e w' => e = .returned (.int .i64 3) ∧ w = w' := by
  obtain ⟨c0, _⟩ := h.cells
  have zm := ntMade_yes b w c0
  have zl := isLink_any i j w
  rw [hl] at zl
  have g1 : (512 : Int) < (n : Int) := by omega
  clear h hl hn
  go_enter Try.func17, Try.ntmps17
  go_wp2_with (first
    | (go_at_call 36; (with_reducible refine zm.mono ?_); (rintro e w2 ⟨rfl, rfl⟩))
    | (go_at_call 37; (with_reducible refine zl.mono ?_); (rintro e w2 ⟨rfl, rfl⟩)))
  go_ret
  exact ⟨rfl, rfl⟩
set_option maxRecDepth 100000 in
theorem ntSend_lost (h : NetAt w b F s) (p q : Nat) (P : Option Addr) (n c : Nat) (hl : link (p : Int) (q : Int) = true) (hn : n ≤ 512) (hd : s.down (3 * p + q) = true ∨ s.way.length = 4096) (hls : s.lost ≤ 4611686018427387904) :
    Calls Try.prog 17 #[.pointer (some ⟨b, 0, none⟩), .int .i64 (p : Int), .int .i64 (q : Int), .slice P n c] w fun e w' => e = .returned (.int .i64 0) ∧ TakePost w b F { s with lost := s.lost + 1 } w' := by
  obtain ⟨c0, _, _, c3⟩ := h.cells
  have zm := ntMade_yes b w c0
  have zl := isLink_any (p : Int) (q : Int) w
  rw [hl] at zl
  obtain ⟨_, hp, _, hq, _⟩ := link_iff.1 hl
  have g1 : ¬ (512 : Int) < (n : Int) := by omega
  obtain ⟨x1, x2, x3⟩ := h.loseN (s.lost + 1)
  have x := c3 (3 * p + q) (by omega)
  rw [show 1 + (3 * p + q) = 1 + p * 3 + q by omega] at x
  have q1 : IntKind.i64.wrap ((s.lost : Int) + 1) = ((s.lost + 1 : Nat) : Int) := by rw [IntWalk.i64_in _ (by omega)]; omega
  have hp3 : p < 3 := by omega
  have hq3 : q < 3 := by omega
  have x3 := Lib.hid x3
  obtain ⟨m1, hm1⟩ : ∃ m, m = s.lost + 1 := ⟨_, rfl⟩
  rw [← hm1] at x3 q1 ⊢
  cases hdd : s.down (3 * p + q) with
  | true =>
    rw [hdd] at x
    clear h hl hp hq hn hd hls c3 hdd hm1
    go_enter Try.func17, Try.ntmps17
    go_wp2_with (first
      | (go_at_call 36; (with_reducible refine zm.mono ?_); (rintro e w2 ⟨rfl, rfl⟩))
      | (go_at_call 37; (with_reducible refine zl.mono ?_); (rintro e w2 ⟨rfl, rfl⟩)))
    go_ret
    exact ⟨rfl, x3.out⟩
  | false =>
    rw [hdd] at x
    have zf := isFull_any h
    have hfull : s.full = true := by
      unfold N.full
      rcases hd with hd | hd
      · rw [hdd] at hd; cases hd
      · simp [hd]
    rw [hfull] at zf
    clear h hl hp hq hn hd hls c3 hdd hm1 hfull
    go_enter Try.func17, Try.ntmps17
    go_wp2_with (first
      | (go_at_call 36; (with_reducible refine zm.mono ?_); (rintro e w2 ⟨rfl, rfl⟩))
      | (go_at_call 37; (with_reducible refine zl.mono ?_); (rintro e w2 ⟨rfl, rfl⟩))
      | (go_at_call 39; (with_reducible refine zf.mono ?_); (rintro e w2 ⟨rfl, rfl⟩)))
    go_ret
    exact ⟨rfl, x3.out⟩
set_option maxRecDepth 100000 in
set_option maxHeartbeats 1000000 in
theorem ntSend_ok (h : NetAt w b F s) (p q : Nat) (P : Option Addr) (l : List UInt8) (n c : Nat) (hnl : l.length = n) (hl : link (p : Int) (q : Int) = true) (hn : n ≤ 512) (hd : s.down (3 * p + q) = false) (hf : s.way.length ≠ 4096) (hr : BytesAt w w.heap.size P l) :
    Calls Try.prog 17 #[.pointer (some ⟨b, 0, none⟩), .int .i64 (p : Int), .int .i64 (q : Int), .slice P n c] w fun e w' => e = .returned (.int .i64 0) ∧ Turned w b F (s.push ⟨p, q, l⟩) w' := by
  obtain ⟨c0, _, _, c3⟩ := h.cells
  have zm := ntMade_yes b w c0
  have zl := isLink_any (p : Int) (q : Int) w
  rw [hl] at zl
  obtain ⟨_, hp, _, hq, _⟩ := link_iff.1 hl
  have g1 : ¬ (512 : Int) < (n : Int) := by omega
  have x := c3 (3 * p + q) (by omega)
  rw [show 1 + (3 * p + q) = 1 + p * 3 + q by omega, hd] at x
  have hp3 : p < 3 := by omega
  have hq3 : q < 3 := by omega
  have zf := isFull_any h
  rw [show s.full = false by unfold N.full; simp [hf]] at zf
  have zc := cloneZ P l n c hnl (by omega) w hr
  unfold ClonePost at zc
  have hmany := h.ok.many
  have zj : Hid (∀ w4 A c', Below w.heap.size w w4 → Whole w4 w.heap.size A c' l → Calls Try.prog 40 #[.pointer (some ⟨b, 0, none⟩), .agg (pkCells ⟨⟨p, q, l⟩, A, c'⟩).toArray] w4 fun e w' => e = .returned (.tuple #[]) ∧ Turned w b F (s.push ⟨p, q, l⟩) w') := Lib.hid fun w4 A c' B o => by
    have hb := h.blt
    refine (join_any (h.step B) (by omega) ⟨⟨p, q, l⟩, A, c'⟩ ⟨hp3, hq3, by show l.length ≤ 512; omega⟩ hf o.bytes o.cap fun ad e hne => ?_).mono fun e w' ⟨k1, F', k2, k3, k4⟩ => ⟨k1, F', k2, fun j hj => ?_, (Frame.of_below (F := fun j => j = b ∨ F j) B).trans k4 fun j e => .inl e⟩
    · have := o.new ad e hne
      exact ⟨by omega, fun x => by have := h.lt _ x; omega⟩
    · rcases k3 j hj with x | ⟨ad, e, hne, x⟩ | x
      · exact .inl x
      · have := o.new ad e hne; exact .inr (by omega)
      · have := B.size; exact .inr (by omega)
  unfold pkCells at zj
  dsimp only at zj
  rw [hnl] at zj
  clear h hl hp hq hn hd c3 hf hr hnl hmany
  go_enter Try.func17, Try.ntmps17
  go_wp2_with (first
    | (go_at_call 36; (with_reducible refine zm.mono ?_); (rintro e w2 ⟨rfl, rfl⟩))
    | (go_at_call 37; (with_reducible refine zl.mono ?_); (rintro e w2 ⟨rfl, rfl⟩))
    | (go_at_call 39; (with_reducible refine zf.mono ?_); (rintro e w2 ⟨rfl, rfl⟩))
    | (go_at_call 41; (with_reducible refine zc.mono ?_); (rintro e w4 ⟨A, c', rfl, _, o4, B4⟩; have zk := zj.out w4 A c' B4 o4))
    | (go_at_call 40; (with_reducible refine zk.mono ?_); (rintro e w9 ⟨rfl, T9⟩; have T9 := Lib.hid T9)))
  go_ret
  exact ⟨rfl, T9.out⟩
end
end Go.Proofs.Ytplfhlmipdlmnaa
