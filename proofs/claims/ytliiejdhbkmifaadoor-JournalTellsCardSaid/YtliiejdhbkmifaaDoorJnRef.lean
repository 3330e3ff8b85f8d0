/-
  tandemref08.Bytes. Conditions: the bytes can be read.
-/
import Derived.Test.YtliiejdhbkmifaaDoorSlotRead
import Derived.Test.YtliiejdhbkmifaaDoorJo
namespace Go.Proofs.YtliiejdhbkmifaaDoor
open Go.RowKit Fix

theorem splice_jn (a n : Nat) (r : List UInt8) (h : r.length = 32) : (splice (splice (splice (List.replicate 54 (0 : UInt8)) 0 ((dig n 8).take 54)) 8 ((dig a 2).take 46)) 10 (r.take 44)).set 42 1 ++ dig n 6 = Jn.body a n r := by
  have h8 := dig_length n 8
  have h2 := dig_length a 2
  rw [List.take_of_length_le (by omega : (dig n 8).length ≤ 54), List.take_of_length_le (by omega : (dig a 2).length ≤ 46), List.take_of_length_le (by omega : r.length ≤ 44)]
  have e1 : splice (List.replicate 54 (0 : UInt8)) 0 (dig n 8) = dig n 8 ++ List.replicate 46 0 := by
    unfold splice
    rw [List.take_zero, List.nil_append, h8, List.drop_replicate]
  have e2 : splice (dig n 8 ++ List.replicate 46 (0 : UInt8)) 8 (dig a 2) = dig n 8 ++ (dig a 2 ++ List.replicate 44 0) := by
    unfold splice
    rw [List.take_left' h8, h2, List.drop_append, List.drop_of_length_le (by omega), List.nil_append, h8, List.drop_replicate]
  have l10 : (dig n 8 ++ dig a 2).length = 10 := by rw [List.length_append, h8, h2]
  have e3 : splice (dig n 8 ++ (dig a 2 ++ List.replicate 44 (0 : UInt8))) 10 r = (dig n 8 ++ dig a 2 ++ r) ++ List.replicate 12 0 := by
    have e : dig n 8 ++ (dig a 2 ++ List.replicate 44 (0 : UInt8)) = (dig n 8 ++ dig a 2) ++ List.replicate 44 0 := by rw [List.append_assoc]
    rw [e]
    unfold splice
    rw [List.take_left' l10, List.drop_append, List.drop_of_length_le (by omega), List.nil_append, l10, List.drop_replicate, List.append_assoc, List.append_assoc, List.append_assoc]
    congr 4
    omega
  have l42 : (dig n 8 ++ dig a 2 ++ r).length = 42 := by rw [List.length_append, l10, h]
  rw [e1, e2, e3, List.set_append_right _ _ (by omega), l42]
  unfold Jn.body
  rw [show (List.replicate 12 (0 : UInt8)).set (42 - 42) 1 = Jn.mid by decide]
  simp only [List.append_assoc]
def JrbPost (e : Ent) (w : World) (en : Ending) (w' : World) : Prop :=
  ∃ A c, en = .returned (.tuple #[.slice A (Jn.bytesB e).length c, .int .i64 (Jn.bytesE e)]) ∧ (Jn.bytesB e).length ≤ c ∧ BytesAt w' w'.heap.size A (Jn.bytesB e) ∧ (∀ ad, A = some ad → w.heap.size ≤ ad.block) ∧ Below w.heap.size w w'
theorem JrbPost.none_ {e : Ent} (h : Jn.may e = false) {w w' : World} (hB : Below w.heap.size w w') : JrbPost e w (.returned (.tuple #[.slice none 0 0, .int .i64 2])) w' := by
  have e1 := Jn.bytesB_no h
  exact ⟨none, 0, by rw [e1, Jn.bytesE_no h]; rfl, by rw [e1]; exact Nat.le_refl _, by rw [e1]; exact bytes_nil, (fun ad x => by cases x), hB⟩
set_option maxRecDepth 100000 in
theorem refBytes8_no (e : Ent) (A : Option Addr) (c : Nat) (w : World) (h : Jn.may e = false) : Calls Tryd.prog 12 #[.agg (entL e A c).toArray] w (JrbPost e w) := by
  have bx := boxE w e A c
  obtain ⟨W, hW⟩ : ∃ W, W = w.alloc (.cells (entL e A c).toArray 24) := ⟨_, rfl⟩
  rw [← hW] at bx
  obtain ⟨y0, y1, y2⟩ := ent_cells bx.out.1
  have hp := Lib.hid (JrbPost.none_ h bx.out.2)
  have hx : e.b < 0 ∨ 64 ≤ e.b ∨ e.n < 1 ∨ 1099511627776 < e.n ∨ e.d.length ≠ 32 := by
    rw [← Bool.not_eq_true, Jn.may_iff] at h
    omega
  generalize JrbPost e w = Q at hp ⊢
  obtain ⟨b, n, d⟩ := e
  replace hx : b < 0 ∨ 64 ≤ b ∨ n < 1 ∨ 1099511627776 < n ∨ d.length ≠ 32 := hx
  replace y0 : W.cell? ⟨w.heap.size, 0, none⟩ = some (.int .i64 b) := y0
  replace y1 : W.cell? ⟨w.heap.size, 1, none⟩ = some (.int .i64 n) := y1
  replace y2 : W.cell? ⟨w.heap.size, 2, none⟩ = some (.slice A d.length c) := y2
  unfold entL at hW ⊢
  obtain ⟨m, hm⟩ : ∃ p, p = d.length := ⟨_, rfl⟩
  simp only [← hm] at y2 hx hW ⊢
  rw [hW] at y0 y1 y2
  clear h bx hm
  by_cases h1 : b < 0
  · clear hx
    go_enter Tryd.func12, Tryd.ntmps12
    go_wp2
    rw [← hW]; exact hp.out
  by_cases h2 : 64 ≤ b
  · clear hx
    go_enter Tryd.func12, Tryd.ntmps12
    go_wp2
    rw [← hW]; exact hp.out
  by_cases h3 : n < 1
  · clear hx
    go_enter Tryd.func12, Tryd.ntmps12
    go_wp2
    rw [← hW]; exact hp.out
  by_cases h4 : 1099511627776 < n
  · clear hx
    go_enter Tryd.func12, Tryd.ntmps12
    go_wp2
    rw [← hW]; exact hp.out
  · have hne : ((m : Int) != 32) = true := by simp; omega
    have h4 : decide (1099511627776 < n) = false := by simp; omega
    clear hx
    go_enter Tryd.func12, Tryd.ntmps12
    go_wp2
    rw [← hW]; exact hp.out
set_option maxRecDepth 100000 in
set_option maxHeartbeats 2000000 in
theorem refBytes8_yes (b k : Nat) (r : List UInt8) (A : Option Addr) (c : Nat) (w : World) (hr : BytesAt w w.heap.size A r) (h : Jn.may ⟨b, k, r⟩ = true) : Calls Tryd.prog 12 #[.agg (entL ⟨b, k, r⟩ A c).toArray] w (JrbPost ⟨b, k, r⟩ w) := by
  obtain ⟨g1, g2, g3, g4, hl⟩ := (Jn.may_mk _ _ _).1 h
  have h1 : ¬ (b : Int) < 0 := by omega
  have h2 : ¬ 64 ≤ (b : Int) := by omega
  have h3 : ¬ (k : Int) < 1 := by omega
  have h4 : decide (1099511627776 < (k : Int)) = false := by simp; omega
  have bx := boxE w ⟨b, k, r⟩ A c
  obtain ⟨W, hW⟩ : ∃ W, W = w.alloc (.cells (entL ⟨b, k, r⟩ A c).toArray 24) := ⟨_, rfl⟩
  rw [← hW] at bx
  have KX : Hid (∀ w', Below W.heap.size W w' → w'.cell? ⟨w.heap.size, 0, none⟩ = some (.int .i64 (b : Int)) ∧ w'.cell? ⟨w.heap.size, 1, none⟩ = some (.int .i64 (k : Int)) ∧ w'.cell? ⟨w.heap.size, 2, none⟩ = some (.slice A 32 c)) := Lib.hid fun w' B => by
    have := ent_cells (bx.out.1.step B)
    rw [hl] at this
    exact this
  obtain ⟨y0, y1, y2⟩ := KX.out W (Below.refl _ _)
  have hW0 := bx.out.2
  have hrW := hr.step hW0
  have e2 := Jn.bytesB_yes h
  have hse := Jn.sect_length b k r hl
  have hsb := splice_jn b k r hl
  have hbl := Jn.body_length b k r hl
  unfold JrbPost
  rw [Jn.bytesE_yes h, e2, hse]
  have ew : IntKind.u64.wrap (k : Int) = (k : Int) := by rw [IntKind.wrap_u64]; omega
  have zp2 : ∀ w : World, Calls Tryd.prog 37 #[.int .i64 (b : Int), .int .i64 2] w fun e w' => ∃ A c, e = .returned (.tuple #[.slice A 2 c, .int .i64 0]) ∧ 2 ≤ c ∧ BytesAt w' w'.heap.size A (dig b 2) ∧ Below w.heap.size w w' := refPut_good b 2 (by omega) (by omega) (by omega)
  have zp6 : ∀ w : World, Calls Tryd.prog 37 #[.int .i64 (k : Int), .int .i64 6] w fun e w' => ∃ A c, e = .returned (.tuple #[.slice A 6 c, .int .i64 0]) ∧ 6 ≤ c ∧ BytesAt w' w'.heap.size A (dig k 6) ∧ Below w.heap.size w w' := refPut_good k 6 (by omega) (by omega) (by omega)
  have zl : ∀ w : World, _ := fun w => refLong_any k (by omega) w
  have hmk : ∀ W : World, (Instr.makeSlice 22 (.int .i64 54) (.int .i64 54)).run Tryd.prog W = .ok (.slice (some ⟨W.heap.size, 0, none⟩) 54 54) (W.alloc (row0 54)) := make_bytes 54 (by decide)
  have q8 : ∀ g W, (Instr.slice 22 (.slice (some ⟨g, 0, none⟩) 54 54) (some (.int .i64 8)) none none).run Tryd.prog W = .ok (.slice (some ⟨g, 8, none⟩) 46 46) W := fun g W => cut54 g 8 (by decide) (by decide) W
  have q10 : ∀ g W, (Instr.slice 22 (.slice (some ⟨g, 0, none⟩) 54 54) (some (.int .i64 10)) none none).run Tryd.prog W = .ok (.slice (some ⟨g, 10, none⟩) 44 44) W := fun g W => cut54 g 10 (by decide) (by decide) W
  have h0 : ∀ W : World, _ := fun W => (row0_facts W 54).1
  have B0 : ∀ W : World, _ := fun W => (row0_facts W 54).2
  obtain ⟨l1, hl1⟩ : ∃ l, l = splice (List.replicate 54 (0 : UInt8)) 0 ((dig k 8).take 54) := ⟨_, rfl⟩
  rw [← hl1] at hsb
  obtain ⟨l2, hl2⟩ : ∃ l, l = splice l1 8 ((dig b 2).take 46) := ⟨_, rfl⟩
  rw [← hl2] at hsb
  obtain ⟨l3, hl3⟩ : ∃ l, l = splice l2 10 (r.take 44) := ⟨_, rfl⟩
  rw [← hl3] at hsb
  have n1 : l1.length = 54 := by rw [hl1, length_splice _ _ _ (by simp [dig_length])]; simp
  have n2 : l2.length = 54 := by rw [hl2, length_splice _ _ _ (by simp [dig_length]; omega)]; exact n1
  have n3 : l3.length = 54 := by rw [hl3, length_splice _ _ _ (by simp; omega)]; exact n2
  have HL := Lib.hid (And.intro hl1 (And.intro hl2 (And.intro hl3 (And.intro n1 (And.intro n2 (And.intro n3 (And.intro hsb hbl)))))))
  have HM := Lib.hid hl
  have n4 : Hid ((l3.set 42 1).length = 54) := Lib.hid (by rw [List.length_set]; exact n3)
  replace h0 := Lib.hid h0
  replace B0 := Lib.hid B0
  have d8 := Lib.hid (dig_length k 8)
  have d2 := Lib.hid (dig_length b 2)
  have d6 := Lib.hid (dig_length k 6)
  have HW := Lib.hid hW0
  unfold entL at hW ⊢
  simp only [hl] at hW ⊢
  clear hl1 hl2 hl3 n1 n2 n3 hsb hbl hl hse e2 h g1 g2 g3 g4 bx hr hW0
  rw [hW] at y0 y1 y2
  go_enter Tryd.func12, Tryd.ntmps12
  go_wp2_with (first
    | (go_at_call 37; first
      | (rw [← hW]; (with_reducible refine (zp2 W).mono ?_); (rintro e w1 ⟨A1, c1, rfl, hc1, r1, B1⟩; have rr1 := hrW.step B1; obtain ⟨y01, y11, y21⟩ := KX.out w1 B1))
      | ((with_reducible refine (zp6 w1).mono ?_); (rintro e w2 ⟨A2, c2, rfl, hc2, r2, B2⟩; have r1' := r1.step B2; have rr2 := rr1.step B2; have hb3 := h0.out w2; have B3 := B0.out w2; have B12 := step_trans B1 B2; obtain ⟨_, y12, _⟩ := KX.out w2 B12; obtain ⟨_, y13, _⟩ := KX.out _ (step_trans B12 B3))))
    | (go_at_call 38; refine (zl (w2.alloc (row0 54))).mono ?_; (rintro e w4 ⟨A4, c4, rfl, hc4, ho4, B4⟩; have hb4 := BlkR.step hb3 B4; have B4' := step_trans B3 B4; have r4 := ho4.bytes; clear ho4))
    | (refine wpList_copyB rfl (.tmp 46) (.tmp 50) rfl 5 w2.heap.size 0 54 54 (some ⟨w2.heap.size, 0, none⟩) A4 8 c4 rfl rfl (fun _ => rfl) (List.replicate 54 0) (dig k 8) d8.out hb4 r4 (by rw [List.length_replicate]; decide) w2.heap.size w2 B4' (Nat.le_refl _) ?_; (intro w5 hb5 B5; rw [← HL.out.1] at hb5; have r15 := r1'.step B5))
    | (refine wpList_copyB rfl (.tmp 53) (.tmp 54) rfl 5 w2.heap.size 8 46 46 (some ⟨w2.heap.size, 8, none⟩) A1 2 c1 rfl rfl (fun _ => rfl) l1 (dig b 2) d2.out hb5.out r15 (by rw [HL.out.2.2.2.1]; decide) w2.heap.size w2 B5 (Nat.le_refl _) ?_; (intro w6 hb6 B6; rw [← HL.out.2.1] at hb6; have rr6 := rr2.step B6)))
  have C6 := step_trans B12 B6
  have y26 := (KX.out w6.drew C6.drew).2.2
  have hb6d : BlkR 5 w6.drew w2.heap.size (cellsOfBytes l2) := hb6.out
  have rr6d : BytesAt w6.drew w6.drew.heap.size A r := rr6.drew
  have B6d := B6.drew
  have HX := Lib.hid (And.intro B12 (And.intro r2 HM.out))
  clear hb3 B3 B4 hb4 B4' r4 hb5 B5 r15 hb6 rr6 rr2 rr1 r1 r1' B1 B2 B12 C6 y0 y1 y2 y01 y11 y21 y12 y13 hc1 hc4 r2
  go_region_held3 (fun w' => w'.cell? ⟨w.heap.size, 2, none⟩ = some (.slice A 32 c)) (first | assumption | exact y27) (first
    | (refine step_copyB rfl (.tmp 57) (.tmp 59) rfl 5 w2.heap.size 10 44 44 (some ⟨w2.heap.size, 10, none⟩) A 32 c rfl rfl (fun _ => rfl) l2 r HM.out hb6d rr6d (by rw [HL.out.2.2.2.2.1]; decide) w2.heap.size w2 B6d (Nat.le_refl _) ?_; (intro w7 hb7 B7; rw [← HL.out.2.2.1] at hb7; have y27 := (KX.out w7 (step_trans HX.out.1 B7)).2.2)))
  have cell42 := hb7.out.cell (cellsOfBytes_get l3 42 (by rw [HL.out.2.2.2.2.2.1]; decide))
  have fr42 := hb7.out.frozen 42
  have hb7 := hb7.out
  have hb8 := bytesR_set hb7 42 1
  have B8 := B7.setCell (p := ⟨w2.heap.size, 42, none⟩) (Nat.le_refl _) (.int .u8 ((1 : UInt8).toNat : Int))
  obtain ⟨w8, hw8⟩ : ∃ w8, w8 = w7.setCell ⟨w2.heap.size, 42, none⟩ (.int .u8 ((1 : UInt8).toNat : Int)) := ⟨_, rfl⟩
  rw [← hw8] at hb8 B8
  have o8 : OwnB w8 w2.heap.size (.slice (some ⟨w2.heap.size, 0, none⟩) 54 54) (l3.set 42 1) := by
    have := BlkB.own_cut (w := w8) (g := w2.heap.size) (base := w2.heap.size) (l := l3.set 42 1) hb8 (Nat.le_refl _) 54 54 (by rw [n4.out]; exact Nat.le_refl _) n4.out (by decide)
    rwa [List.take_of_length_le (by rw [n4.out]; exact Nat.le_refl _)] at this
  have r28 := HX.out.2.1.step B8
  have hs8 := B8.size
  have B8 := Lib.hid B8
  clear hb7 hb8 B7 y27 y26 hb6d rr6d B6d
  rw [show (.int .u8 ((1 : UInt8).toNat : Int) : Value) = .int .u8 1 from rfl] at hw8
  go_wp2_with (first
    | (at_builtin; rw [← hw8]; refine wpList_appendB rfl (.tmp 63) (.tmp 64) 22 rfl rfl w2.heap.size _ (l3.set 42 1) rfl o8 A2 (dig k 6) 6 c2 w8.heap.size rfl d6.out r28 (by rw [n4.out, d6.out]; decide) hs8 ?_; (intro v9 w9 ho9 hg9 hat9; have B9 := B8.out.grown hg9 hs8 (fun j hj => (o8.lt j hj).1); rw [HL.out.2.2.2.2.2.2.1] at ho9; obtain ⟨A9, c9, rfl, hc9⟩ := ho9.form; rw [HL.out.2.2.2.2.2.2.2] at hc9 ho9 ⊢; have r9 := ho9.bytes))
    | (go_at_call 39; ((with_reducible refine (sealed_any A9 (Jn.body b k r) c9 w9 HL.out.2.2.2.2.2.2.2 r9).mono ?_); (rintro e w10 ⟨A10, c10, rfl, hc10, r10, nw10, B10⟩))))
  go_ret2
  have C9 := step_trans HW.out (step_trans HX.out.1 B9)
  exact ⟨A10, c10, rfl, hc10, r10, (fun ad e => Nat.le_trans C9.size (nw10 ad e (by unfold Slot.seal_; intro h; have := congrArg List.length h; rw [List.length_append, HL.out.2.2.2.2.2.2.2] at this; simp at this))), step_trans C9 B10⟩
theorem refBytes8_any (e : Ent) (A : Option Addr) (c : Nat) (w : World) (hr : BytesAt w w.heap.size A e.d) : Calls Tryd.prog 12 #[.agg (entL e A c).toArray] w (JrbPost e w) := by
  cases h : Jn.may e with
  | false => exact refBytes8_no e A c w h
  | true =>
    obtain ⟨a, n, he, _⟩ := Jn.may_nat h
    rw [he] at h hr ⊢
    exact refBytes8_yes a n e.d A c w hr h
end Go.Proofs.YtliiejdhbkmifaaDoor
