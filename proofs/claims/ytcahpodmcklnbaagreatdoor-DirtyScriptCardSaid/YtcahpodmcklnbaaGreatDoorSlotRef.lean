/-
  tandemref05: Sealed, Bytes, same. Conditions: the sizes that are named.
-/
import Derived.Test.YtcahpodmcklnbaaGreatDoorSa
import Derived.Test.YtcahpodmcklnbaaGreatDoorCrcRef
import Derived.Test.YtcahpodmcklnbaaGreatDoorFixRef
import Derived.Test.YtcahpodmcklnbaaGreatDoorBa
namespace Go.Proofs.YtcahpodmcklnbaaGreatDoor
open Go.RowKit Fix

theorem splice_all {α : Type} (L m : List α) (h : L.length = m.length) : splice L 0 m = m := by
  unfold splice
  rw [List.take_zero, List.nil_append, Nat.zero_add, List.drop_eq_nil_of_le (by omega), List.append_nil]
theorem refSum_n (A : Option Addr) (l : List UInt8) (n c : Nat) (hn : l.length = n) (hs : n ≤ 1000000) (w : World) (hr : BytesAt w w.heap.size A l) :
    Calls Tryz.prog 88 #[.slice A n c] w fun e w' => e = .returned (.int .u32 (Crc.sum l : Int)) ∧ w = w' := by
  subst hn; exact refSum_any A l c _ w hs hr
def ByPost (l : List UInt8) (n : Nat) (w : World) (e : Ending) (w' : World) : Prop := ∃ A c, e = .returned (.slice A n c) ∧ n ≤ c ∧ BytesAt w' w'.heap.size A l ∧ (∀ ad, A = some ad → l ≠ [] → w.heap.size ≤ ad.block) ∧ Below w.heap.size w w'
set_option maxRecDepth 100000 in
theorem sealed_any (A : Option Addr) (l : List UInt8) (c : Nat) (w : World) (hl : l.length = 60) (hr : BytesAt w w.heap.size A l) : Calls Tryz.prog 68 #[.slice A 60 c] w (ByPost (Slot.seal_ l) 64 w) := by
  have hmk := make_bytes 60 (by decide)
  rw [show ((60 : Nat) : Int) = 60 from rfl] at hmk
  have b1 : BlkR 5 (w.alloc (.cells (List.replicate 60 (Value.int .u8 0)).toArray 5)) w.heap.size (cellsOfBytes (List.replicate 60 0)) := heap_alloc_new w _
  have B1 : Below w.heap.size w (w.alloc (.cells (List.replicate 60 (Value.int .u8 0)).toArray 5)) := (Below.refl _ _).alloc (Nat.le_refl _) _
  have r1 := hr.step B1
  have e1 : splice (List.replicate 60 (0 : UInt8)) 0 (l.take 60) = l := by rw [List.take_of_length_le (by omega)]; exact splice_all _ _ (by rw [List.length_replicate, hl])
  have es := Crc.sum_lt l
  have e64 := Lib.hid (show (l ++ dig (Crc.sum l) 4).length = 64 by rw [List.length_append, hl, dig_length])
  have HL := Lib.hid (And.intro hl (And.intro e1 es))
  replace b1 := Lib.hid b1
  replace B1 := Lib.hid B1
  clear hr e1 es hl
  go_enter Tryz.func68, Tryz.ntmps68
  go_wp2_with (first
    | (refine wpList_copyB rfl (.tmp 5) (.tmp 6) rfl 5 w.heap.size 0 60 60 (some ⟨w.heap.size, 0, none⟩) A 60 c rfl rfl (fun _ => rfl) (List.replicate 60 0) l HL.out.1 b1.out r1 (by simp) w.heap.size w B1.out (Nat.le_refl _) ?_; (intro w2 b2 B2; rw [HL.out.2.1] at b2; have hb2 := b2.out; have r2 : BytesAt w2 w2.heap.size (some ⟨w.heap.size, 0, none⟩) l := BlkB.at_ hb2; have B2 := Lib.hid B2; clear hb2))
    | (go_at_call 88; refine (refSum_n (some ⟨w.heap.size, 0, none⟩) l 60 60 HL.out.1 (by decide) w2 r2).mono ?_; (rintro e w3 ⟨rfl, rfl⟩))
    | (go_at_call 87; refine (refWord_any (Crc.sum l) HL.out.2.2 w2).mono ?_; (rintro e w3 ⟨A3, c3, rfl, hc3, ho3, B3⟩; have o2 : OwnB w2 w.heap.size (.slice (some ⟨w.heap.size, 0, none⟩) 60 60) l := (by have := BlkB.own_cut (w := w2) (g := w.heap.size) (base := w.heap.size) (l := l) b2.out (Nat.le_refl _) 60 60 (by rw [HL.out.1]; exact Nat.le_refl _) HL.out.1 (by decide); rwa [List.take_of_length_le (by rw [HL.out.1]; exact Nat.le_refl _)] at this); have o3 := o2.below B3; have r3 := ho3.bytes; have B3' := B2.out.trans (B3.mono B2.out.size); have hs3 := B3'.size; have B3' := Lib.hid B3'; clear o2 ho3))
    | (at_builtin; refine wpList_appendB rfl (.tmp 8) (.tmp 11) 32 rfl rfl w.heap.size _ l rfl o3 A3 (dig (Crc.sum l) 4) 4 c3 w3.heap.size rfl (dig_length _ _) r3 (by rw [HL.out.1, dig_length]; decide) hs3 ?_; (intro v4 w4 ho4 hg4 hat4; have B4 := B3'.out.grown hg4 hs3 (fun j hj => (o3.lt j hj).1); obtain ⟨A4, c4, rfl, hc4⟩ := ho4.form; rw [e64.out] at hc4 ho4 ⊢)))
  go_ret
  exact ⟨A4, c4, rfl, hc4, ho4.bytes, ho4.new, B4⟩
def SbPost (n : Int) (r : List UInt8) (w : World) (e : Ending) (w' : World) : Prop :=
  ∃ A c, e = .returned (.tuple #[.slice A (Slot.bytesB n r).length c, .int .i64 (Slot.bytesE n r)]) ∧ (Slot.bytesB n r).length ≤ c ∧ BytesAt w' w'.heap.size A (Slot.bytesB n r) ∧ (∀ ad, A = some ad → Slot.bytesB n r ≠ [] → w.heap.size ≤ ad.block) ∧ Below w.heap.size w w'
theorem Slot.bytes_long (n : Int) (r : List UInt8) (h : 40 < r.length) : Slot.bytesE n r = 3 ∧ Slot.bytesB n r = [] := by simp [Slot.bytesE, Slot.bytesB, h]
theorem Slot.bytes_range (n : Int) (r : List UInt8) (h : ¬ 40 < r.length) (h2 : n < 1 ∨ 1099511627776 < n) : Slot.bytesE n r = 5 ∧ Slot.bytesB n r = [] := by simp [Slot.bytesE, Slot.bytesB, h, h2]
theorem Slot.bytes_good (n : Nat) (r : List UInt8) (h : ¬ 40 < r.length) (h2 : ¬ ((n : Int) < 1 ∨ 1099511627776 < (n : Int))) : Slot.bytesE n r = 0 ∧ Slot.bytesB n r = Slot.sect n r := by simp [Slot.bytesE, Slot.bytesB, h, h2]
theorem SbPost.none_ {n : Int} {r : List UInt8} {x : Int} (h : Slot.bytesE n r = x ∧ Slot.bytesB n r = []) (w : World) : SbPost n r w (.returned (.tuple #[.slice none 0 0, .int .i64 x])) w :=
  ⟨none, 0, by rw [h.1, h.2]; rfl, by rw [h.2]; exact Nat.le_refl _, by rw [h.2]; exact bytes_nil, (fun ad e => by cases e), Below.refl _ _⟩
theorem splice_body (n : Nat) (r : List UInt8) (h : r.length ≤ 40) : splice (splice (splice (List.replicate 54 (0 : UInt8)) 0 ((dig n 8).take 54)) 8 ((dig r.length 2).take 46)) 10 (r.take 44) ++ dig n 6 = Slot.body n r := by
  have h8 := dig_length n 8
  have h2 := dig_length r.length 2
  rw [List.take_of_length_le (by omega : (dig n 8).length ≤ 54), List.take_of_length_le (by omega : (dig r.length 2).length ≤ 46), List.take_of_length_le (by omega : r.length ≤ 44)]
  have e1 : splice (List.replicate 54 (0 : UInt8)) 0 (dig n 8) = dig n 8 ++ List.replicate 46 0 := by
    unfold splice
    rw [List.take_zero, List.nil_append, h8, List.drop_replicate]
  have e2 : splice (dig n 8 ++ List.replicate 46 (0 : UInt8)) 8 (dig r.length 2) = dig n 8 ++ (dig r.length 2 ++ List.replicate 44 0) := by
    unfold splice
    rw [List.take_left' h8, h2, List.drop_append, List.drop_of_length_le (by omega), List.nil_append, h8, List.drop_replicate]
  have e3 : splice (dig n 8 ++ (dig r.length 2 ++ List.replicate 44 (0 : UInt8))) 10 r = dig n 8 ++ (dig r.length 2 ++ (r ++ List.replicate (44 - r.length) 0)) := by
    have e : dig n 8 ++ (dig r.length 2 ++ List.replicate 44 (0 : UInt8)) = (dig n 8 ++ dig r.length 2) ++ List.replicate 44 0 := by rw [List.append_assoc]
    have l10 : (dig n 8 ++ dig r.length 2).length = 10 := by rw [List.length_append, h8, h2]
    rw [e]
    unfold splice
    rw [List.take_left' l10, List.drop_append, List.drop_of_length_le (by omega), List.nil_append, l10, List.drop_replicate, List.append_assoc]
    congr 4
    omega
  rw [e1, e2, e3]
  unfold Slot.body
  simp only [List.append_assoc]
theorem refPut_good (n s : Nat) (h1 : 1 ≤ s) (h7 : s ≤ 7) (hn : n < 256 ^ s) (w : World) : Calls Tryz.prog 67 #[.int .i64 (n : Int), .int .i64 (s : Int)] w fun e w' =>
    ∃ A c, e = .returned (.tuple #[.slice A s c, .int .i64 0]) ∧ s ≤ c ∧ BytesAt w' w'.heap.size A (dig n s) ∧ Below w.heap.size w w' := by
  have hp := pow_le7 s h7
  have hn' : (n : Int) < (256 : Int) ^ s := by
    have : ((n : Nat) : Int) < ((256 ^ s : Nat) : Int) := by omega
    simpa using this
  obtain ⟨e1, e2⟩ := putBE_good (n : Int) (s : Int) (by rw [isz_iff]; omega) (by rw [fitsB_iff, Int.toNat_natCast]; exact ⟨by omega, hn'⟩)
  refine (refPut_any (n : Int) (s : Int) w (by omega)).mono fun e w' ⟨A, c, he, hc, hr, hB⟩ => ?_
  rw [e1, Int.toNat_natCast, Int.toNat_natCast] at hr hc he
  rw [dig_length] at hc he
  rw [e2] at he
  exact ⟨A, c, he, hc, hr, hB⟩
theorem cut54 (g k : Nat) (h0 : k ≠ 0) (h : k < 54) (W : World) : (Instr.slice 32 (.slice (some ⟨g, 0, none⟩) 54 54) (some (.int .i64 (k : Int))) none none).run Tryz.prog W = .ok (.slice (some ⟨g, k, none⟩) (54 - k) (54 - k)) W := by
  have := cut_from (some ⟨g, 0, none⟩) 54 54 k (by omega) W
  rwa [show cutA (some ⟨g, 0, none⟩) k 54 = some ⟨g, k, none⟩ by unfold cutA; rw [if_neg (by omega)]; simp [Addr.add, h0]] at this
set_option maxRecDepth 100000 in
set_option maxHeartbeats 2000000 in
theorem refBytes5_any (n : Int) (A : Option Addr) (r : List UInt8) (m c : Nat) (hm : r.length = m) (w : World) (hr : BytesAt w w.heap.size A r) : Calls Tryz.prog 35 #[.int .i64 n, .slice A m c] w (SbPost n r w) := by
  by_cases h40 : 40 < r.length
  · have hi : (40 : Int) < (m : Int) := by omega
    have hp := Lib.hid (SbPost.none_ (Slot.bytes_long n r h40) w)
    clear h40 hm hr
    go_enter Tryz.func35, Tryz.ntmps35
    go_wp2
    go_ret2
    exact hp.out
  · have hi : ¬ (40 : Int) < (m : Int) := by omega
    by_cases hn : n < 1 ∨ 1099511627776 < n
    · have hp := Lib.hid (SbPost.none_ (Slot.bytes_range n r h40 hn) w)
      by_cases h1 : n < 1
      · clear h40 hm hr hn
        go_enter Tryz.func35, Tryz.ntmps35
        go_wp2
        go_ret2
        exact hp.out
      · have h2 : 1099511627776 < n := by omega
        clear h40 hm hr hn
        go_enter Tryz.func35, Tryz.ntmps35
        go_wp2
        go_ret2
        exact hp.out
    · obtain ⟨k, rfl⟩ : ∃ k : Nat, n = (k : Int) := ⟨n.toNat, by omega⟩
      have h1 : ¬ (k : Int) < 1 := by omega
      have h2 : ¬ (1099511627776 : Int) < (k : Int) := by omega
      have ew : IntKind.u64.wrap (k : Int) = (k : Int) := by rw [IntKind.wrap_u64]; omega
      obtain ⟨e1, e2⟩ := Slot.bytes_good k r h40 hn
      have hsb := splice_body k r (by omega)
      have hbl := Slot.body_length k r (by omega)
      have hse := Slot.sect_length k r (by omega)
      unfold SbPost
      rw [e1, e2, hse]
      clear e1 e2 hn
      have zp2 : ∀ w : World, Calls Tryz.prog 67 #[.int .i64 (m : Int), .int .i64 2] w fun e w' => ∃ A c, e = .returned (.tuple #[.slice A 2 c, .int .i64 0]) ∧ 2 ≤ c ∧ BytesAt w' w'.heap.size A (dig m 2) ∧ Below w.heap.size w w' := refPut_good m 2 (by omega) (by omega) (by omega)
      have zp6 : ∀ w : World, Calls Tryz.prog 67 #[.int .i64 (k : Int), .int .i64 6] w fun e w' => ∃ A c, e = .returned (.tuple #[.slice A 6 c, .int .i64 0]) ∧ 6 ≤ c ∧ BytesAt w' w'.heap.size A (dig k 6) ∧ Below w.heap.size w w' := refPut_good k 6 (by omega) (by omega) (by omega)
      have zl : ∀ w : World, _ := fun w => refLong_any k (by omega) w
      have hmk := make_bytes 54 (by decide)
      rw [show ((54 : Nat) : Int) = 54 from rfl] at hmk
      have q8 : ∀ g W, (Instr.slice 32 (.slice (some ⟨g, 0, none⟩) 54 54) (some (.int .i64 8)) none none).run Tryz.prog W = .ok (.slice (some ⟨g, 8, none⟩) 46 46) W := fun g W => cut54 g 8 (by decide) (by decide) W
      have q10 : ∀ g W, (Instr.slice 32 (.slice (some ⟨g, 0, none⟩) 54 54) (some (.int .i64 10)) none none).run Tryz.prog W = .ok (.slice (some ⟨g, 10, none⟩) 44 44) W := fun g W => cut54 g 10 (by decide) (by decide) W
      have h0 : ∀ W : World, BlkR 5 (W.alloc (.cells (List.replicate 54 (Value.int .u8 0)).toArray 5)) W.heap.size (cellsOfBytes (List.replicate 54 0)) := fun W => heap_alloc_new W _
      have B0 : ∀ W : World, Below W.heap.size W (W.alloc (.cells (List.replicate 54 (Value.int .u8 0)).toArray 5)) := fun W => (Below.refl _ _).alloc (Nat.le_refl _) _
      rw [hm] at hsb
      obtain ⟨l1, hl1⟩ : ∃ l, l = splice (List.replicate 54 (0 : UInt8)) 0 ((dig k 8).take 54) := ⟨_, rfl⟩
      rw [← hl1] at hsb
      obtain ⟨l2, hl2⟩ : ∃ l, l = splice l1 8 ((dig m 2).take 46) := ⟨_, rfl⟩
      rw [← hl2] at hsb
      obtain ⟨l3, hl3⟩ : ∃ l, l = splice l2 10 (r.take 44) := ⟨_, rfl⟩
      rw [← hl3] at hsb
      have n1 : l1.length = 54 := by rw [hl1, length_splice _ _ _ (by simp [dig_length])]; simp
      have n2 : l2.length = 54 := by rw [hl2, length_splice _ _ _ (by simp [dig_length]; omega)]; exact n1
      have n3 : l3.length = 54 := by rw [hl3, length_splice _ _ _ (by simp; omega)]; exact n2
      have HL := Lib.hid (And.intro hl1 (And.intro hl2 (And.intro hl3 (And.intro n1 (And.intro n2 (And.intro n3 (And.intro hsb hbl)))))))
      have HM := Lib.hid hm
      replace h0 := Lib.hid h0
      replace B0 := Lib.hid B0
      have d8 := Lib.hid (dig_length k 8)
      have d2 := Lib.hid (dig_length m 2)
      have d6 := Lib.hid (dig_length k 6)
      clear hl1 hl2 hl3 n1 n2 n3 hsb hbl hm h40 hse
      go_enter Tryz.func35, Tryz.ntmps35
      go_wp2_with (first
        | (go_at_call 67; first
          | ((with_reducible refine (zp2 w).mono ?_); (rintro e w1 ⟨A1, c1, rfl, hc1, r1, B1⟩; have rr1 := hr.step B1))
          | ((with_reducible refine (zp6 w1).mono ?_); (rintro e w2 ⟨A2, c2, rfl, hc2, r2, B2⟩; have r1' := r1.step B2; have rr2 := rr1.step B2; have hb3 := h0.out w2; have B3 := B0.out w2; have B12 := step_trans B1 B2)))
        | (go_at_call 28; refine (zl (w2.alloc (.cells (List.replicate 54 (Value.int .u8 0)).toArray 5))).mono ?_; (rintro e w4 ⟨A4, c4, rfl, hc4, ho4, B4⟩; have hb4 := BlkR.step hb3 B4; have B4' := step_trans B3 B4; have r4 := ho4.bytes; clear ho4))
        | (refine wpList_copyB rfl (.tmp 32) (.tmp 35) rfl 5 w2.heap.size 0 54 54 (some ⟨w2.heap.size, 0, none⟩) A4 8 c4 rfl rfl (fun _ => rfl) (List.replicate 54 0) (dig k 8) d8.out hb4 r4 (by rw [List.length_replicate]; decide) w2.heap.size w2 B4' (Nat.le_refl _) ?_; (intro w5 hb5 B5; rw [← HL.out.1] at hb5; have r15 := r1'.step B5))
        | (refine wpList_copyB rfl (.tmp 38) (.tmp 39) rfl 5 w2.heap.size 8 46 46 (some ⟨w2.heap.size, 8, none⟩) A1 2 c1 rfl rfl (fun _ => rfl) l1 (dig m 2) d2.out hb5.out r15 (by rw [HL.out.2.2.2.1]; decide) w2.heap.size w2 B5 (Nat.le_refl _) ?_; (intro w6 hb6 B6; rw [← HL.out.2.1] at hb6; have rr6 := rr2.step B6))
        | (refine wpList_copyB rfl (.tmp 42) (.tmp 43) rfl 5 w2.heap.size 10 44 44 (some ⟨w2.heap.size, 10, none⟩) A m c rfl rfl (fun _ => rfl) l2 r HM.out hb6.out rr6 (by rw [HL.out.2.2.2.2.1]; decide) w2.heap.size w2 B6 (Nat.le_refl _) ?_; (intro w7 hb7 B7; rw [← HL.out.2.2.1] at hb7; have r27 := r2.step B7; have o7 : OwnB w7 w2.heap.size (.slice (some ⟨w2.heap.size, 0, none⟩) 54 54) l3 := (by have := BlkB.own_cut (w := w7) (g := w2.heap.size) (base := w2.heap.size) (l := l3) hb7.out (Nat.le_refl _) 54 54 (by rw [HL.out.2.2.2.2.2.1]; exact Nat.le_refl _) HL.out.2.2.2.2.2.1 (by decide); rwa [List.take_of_length_le (by rw [HL.out.2.2.2.2.2.1]; exact Nat.le_refl _)] at this)))
        | (at_builtin; refine wpList_appendB rfl (.tmp 45) (.tmp 46) 32 rfl rfl w2.heap.size _ l3 rfl o7 A2 (dig k 6) 6 c2 w7.heap.size rfl d6.out r27 (by rw [HL.out.2.2.2.2.2.1, d6.out]; decide) B7.size ?_; (intro v8 w8 ho8 hg8 hat8; have B8 := B7.grown hg8 B7.size (fun j hj => (o7.lt j hj).1); rw [HL.out.2.2.2.2.2.2.1] at ho8; obtain ⟨A8, c8, rfl, hc8⟩ := ho8.form; rw [HL.out.2.2.2.2.2.2.2] at hc8 ho8 ⊢; have r8 := ho8.bytes))
        | (go_at_call 68; ((with_reducible refine (sealed_any A8 (Slot.body k r) c8 w8 HL.out.2.2.2.2.2.2.2 r8).mono ?_); (rintro e w9 ⟨A9, c9, rfl, hc9, r9, nw9, B9⟩))))
      go_ret2
      have c12 := (step_trans B12 B8).size
      exact ⟨A9, c9, rfl, hc9, r9, (fun ad e hne => Nat.le_trans c12 (nw9 ad e hne)), step_trans (step_trans B12 B8) B9⟩
end Go.Proofs.YtcahpodmcklnbaaGreatDoor
