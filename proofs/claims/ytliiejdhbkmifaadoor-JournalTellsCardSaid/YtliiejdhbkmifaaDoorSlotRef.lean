/-
  tandemref05: Sealed, Bytes, same. Conditions: the sizes that are named.
-/
import Derived.Test.YtliiejdhbkmifaaDoorSa
import Derived.Test.YtliiejdhbkmifaaDoorCrcRef
import Derived.Test.YtliiejdhbkmifaaDoorFixRef
import Derived.Test.YtliiejdhbkmifaaDoorBa
namespace Go.Proofs.YtliiejdhbkmifaaDoor
open Go.RowKit Fix

theorem splice_all {α : Type} (L m : List α) (h : L.length = m.length) : splice L 0 m = m := by
  unfold splice
  rw [List.take_zero, List.nil_append, Nat.zero_add, List.drop_eq_nil_of_le (by omega), List.append_nil]
theorem refSum_n (A : Option Addr) (l : List UInt8) (n c : Nat) (hn : l.length = n) (hs : n ≤ 1000000) (w : World) (hr : BytesAt w w.heap.size A l) :
    Calls Tryd.prog 66 #[.slice A n c] w fun e w' => e = .returned (.int .u32 (Crc.sum l : Int)) ∧ w = w' := by
  subst hn; exact refSum_any A l c _ w hs hr
def ByPost (l : List UInt8) (n : Nat) (w : World) (e : Ending) (w' : World) : Prop := ∃ A c, e = .returned (.slice A n c) ∧ n ≤ c ∧ BytesAt w' w'.heap.size A l ∧ (∀ ad, A = some ad → l ≠ [] → w.heap.size ≤ ad.block) ∧ Below w.heap.size w w'
set_option maxRecDepth 100000 in
theorem sealed_any (A : Option Addr) (l : List UInt8) (c : Nat) (w : World) (hl : l.length = 60) (hr : BytesAt w w.heap.size A l) : Calls Tryd.prog 39 #[.slice A 60 c] w (ByPost (Slot.seal_ l) 64 w) := by
  have hmk := make_bytes 60 (by decide)
  rw [show ((60 : Nat) : Int) = 60 from rfl] at hmk
  have b1 : BlkR 5 (w.alloc (.cells (List.replicate 60 (Value.int .u8 0)).toArray 5)) w.heap.size (cellsOfBytes (List.replicate 60 0)) := heap_alloc_new w _
  have B1 : Below w.heap.size w (w.alloc (.cells (List.replicate 60 (Value.int .u8 0)).toArray 5)) := (Below.refl _ _).alloc (Nat.le_refl _) _
  have r1 := hr.step B1
  have e1 : splice (List.replicate 60 (0 : UInt8)) 0 (l.take 60) = l := by rw [List.take_of_length_le (by omega)]; exact splice_all _ _ (by rw [List.length_replicate, hl])
  have es := Crc.sum_lt l
  have e64 := Lib.hid (show (l ++ dig (Crc.sum l) 4).length = 64 by rw [List.length_append, hl, dig_length])
  have HL := Lib.hid (And.intro hl (And.intro e1 es))
  replace b1 := Lib.hid b1
  replace B1 := Lib.hid B1
  clear hr e1 es hl
  go_enter Tryd.func39, Tryd.ntmps39
  go_wp2_with (first
    | (refine wpList_copyB rfl (.tmp 5) (.tmp 6) rfl 5 w.heap.size 0 60 60 (some ⟨w.heap.size, 0, none⟩) A 60 c rfl rfl (fun _ => rfl) (List.replicate 60 0) l HL.out.1 b1.out r1 (by simp) w.heap.size w B1.out (Nat.le_refl _) ?_; (intro w2 b2 B2; rw [HL.out.2.1] at b2; have hb2 := b2.out; have r2 : BytesAt w2 w2.heap.size (some ⟨w.heap.size, 0, none⟩) l := BlkB.at_ hb2; have B2 := Lib.hid B2; clear hb2))
    | (go_at_call 66; refine (refSum_n (some ⟨w.heap.size, 0, none⟩) l 60 60 HL.out.1 (by decide) w2 r2).mono ?_; (rintro e w3 ⟨rfl, rfl⟩))
    | (go_at_call 65; refine (refWord_any (Crc.sum l) HL.out.2.2 w2).mono ?_; (rintro e w3 ⟨A3, c3, rfl, hc3, ho3, B3⟩; have o2 : OwnB w2 w.heap.size (.slice (some ⟨w.heap.size, 0, none⟩) 60 60) l := (by have := BlkB.own_cut (w := w2) (g := w.heap.size) (base := w.heap.size) (l := l) b2.out (Nat.le_refl _) 60 60 (by rw [HL.out.1]; exact Nat.le_refl _) HL.out.1 (by decide); rwa [List.take_of_length_le (by rw [HL.out.1]; exact Nat.le_refl _)] at this); have o3 := o2.below B3; have r3 := ho3.bytes; have B3' := B2.out.trans (B3.mono B2.out.size); have hs3 := B3'.size; have B3' := Lib.hid B3'; clear o2 ho3))
    | (at_builtin; refine wpList_appendB rfl (.tmp 8) (.tmp 11) 22 rfl rfl w.heap.size _ l rfl o3 A3 (dig (Crc.sum l) 4) 4 c3 w3.heap.size rfl (dig_length _ _) r3 (by rw [HL.out.1, dig_length]; decide) hs3 ?_; (intro v4 w4 ho4 hg4 hat4; have B4 := B3'.out.grown hg4 hs3 (fun j hj => (o3.lt j hj).1); obtain ⟨A4, c4, rfl, hc4⟩ := ho4.form; rw [e64.out] at hc4 ho4 ⊢)))
  go_ret
  exact ⟨A4, c4, rfl, hc4, ho4.bytes, ho4.new, B4⟩
def SbPost (n : Int) (r : List UInt8) (w : World) (e : Ending) (w' : World) : Prop :=
  ∃ A c, e = .returned (.tuple #[.slice A (Slot.bytesB n r).length c, .int .i64 (Slot.bytesE n r)]) ∧ (Slot.bytesB n r).length ≤ c ∧ BytesAt w' w'.heap.size A (Slot.bytesB n r) ∧ (∀ ad, A = some ad → Slot.bytesB n r ≠ [] → w.heap.size ≤ ad.block) ∧ Below w.heap.size w w'
theorem Slot.bytes_long (n : Int) (r : List UInt8) (h : 40 < r.length) : Slot.bytesE n r = 3 ∧ Slot.bytesB n r = [] := by simp [Slot.bytesE, Slot.bytesB, h]
theorem Slot.bytes_range (n : Int) (r : List UInt8) (h : ¬ 40 < r.length) (h2 : n < 1 ∨ 1099511627776 < n) : Slot.bytesE n r = 5 ∧ Slot.bytesB n r = [] := by simp [Slot.bytesE, Slot.bytesB, h, h2]
theorem Slot.bytes_good (n : Nat) (r : List UInt8) (h : ¬ 40 < r.length) (h2 : ¬ ((n : Int) < 1 ∨ 1099511627776 < (n : Int))) : Slot.bytesE n r = 0 ∧ Slot.bytesB n r = Slot.sect n r := by simp [Slot.bytesE, Slot.bytesB, h, h2]
theorem SbPost.none_ {n : Int} {r : List UInt8} {x : Int} (h : Slot.bytesE n r = x ∧ Slot.bytesB n r = []) (w : World) : SbPost n r w (.returned (.tuple #[.slice none 0 0, .int .i64 x])) w :=
  ⟨none, 0, by rw [h.1, h.2]; rfl, by rw [h.2]; exact Nat.le_refl _, by rw [h.2]; exact bytes_nil, (fun ad e => by cases e), Below.refl _ _⟩
theorem splice_body (n : Nat) (r : List UInt8) (h : r.length ≤ 40) : splice (splice (splice (List.replicate 54 (0 : UInt8)) 0 ((dig n 8).take 54)) 8 ((dig r.length 2).take 46)) 10 (r.take 44) ++ dig n 6 = Slot.body n r := by
  have h8 := dig_length n 8
  have h2 := dig_length r.length 2
  rw [List.take_of_length_le (by omega : (dig n 8).length ≤ 54), List.take_of_length_le (by omega : (dig r.length 2).length ≤ 46), List.take_of_length_le (by omega : r.length ≤ 44)]
  have e1 : splice (List.replicate 54 (0 : UInt8)) 0 (dig n 8) = dig n 8 ++ List.replicate 46 0 := by
    unfold splice
    rw [List.take_zero, List.nil_append, h8, List.drop_replicate]
  have e2 : splice (dig n 8 ++ List.replicate 46 (0 : UInt8)) 8 (dig r.length 2) = dig n 8 ++ (dig r.length 2 ++ List.replicate 44 0) := by
    unfold splice
    rw [List.take_left' h8, h2, List.drop_append, List.drop_of_length_le (by omega), List.nil_append, h8, List.drop_replicate]
  have e3 : splice (dig n 8 ++ (dig r.length 2 ++ List.replicate 44 (0 : UInt8))) 10 r = dig n 8 ++ (dig r.length 2 ++ (r ++ List.replicate (44 - r.length) 0)) := by
    have e : dig n 8 ++ (dig r.length 2 ++ List.replicate 44 (0 : UInt8)) = (dig n 8 ++ dig r.length 2) ++ List.replicate 44 0 := by rw [List.append_assoc]
    have l10 : (dig n 8 ++ dig r.length 2).length = 10 := by rw [List.length_append, h8, h2]
    rw [e]
    unfold splice
    rw [List.take_left' l10, List.drop_append, List.drop_of_length_le (by omega), List.nil_append, l10, List.drop_replicate, List.append_assoc]
    congr 4
    omega
  rw [e1, e2, e3]
  unfold Slot.body
  simp only [List.append_assoc]
theorem refPut_good (n s : Nat) (h1 : 1 ≤ s) (h7 : s ≤ 7) (hn : n < 256 ^ s) (w : World) : Calls Tryd.prog 37 #[.int .i64 (n : Int), .int .i64 (s : Int)] w fun e w' =>
    ∃ A c, e = .returned (.tuple #[.slice A s c, .int .i64 0]) ∧ s ≤ c ∧ BytesAt w' w'.heap.size A (dig n s) ∧ Below w.heap.size w w' := by
  have hp := pow_le7 s h7
  have hn' : (n : Int) < (256 : Int) ^ s := by
    have : ((n : Nat) : Int) < ((256 ^ s : Nat) : Int) := by omega
    simpa using this
  obtain ⟨e1, e2⟩ := putBE_good (n : Int) (s : Int) (by rw [isz_iff]; omega) (by rw [fitsB_iff, Int.toNat_natCast]; exact ⟨by omega, hn'⟩)
  refine (refPut_any (n : Int) (s : Int) w (by omega)).mono fun e w' ⟨A, c, he, hc, hr, hB⟩ => ?_
  rw [e1, Int.toNat_natCast, Int.toNat_natCast] at hr hc he
  rw [dig_length] at hc he
  rw [e2] at he
  exact ⟨A, c, he, hc, hr, hB⟩
theorem cut54 (g k : Nat) (h0 : k ≠ 0) (h : k < 54) (W : World) : (Instr.slice 22 (.slice (some ⟨g, 0, none⟩) 54 54) (some (.int .i64 (k : Int))) none none).run Tryd.prog W = .ok (.slice (some ⟨g, k, none⟩) (54 - k) (54 - k)) W := by
  have := cut_from (some ⟨g, 0, none⟩) 54 54 k (by omega) W
  rwa [show cutA (some ⟨g, 0, none⟩) k 54 = some ⟨g, k, none⟩ by unfold cutA; rw [if_neg (by omega)]; simp [Addr.add, h0]] at this
end Go.Proofs.YtliiejdhbkmifaaDoor
