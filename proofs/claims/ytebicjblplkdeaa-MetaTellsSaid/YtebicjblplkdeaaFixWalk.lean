/-
  Package fixed: what its functions return. Conditions: the bytes can be read.
-/
import Derived.Test.YtebicjblplkdeaaFixMath
import Derived.Test.YtebicjblplkdeaaKitLent
import Derived.Test.YtebicjblplkdeaaRow
import Derived.Laws.BitsAllLaws
namespace Go.Proofs.Ytebicjblplkdeaa
open Go.RowKit Fix

def LayPost (n s : Nat) (w : World) (e : Ending) (w' : World) : Prop :=
  ∃ g, e = .returned (.slice (some ⟨g, 0, none⟩) s s) ∧ w.heap.size ≤ g ∧ BlkB w' g (dig n s) ∧ Below w.heap.size w w'
/-- the eight bytes, of which so many are laid -/
def laidN (n j : Nat) : List UInt8 := dig n j ++ List.replicate (8 - j) 0
theorem laidN_length (n j : Nat) (h : j ≤ 8) : (laidN n j).length = 8 := by simp [laidN, dig_length]; omega
theorem laidN_get (n j : Nat) (h : j < 8) : (cellsOfBytes (laidN n j))[j]? = some (.int .u8 0) := by
  rw [cellsOfBytes_get _ _ (by rw [laidN_length n j (by omega)]; exact h)]
  unfold laidN
  rw [List.getD_eq_getElem?_getD, List.getElem?_append_right (by rw [dig_length]; omega), dig_length, Nat.sub_self, List.getElem?_replicate, if_pos (by omega)]
  rfl
theorem div_int (n j : Nat) : (n : Int) / 2 ^ (8 * j) % 256 = ((UInt8.ofNat (n / 256 ^ j)).toNat : Int) := by
  have e : (n : Int) / 2 ^ (8 * j) = ((n / 256 ^ j : Nat) : Int) := by rw [pow256, Int.natCast_ediv, Int.natCast_pow]; rfl
  rw [e, UInt8.toNat_ofNat']
  omega
theorem laidN_set (n j : Nat) (h : j < 8) : (cellsOfBytes (laidN n j)).set j (.int .u8 ((n : Int) / 2 ^ (8 * j) % 256)) = cellsOfBytes (laidN n (j + 1)) := by
  rw [div_int]
  unfold laidN cellsOfBytes
  rw [show 8 - j = (8 - (j + 1)) + 1 by omega, List.replicate_succ, dig_succ, List.append_assoc]
  simp only [List.map_append, List.map_cons, List.map_nil]
  rw [List.set_append_right _ _ (by simp [dig_length]), List.length_map, dig_length, Nat.sub_self, List.set_cons_zero]
  rfl
theorem laidN_zero (n : Nat) : (cellsOfBytes (laidN n 0)).toArray = #[.int .u8 0, .int .u8 0, .int .u8 0, .int .u8 0, .int .u8 0, .int .u8 0, .int .u8 0, .int .u8 0] := rfl
theorem laidN_all (n : Nat) : laidN n 8 = dig n 8 := by simp [laidN]

theorem cut8 (g s : Nat) (hs : s ≤ 8) (W : World) : (Instr.sliceAt 62 (.pointer (some ⟨g, 0, none⟩)) none (some (.int .i64 (s : Int))) none).run Try.prog W = .ok (.slice (some ⟨g, 0, none⟩) s 8) W := by
  have hu : Try.prog.underlying 62 = some (.array (Try.prog.arrayLen 62) (Try.prog.elem 62)) := by kernel_rfl
  have h8 : Try.prog.arrayLen 62 = 8 := by kernel_rfl
  have hz : (sizeOf (Try.prog.elem 62)).run Try.prog W = .ok 1 W := by kernel_rfl
  rw [run_sliceAt_array_h W 62 ⟨g, 0, none⟩ hu .i64 (s : Int) (by omega) (by rw [h8]; omega), hz, h8]
  simp [Result.andThen, slicedAt, Addr.add]

theorem lay_any (n s : Nat) (hs : s ≤ 8) (w : World) :
    Calls Try.prog 31 #[.int .u64 (n : Int), .int .i64 (s : Int)] w (LayPost n s w) := by
  have hmk := make_bytes s (by omega)
  go_enter Try.func31, Try.ntmps31
  go_wp2
  go_loopw [8] (fun i wr => ∃ j : Nat, j ≤ 8 ∧ i = .int .i64 (j : Int) ∧ BlkR 62 wr w.heap.size (cellsOfBytes (laidN n j)) ∧ Below w.heap.size w wr) (fun i _ => 8 - (intOf i).toNat)
  case atStart => exact ⟨0, by omega, rfl, BlkR.new w _ _, (Below.refl _ _).alloc (Nat.le_refl _) _⟩
  case round => 
    obtain ⟨j, hj, rfl, hblk, hbel⟩ := hrel
    by_cases hj8 : j < 8
    · have hcell := hblk.cell (laidN_get n j hj8)
      have hfr := hblk.frozen j
      have HB := Lib.hid hblk
      clear hblk
      go_wp2
      go_roundw
      case rel =>
        refine ⟨j + 1, by omega, by go_num, ?_, hbel.setCell (Nat.le_refl _) _⟩
        rw [← laidN_set n j hj8]
        exact HB.out.set_ _ _
      case measure => simp [intOf]; omega
    · obtain rfl : j = 8 := by omega
      rw [laidN_all] at hblk
      have HB := Lib.hid hblk
      clear hblk
      have q8 := cut8 w.heap.size s hs
      have H0 := fun W : World => heap_alloc_new W (.cells (List.replicate s (Value.int .u8 0)).toArray 5)
      replace H0 := Lib.hid H0
      go_wp2_with (with_reducible refine wpList_copy_splice rfl (.tmp 21) (.tmp 23) 26 26 rfl 5 Try.underlying26 (by kernel_rfl) (some ⟨wr.heap.size, 0, none⟩) (some ⟨w.heap.size, 0, none⟩) s s s 8 rfl rfl wr.heap.size 0 (List.replicate s (Value.int .u8 0)) 5 ?h1 (cellsOfBytes (dig n s)) ?h2 ?h3 ?h4 ?h5 w.heap.size w ?h6 ?h7 ?h8; rotate_left 7; (intro w2 hg2 hb2))
      · have hB : BlkB w2 wr.heap.size (dig n s) := by
          unfold BlkB
          have e : splice (List.replicate s (Value.int .u8 0)) 0 (cellsOfBytes (dig n s)) = cellsOfBytes (dig n s) := by
            simp [splice, cellsOfBytes, dig_length]
          rw [← e]; exact hg2.out
        have HB := Lib.hid hB
        clear hmk hg2 hB
        go_wp2
        go_ret
        exact ⟨wr.heap.size, rfl, hbel.size, HB.out, hb2⟩
      case h1 => simpa using H0.out wr
      case h2 => rw [cellsOfBytes_length, dig_length]; exact (Nat.min_self _).symm
      case h3 =>
        intro hpos
        intro j v hv
        have hj : j < s := by
          have := (List.getElem?_eq_some_iff.1 hv).1
          rwa [cellsOfBytes_length, dig_length] at this
        have h2 := (BlkR.below HB.out ((Below.refl wr.heap.size wr).alloc (Nat.le_refl _) (.cells (Array.replicate s (Value.int .u8 0)) 5)) (HB.out.lt)).cell (k := j) (u := v) (by
          rw [← hv, cellsOfBytes_get _ _ (by rw [dig_length]; omega), cellsOfBytes_get _ _ (by rw [dig_length]; omega), dig_getD _ _ _ (by omega), dig_getD _ _ _ (by omega)])
        exact h2
      case h4 => rw [cellsOfBytes_length, dig_length, List.length_replicate]; omega
      case h5 => exact oneCell_bytes _
      case h6 => exact hbel.alloc hbel.size _
      case h7 => exact hbel.size
end Go.Proofs.Ytebicjblplkdeaa
