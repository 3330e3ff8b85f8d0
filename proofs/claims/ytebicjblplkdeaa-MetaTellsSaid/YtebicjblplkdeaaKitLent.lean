/-
  tandemkit.LentBytes: what it returns. Conditions: the bytes can be read, and are at most as many as a slice may hold.
-/
import Derived.Test.YtebicjblplkdeaaKitQ
import Derived.Laws.CopyOwn
import Derived.Laws.MakeOwn
import Derived.Laws.OwnMore
namespace Go.Proofs.Ytebicjblplkdeaa
open Go.RowKit

def mark (n j : Nat) : UInt8 := UInt8.ofNat (160 + (n + j) % 90)
def marks (n k : Nat) : List UInt8 := (List.range k).map (mark n)
def lent (l : List UInt8) : List UInt8 := l ++ marks l.length 3
/-- a block of bytes, known whole -/
def BlkB (w : World) (g : Nat) (l : List UInt8) : Prop := w.heap[g]? = some (.cells (cellsOfBytes l).toArray 5 (0, 0))
def LentPost (l : List UInt8) (w : World) (e : Ending) (w' : World) : Prop :=
  ∃ g, e = .returned (.slice (some ⟨g, 0, none⟩) l.length (l.length + 3)) ∧ w.heap.size ≤ g ∧ BlkB w' g (lent l) ∧ Below w.heap.size w w'

set_option maxRecDepth 100000 in
theorem infoU8 : ∃ i, Try.prog.info? 5 = some i ∧ i.zero = some (.int .u8 0) ∧ i.size = 1 ∧ i.bytes = 1 := by
  refine ⟨_, rfl, ?_, ?_, ?_⟩ <;> kernel_rfl
set_option maxRecDepth 100000 in
theorem make_bytes (n : Nat) (hn : n ≤ 140737488355328) (w : World) :
    (Instr.makeSlice 26 (.int .i64 (n : Int)) (.int .i64 (n : Int))).run Try.prog w = .ok (.slice (some ⟨w.heap.size, 0, none⟩) n n) (w.alloc (.cells (List.replicate n (Value.int .u8 0)).toArray 5)) := by
  obtain ⟨i, h1, h2, h3, h4⟩ := infoU8
  have h := run_make (P := Try.prog) (w := w) 26 5 i (.int .u8 0) Try.underlying26 h1 h2 .i64 .i64 (n : Int) (n : Int) (by omega) (by omega) (by rw [h4]; omega) (by omega)
  rw [h3] at h
  simp only [Int.toNat_natCast, Nat.mul_one] at h
  rw [h]
  congr 3
  apply Array.toList_inj.1
  rw [show (Value.int .u8 0).cells = #[Value.int .u8 0] from rfl, toList_madeCells_one]

theorem cellsOfBytes_append (a b : List UInt8) : cellsOfBytes (a ++ b) = cellsOfBytes a ++ cellsOfBytes b := by simp [cellsOfBytes]
theorem cellsOfBytes_length (a : List UInt8) : (cellsOfBytes a).length = a.length := by simp [cellsOfBytes]
theorem splice_lent (l : List UInt8) : splice (List.replicate (l.length + 3) (Value.int .u8 0)) 0 (cellsOfBytes l) = cellsOfBytes (l ++ marks l.length 0 ++ List.replicate 3 0) := by
  simp [splice, cellsOfBytes, marks, List.drop_replicate, Nat.add_sub_cancel_left]
theorem oneCell_bytes (l : List UInt8) : ∀ v ∈ cellsOfBytes l, v.oneCell' = true := by
  intro v hv
  simp only [cellsOfBytes, List.mem_map] at hv
  obtain ⟨x, _, rfl⟩ := hv
  rfl

theorem BlkB.cell {w : World} {g : Nat} {l : List UInt8} (h : BlkB w g l) (k : Nat) (hk : k < l.length) : w.cell? ⟨g, k, none⟩ = some (.int .u8 ((l.getD k 0).toNat : Int)) := by
  unfold BlkB at h
  simp only [World.cell?, h]
  rw [List.getElem?_toArray, cellsOfBytes_get l k hk]
  rfl
theorem BlkB.frozen {w : World} {g : Nat} {l : List UInt8} (h : BlkB w g l) (k : Nat) : w.frozen? ⟨g, k, none⟩ = false := by
  unfold BlkB at h
  simp [World.frozen?, h]
theorem BlkB.set_ {w : World} {g : Nat} {l : List UInt8} (h : BlkB w g l) (k : Nat) (x : UInt8) : BlkB (w.setCell ⟨g, k, none⟩ (.int .u8 (x.toNat : Int))) g (l.set k x) := by
  unfold BlkB at h ⊢
  simp only [World.setCell, Array.getElem?_modify, h]
  simp [cellsOfBytes, List.map_set]
theorem BlkB.lt {w : World} {g : Nat} {l : List UInt8} (h : BlkB w g l) : g < w.heap.size := by
  rcases Nat.lt_or_ge g w.heap.size with hlt | hge
  · exact hlt
  · unfold BlkB at h; rw [Array.getElem?_eq_none hge] at h; cases h
theorem BlkB.bytes {w : World} {g : Nat} {l : List UInt8} (h : BlkB w g l) (m : List UInt8) (hm : ∃ r, l = m ++ r) {B : Nat} (hB : g < B) : BytesAt w B (some ⟨g, 0, none⟩) m := by
  obtain ⟨r, rfl⟩ := hm
  refine bytes_block h hB fun k hk => ?_
  rw [List.getElem?_toArray, cellsOfBytes_get _ k (by simp; omega)]
  simp [List.getElem?_append_left hk]
theorem BlkB.below {w w' : World} {g B : Nat} {l : List UInt8} (h : BlkB w g l) (hb : Below B w w') (hg : g < B) : BlkB w' g l := (hb.block g hg).trans h
theorem BlkB.drewN {w : World} {g : Nat} {l : List UInt8} (h : BlkB w g l) (n : Nat) : BlkB (w.drewN n) g l := h

theorem marks_step (l : List UInt8) (j : Nat) (hj : j < 3) : (l ++ marks l.length j ++ List.replicate (3 - j) 0).set (l.length + j) (mark l.length j) = l ++ marks l.length (j + 1) ++ List.replicate (3 - (j + 1)) 0 := by
  have hm : ∀ k, (marks l.length k).length = k := fun k => by simp [marks]
  have e : 3 - j = (3 - (j + 1)) + 1 := by omega
  rw [e, List.replicate_succ, List.append_assoc, List.set_append_right _ _ (by omega), Nat.add_sub_cancel_left, List.set_append_right _ _ (by rw [hm]; omega), hm, Nat.sub_self, List.set_cons_zero]
  simp [marks, List.range_succ]
theorem marks_get (l : List UInt8) (j : Nat) (hj : j < 3) : (l ++ marks l.length j ++ List.replicate (3 - j) 0).getD (l.length + j) 0 = 0 := by
  have hm : (marks l.length j).length = j := by simp [marks]
  rw [List.getD_eq_getElem?_getD, List.append_assoc, List.getElem?_append_right (by omega), Nat.add_sub_cancel_left, List.getElem?_append_right (by omega), hm, Nat.sub_self]
  rw [List.getElem?_replicate, if_pos (by omega)]
  rfl
theorem mark_toNat (n j : Nat) : (mark n j).toNat = 160 + (n + j) % 90 := by
  simp only [mark, UInt8.toNat_ofNat']
  omega
theorem mark_int (n j : Nat) : (160 : Int) + ((n : Int) + (j : Int)) % 90 = ((mark n j).toNat : Int) := by
  rw [mark_toNat]; omega

theorem lentBytes_any (A : Option Addr) (l : List UInt8) (c : Nat) (w : World) (hl : l.length ≤ 140737488351232) (hr : BytesAt w w.heap.size A l) :
    Calls Try.prog 6 #[.slice A l.length c] w (LentPost l w) := by
  have hmk := make_bytes (l.length + 3) (by omega)
  rw [show ((l.length + 3 : Nat) : Int) = (l.length : Int) + 3 by omega] at hmk
  go_enter Try.func6, Try.ntmps6
  go_wp2_with (with_reducible refine wpList_copy_splice rfl (.tmp 9) (.tmp 10) 26 26 rfl 5 Try.underlying26 (by kernel_rfl) (some ⟨w.heap.size, 0, none⟩) A (l.length + 3) (l.length + 3) l.length c rfl rfl w.heap.size 0 (List.replicate (l.length + 3) (Value.int .u8 0)) 5 ?h1 (cellsOfBytes l) ?h2 ?h3 ?h4 ?h5 w.heap.size w ?h6 ?h7 ?h8; rotate_left 7; (intro w2 hg2 hb2))
  · have hB : BlkB w2 w.heap.size (l ++ marks l.length 0 ++ List.replicate 3 0) := by
      unfold BlkB; rw [← splice_lent]; exact hg2.out
    have HB := Lib.hid hB
    clear hmk hg2 hB
    go_loopw [4] (fun i wr => ∃ j : Nat, j ≤ 3 ∧ i = .int .i64 ((l.length : Int) + (j : Int)) ∧ BlkB wr w.heap.size (l ++ marks l.length j ++ List.replicate (3 - j) 0) ∧ Below w.heap.size w wr) (fun i _ => l.length + 3 - (intOf i).toNat)
    case atStart => exact ⟨0, by omega, by go_num, HB.out, hb2⟩
    case round =>
      obtain ⟨j, hj, rfl, hblk, hbel⟩ := hrel
      by_cases hj3 : j < 3
      · have hcell := hblk.cell (l.length + j) (by simp [marks]; omega)
        rw [marks_get l j hj3] at hcell
        have hfr := hblk.frozen (l.length + j)
        have hv := mark_int l.length j
        have HBL := Lib.hid hblk
        clear hblk HB hb2
        go_wp2
        go_roundw
        case rel =>
          refine ⟨j + 1, by omega, by go_num, ?_, hbel.setCell (Nat.le_refl _) _⟩
          rw [← marks_step l j hj3]
          exact HBL.out.set_ _ _
        case measure => simp [intOf]; omega
      · obtain rfl : j = 3 := by omega
        have q1 := cut_to (some ⟨w.heap.size, 0, none⟩) (l.length + 3) (l.length + 3) l.length (by omega)
        go_wp2
        go_ret
        refine ⟨w.heap.size, rfl, Nat.le_refl _, ?_, hbel⟩
        simpa [lent] using hblk
  case h1 => exact heap_alloc_new w _
  case h2 => rw [cellsOfBytes_length]; exact (Nat.min_eq_left (by omega)).symm
  case h3 =>
    intro hpos
    rw [cellsOfBytes_length] at hpos
    obtain ⟨ad, rfl, _, hc⟩ := (hr.alloc (Nat.le_refl _) _ : BytesAt (w.alloc _) w.heap.size A l) (by rintro rfl; simp at hpos)
    refine ⟨ad, rfl, fun j v hv => ?_⟩
    have hj : j < l.length := by
      rw [← cellsOfBytes_length l]
      exact (List.getElem?_eq_some_iff.1 hv).1
    rw [cellsOfBytes_get l j hj] at hv
    rw [← Option.some.inj hv]
    exact hc j hj
  case h4 => rw [cellsOfBytes_length, List.length_replicate]; omega
  case h5 => exact oneCell_bytes l
  case h6 => exact (Below.refl _ _).alloc (Nat.le_refl _) _
  case h7 => exact Nat.le_refl _
end Go.Proofs.Ytebicjblplkdeaa
