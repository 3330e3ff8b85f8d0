/-
  A copy of bytes into a part of a block, whatever the lengths. Conditions: none.
-/
import Derived.Test.YtgnfajmjhlnobaaDoorDiskKit
namespace Go.Proofs.YtgnfajmjhlnobaaDoor
open Go.RowKit

theorem OwnB.new {w : World} {base n c : Nat} {A : Option Addr} {l : List UInt8} (h : OwnB w base (.slice A n c) l) : ∀ ad, A = some ad → l ≠ [] → base ≤ ad.block := fun ad e hne => by
  obtain ⟨g, cap, hv, hb, _⟩ := World.ownsRow.form h (List.length_pos_iff.2 hne)
  injection hv with h1
  rw [e] at h1
  rw [Option.some.inj h1]
  exact hb
theorem bytes_frame {w w' : World} {F : Nat → Prop} {A : Option Addr} {l : List UInt8} (h : Frame F w w') (hr : BytesAt w w.heap.size A l) (hF : l ≠ [] → ∀ ad, A = some ad → ¬ F ad.block) : BytesAt w' w'.heap.size A l := fun hl => by
  have hne : l ≠ [] := by rintro rfl; simp at hl
  exact h.bytes hr (hF hne) hl
theorem splice_bytes (l m : List UInt8) (o k : Nat) : splice (cellsOfBytes l) o ((cellsOfBytes m).take k) = cellsOfBytes (splice l o (m.take k)) := by
  unfold splice cellsOfBytes
  simp only [List.map_append, List.map_take, List.map_drop, List.length_take, List.length_map]
theorem copyB_facts {w : World} {A : Option Addr} {m : List UInt8} {k : Nat} (hr : BytesAt w w.heap.size A m) : 0 < ((cellsOfBytes m).take k).length → ∃ ad, A = some ad ∧ ∀ j v, ((cellsOfBytes m).take k)[j]? = some v → w.cell? (ad.add j) = some v := fun h => by
  rw [List.length_take, cellsOfBytes_length] at h
  obtain ⟨ad, e, _, hc⟩ := hr (by rintro rfl; simp at h)
  refine ⟨ad, e, fun j v hv => ?_⟩
  rw [List.getElem?_take] at hv
  split at hv
  · have hj : j < m.length := by
      have := (List.getElem?_eq_some_iff.1 hv).1
      rwa [cellsOfBytes_length] at this
    rw [cellsOfBytes_get m j hj] at hv
    rw [← Option.some.inj hv]
    exact hc j hj
  · cases hv
theorem oneCell_take (m : List UInt8) (k : Nat) : ∀ v ∈ (cellsOfBytes m).take k, v.oneCell' = true := fun v hv => oneCell_bytes m v (List.mem_of_mem_take hv)
/-- copy(d, s): d is n bytes from place off on of block g (bytes l), s the bytes m, wherever they lie -/
theorem wpList_copyB {w : World} {ops : Array Oper} {rest : List Oper} {o : Oper} {a : Act} {Q : Exit → Act → World → Prop} (hgd : o.guard = none) (d s : Operand)
    (ho : o.op = .call { callee := .builtin .copy, args := #[d, s], argTypes := #[22, 22] }) (E : TypeId) (g off n c : Nat) (dp sp : Option Addr) (sl sc : Nat) (hd : a.eval d = .slice dp n c) (hs : a.eval s = .slice sp sl sc)
    (hdp : 0 < n → dp = some ⟨g, off, none⟩) (l m : List UInt8) (hm : m.length = sl) (hg : BlkR E w g (cellsOfBytes l)) (hr : BytesAt w w.heap.size sp m) (hfit : off + n ≤ l.length) (B : Nat) (w0 : World) (hb : Below B w0 w) (hBg : B ≤ g)
    (h : ∀ w', Hid (BlkR E w' g (cellsOfBytes (splice l off (m.take n)))) → Below B w0 w' → wpList Tryd.prog ops Q rest (a.put o.dst (goInt ((min sl n : Nat) : Int))) w') : wpList Tryd.prog ops Q (o :: rest) a w := by
  have hlen : ((cellsOfBytes m).take n).length = min sl n := by rw [List.length_take, cellsOfBytes_length, hm, Nat.min_comm]
  refine wpList_copy_splice hgd d s 22 22 ho 5 Tryd.underlying22 (by kernel_rfl) dp sp n c sl sc hd hs g off (cellsOfBytes l) E hg ((cellsOfBytes m).take n) hlen
    (fun h0 => ⟨hdp (by rw [hlen] at h0; have := Nat.min_le_right sl n; omega), copyB_facts hr h0⟩) (by rw [hlen, cellsOfBytes_length]; have := Nat.min_le_right sl n; omega) (oneCell_take m n) B w0 hb hBg ?_
  intro w' h1 h2
  rw [hlen]
  refine h w' ?_ h2
  have h1 := h1.out
  rw [splice_bytes] at h1
  exact Lib.hid h1
theorem step_copyB {w : World} {ops : Array Oper} {o : Oper} {a : Act} {K : Act → World → Prop} {Q : Exit → Act → World → Prop} {X : Prop} (hgd : o.guard = none) (d s : Operand)
    (ho : o.op = .call { callee := .builtin .copy, args := #[d, s], argTypes := #[22, 22] }) (E : TypeId) (g off n c : Nat) (dp sp : Option Addr) (sl sc : Nat) (hd : a.eval d = .slice dp n c) (hs : a.eval s = .slice sp sl sc)
    (hdp : 0 < n → dp = some ⟨g, off, none⟩) (l m : List UInt8) (hm : m.length = sl) (hg : BlkR E w g (cellsOfBytes l)) (hr : BytesAt w w.heap.size sp m) (hfit : off + n ≤ l.length) (B : Nat) (w0 : World) (hb : Below B w0 w) (hBg : B ≤ g)
    (h : ∀ w', Hid (BlkR E w' g (cellsOfBytes (splice l off (m.take n)))) → Below B w0 w' → K (a.put o.dst (goInt ((min sl n : Nat) : Int))) w') : if Region.wanted o (yielded ops a.tmps) = true then Oper.wp Tryd.prog o a w K Q else X := by
  have hlen : ((cellsOfBytes m).take n).length = min sl n := by rw [List.length_take, cellsOfBytes_length, hm, Nat.min_comm]
  refine step_copy_splice hgd d s 22 22 ho 5 Tryd.underlying22 (by kernel_rfl) dp sp n c sl sc hd hs g off (cellsOfBytes l) E hg ((cellsOfBytes m).take n) hlen
    (fun h0 => ⟨hdp (by rw [hlen] at h0; have := Nat.min_le_right sl n; omega), copyB_facts hr h0⟩) (by rw [hlen, cellsOfBytes_length]; have := Nat.min_le_right sl n; omega) (oneCell_take m n) B w0 hb hBg ?_
  intro w' h1 h2
  rw [hlen]
  refine h w' ?_ h2
  have h1 := h1.out
  rw [splice_bytes] at h1
  exact Lib.hid h1
end Go.Proofs.YtgnfajmjhlnobaaDoor
