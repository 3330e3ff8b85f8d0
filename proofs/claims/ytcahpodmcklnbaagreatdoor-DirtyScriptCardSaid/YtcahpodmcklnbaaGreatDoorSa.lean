/-
  Several texts in one (Slot, SlotKit, SlArr, SlSec, SlBytes, SlRead). Conditions: as each says.
-/
import Derived.Test.YtcahpodmcklnbaaGreatDoorDa
import Derived.Test.YtcahpodmcklnbaaGreatDoorFx
import Derived.Test.YtcahpodmcklnbaaGreatDoorCr
import Derived.Test.YtcahpodmcklnbaaGreatDoorDiskKit
import Derived.Laws.ResultCell
import Derived.Test.YtcahpodmcklnbaaGreatDoorBa
import Derived.Deep.RegionHeld3
import Derived.Laws.Append
import Derived.Laws.BitsAllLaws
/-
  A record's sector, a slot, by the document: plain mathematics; what the package's functions do. Conditions: none.
-/
namespace Go.Proofs.YtcahpodmcklnbaaGreatDoor
open Go.RowKit

namespace Slot
/-- the first 60 bytes of a record's sector, and the sector -/
def body (n : Nat) (rec : List UInt8) : List UInt8 := Fix.dig n 8 ++ (Fix.dig rec.length 2 ++ (rec ++ (List.replicate (44 - rec.length) 0 ++ Fix.dig n 6)))
def seal_ (b : List UInt8) : List UInt8 := b ++ Fix.dig (Crc.sum b) 4
def sect (n : Nat) (rec : List UInt8) : List UInt8 := seal_ (body n rec)
def bytesE (n : Int) (rec : List UInt8) : Int := if 40 < rec.length then 3 else if n < 1 ∨ 1099511627776 < n then 5 else 0
def bytesB (n : Int) (rec : List UInt8) : List UInt8 := if bytesE n rec = 0 then sect n.toNat rec else []
/-- what stands in a sector: its number, how many bytes, the record -/
def num (b : List UInt8) : Nat := Fix.le (b.take 8)
def len (b : List UInt8) : Nat := Fix.le ((b.drop 8).take 2)
def rec (b : List UInt8) : List UInt8 := (b.drop 10).take (len b)
def right (b : List UInt8) : Bool := decide (b.length = 64 ∧ 1 ≤ num b ∧ num b ≤ 1099511627776 ∧ len b ≤ 40 ∧ sect (num b) (rec b) = b)
def nots : List UInt8 := List.replicate 64 0
def readE (b : List UInt8) : Int := if b.length ≠ 64 then 4 else if b = nots then 6 else if right b = true then 0 else 11
def readN (b : List UInt8) : Nat := if right b = true then num b else 0
def readB (b : List UInt8) : List UInt8 := if right b = true then rec b else []
/-- is the second of two sectors the newest; the newest one's number (none: 0), its record -/
def second (a b : List UInt8) : Bool := right b && (!right a || decide (num a < num b))
def topN (a b : List UInt8) : Nat := if second a b = true then num b else readN a
def topB (a b : List UInt8) : List UInt8 := if second a b = true then rec b else readB a
def newestI (a b : List UInt8) : Int := if second a b = true then 1 else if right a = true then 0 else -1
def noneB (a b : List UInt8) : Bool := decide (a = nots) && decide (b = nots)
/-- a slot of a disk: the error of reading it; what Load tells; what Save makes of the disk -/
def lookE (S : DS) (at_ : Int) : Int := if S.readE at_ = 0 then S.readE (at_ + 1) else S.readE at_
def loadE (S : DS) (at_ : Int) : Int := if lookE S at_ = 0 then (if noneB (S.readB at_) (S.readB (at_ + 1)) = true then 6 else if newestI (S.readB at_) (S.readB (at_ + 1)) < 0 then 11 else 0) else lookE S at_
def loadB (S : DS) (at_ : Int) : List UInt8 := if loadE S at_ = 0 then topB (S.readB at_) (S.readB (at_ + 1)) else []
def put1 (S : DS) (i : Int) (b : List UInt8) : DS × Int := if (S.write i b).2 = 0 then (S.write i b).1.flush else S.write i b
def first (a b : List UInt8) : Nat := if newestI a b = 0 then 1 else 0
def save2 (S : DS) (at_ : Int) (f : Nat) (b : List UInt8) : DS × Int := if (put1 S (at_ + (f : Int)) b).2 = 0 then put1 (put1 S (at_ + (f : Int)) b).1 (at_ + ((1 - f : Nat) : Int)) b else put1 S (at_ + (f : Int)) b
def save (S : DS) (at_ : Int) (r : List UInt8) : DS × Int :=
  if 40 < r.length then (S, 3) else if lookE S at_ ≠ 0 then (S, lookE S at_) else if 1099511627776 ≤ topN (S.readB at_) (S.readB (at_ + 1)) then (S, 8) else
  save2 S at_ (first (S.readB at_) (S.readB (at_ + 1))) (sect (topN (S.readB at_) (S.readB (at_ + 1)) + 1) r)

theorem body_length (n : Nat) (r : List UInt8) (h : r.length ≤ 40) : (body n r).length = 60 := by
  simp [body, Fix.dig_length]; omega
theorem sect_length (n : Nat) (r : List UInt8) (h : r.length ≤ 40) : (sect n r).length = 64 := by
  rw [sect, seal_, List.length_append, body_length n r h, Fix.dig_length]
theorem sect_take8 (n : Nat) (r : List UInt8) : (sect n r).take 8 = Fix.dig n 8 := by
  unfold sect seal_ body
  rw [List.append_assoc, List.take_append_of_le_length (by rw [Fix.dig_length]; exact Nat.le_refl _), List.take_of_length_le (by rw [Fix.dig_length]; exact Nat.le_refl _)]
theorem sect_drop8 (n : Nat) (r : List UInt8) : (sect n r).drop 8 = Fix.dig r.length 2 ++ (r ++ (List.replicate (44 - r.length) 0 ++ (Fix.dig n 6 ++ Fix.dig (Crc.sum (body n r)) 4))) := by
  show ((body n r) ++ _).drop 8 = _
  rw [show body n r = Fix.dig n 8 ++ (Fix.dig r.length 2 ++ (r ++ (List.replicate (44 - r.length) 0 ++ Fix.dig n 6))) from rfl, List.append_assoc, List.drop_left' (Fix.dig_length n 8)]
  simp only [List.append_assoc]
theorem sect_drop10 (n : Nat) (r : List UInt8) : (sect n r).drop 10 = r ++ (List.replicate (44 - r.length) 0 ++ (Fix.dig n 6 ++ Fix.dig (Crc.sum (body n r)) 4)) := by
  rw [show 10 = 8 + 2 from rfl, ← List.drop_drop, sect_drop8, List.drop_left' (Fix.dig_length _ 2)]
theorem sect_num (n : Nat) (r : List UInt8) (h : n ≤ 1099511627776) : num (sect n r) = n := by
  unfold num
  rw [sect_take8, Fix.le_dig_self n 8 (by omega)]
theorem sect_len (n : Nat) (r : List UInt8) (h : r.length ≤ 40) : len (sect n r) = r.length := by
  unfold len
  rw [sect_drop8, List.take_left' (Fix.dig_length _ 2), Fix.le_dig_self _ 2 (by omega)]
theorem sect_rec (n : Nat) (r : List UInt8) (h : r.length ≤ 40) : rec (sect n r) = r := by
  unfold rec
  rw [sect_len n r h, sect_drop10, List.take_left' rfl]
theorem sect_right (n : Nat) (r : List UInt8) (h1 : 1 ≤ n) (h2 : n ≤ 1099511627776) (h : r.length ≤ 40) : right (sect n r) = true := by
  unfold right
  rw [decide_eq_true_iff, sect_num n r h2, sect_len n r h, sect_rec n r h]
  exact ⟨sect_length n r h, h1, h2, h, rfl⟩
theorem right_iff (b : List UInt8) : right b = true ↔ b.length = 64 ∧ 1 ≤ num b ∧ num b ≤ 1099511627776 ∧ len b ≤ 40 ∧ sect (num b) (rec b) = b := by unfold right; rw [decide_eq_true_iff]
theorem right_nots : right nots = false := by
  rw [← Bool.not_eq_true, right_iff]
  rintro ⟨_, h, _⟩
  have : num nots = 0 := by decide
  omega
theorem rec_length (b : List UInt8) (h : right b = true) : (rec b).length ≤ 40 := by
  have := (right_iff b).1 h
  unfold rec
  rw [List.length_take]
  omega
theorem readE_zero (b : List UInt8) : readE b = 0 ↔ right b = true := by
  unfold readE
  constructor
  · intro h
    split at h
    · cases h
    · split at h
      · cases h
      · split at h
        · assumption
        · cases h
  · intro h
    rw [if_neg (by rw [Decidable.not_not]; exact ((right_iff b).1 h).1), if_neg (by rintro rfl; rw [right_nots] at h; cases h), if_pos h]
theorem tri (b : List UInt8) (h : b.length = 64) : (readE b = 6 ∧ right b = false ∧ b = nots) ∨ (readE b = 0 ∧ right b = true ∧ b ≠ nots) ∨ (readE b = 11 ∧ right b = false ∧ b ≠ nots) := by
  by_cases hz : b = nots
  · subst hz
    exact .inl ⟨by decide, right_nots, rfl⟩
  · cases hr : right b with
    | true => exact .inr (.inl ⟨(readE_zero b).2 hr, rfl, hz⟩)
    | false =>
      refine .inr (.inr ⟨?_, rfl, hz⟩)
      unfold readE
      rw [if_neg (by rw [Decidable.not_not]; exact h), if_neg hz, if_neg (by rw [hr]; decide)]
end Slot
end Go.Proofs.YtcahpodmcklnbaaGreatDoor
/-
  A copy of bytes into a part of a block, whatever the lengths. Conditions: none.
-/
namespace Go.Proofs.YtcahpodmcklnbaaGreatDoor
open Go.RowKit

theorem OwnB.new {w : World} {base n c : Nat} {A : Option Addr} {l : List UInt8} (h : OwnB w base (.slice A n c) l) : ∀ ad, A = some ad → l ≠ [] → base ≤ ad.block := fun ad e hne => by
  obtain ⟨g, cap, hv, hb, _⟩ := World.ownsRow.form h (List.length_pos_iff.2 hne)
  injection hv with h1
  rw [e] at h1
  rw [Option.some.inj h1]
  exact hb
theorem bytes_frame {w w' : World} {F : Nat → Prop} {A : Option Addr} {l : List UInt8} (h : Frame F w w') (hr : BytesAt w w.heap.size A l) (hF : l ≠ [] → ∀ ad, A = some ad → ¬ F ad.block) : BytesAt w' w'.heap.size A l := fun hl => by
  have hne : l ≠ [] := by rintro rfl; simp at hl
  exact h.bytes hr (hF hne) hl
theorem splice_bytes (l m : List UInt8) (o k : Nat) : splice (cellsOfBytes l) o ((cellsOfBytes m).take k) = cellsOfBytes (splice l o (m.take k)) := by
  unfold splice cellsOfBytes
  simp only [List.map_append, List.map_take, List.map_drop, List.length_take, List.length_map]
theorem copyB_facts {w : World} {A : Option Addr} {m : List UInt8} {k : Nat} (hr : BytesAt w w.heap.size A m) : 0 < ((cellsOfBytes m).take k).length → ∃ ad, A = some ad ∧ ∀ j v, ((cellsOfBytes m).take k)[j]? = some v → w.cell? (ad.add j) = some v := fun h => by
  rw [List.length_take, cellsOfBytes_length] at h
  obtain ⟨ad, e, _, hc⟩ := hr (by rintro rfl; simp at h)
  refine ⟨ad, e, fun j v hv => ?_⟩
  rw [List.getElem?_take] at hv
  split at hv
  · have hj : j < m.length := by
      have := (List.getElem?_eq_some_iff.1 hv).1
      rwa [cellsOfBytes_length] at this
    rw [cellsOfBytes_get m j hj] at hv
    rw [← Option.some.inj hv]
    exact hc j hj
  · cases hv
theorem oneCell_take (m : List UInt8) (k : Nat) : ∀ v ∈ (cellsOfBytes m).take k, v.oneCell' = true := fun v hv => oneCell_bytes m v (List.mem_of_mem_take hv)
/-- copy(d, s): d is n bytes from place off on of block g (bytes l), s the bytes m, wherever they lie -/
theorem wpList_copyB {w : World} {ops : Array Oper} {rest : List Oper} {o : Oper} {a : Act} {Q : Exit → Act → World → Prop} (hgd : o.guard = none) (d s : Operand)
    (ho : o.op = .call { callee := .builtin .copy, args := #[d, s], argTypes := #[32, 32] }) (E : TypeId) (g off n c : Nat) (dp sp : Option Addr) (sl sc : Nat) (hd : a.eval d = .slice dp n c) (hs : a.eval s = .slice sp sl sc)
    (hdp : 0 < n → dp = some ⟨g, off, none⟩) (l m : List UInt8) (hm : m.length = sl) (hg : BlkR E w g (cellsOfBytes l)) (hr : BytesAt w w.heap.size sp m) (hfit : off + n ≤ l.length) (B : Nat) (w0 : World) (hb : Below B w0 w) (hBg : B ≤ g)
    (h : ∀ w', Hid (BlkR E w' g (cellsOfBytes (splice l off (m.take n)))) → Below B w0 w' → wpList Tryz.prog ops Q rest (a.put o.dst (goInt ((min sl n : Nat) : Int))) w') : wpList Tryz.prog ops Q (o :: rest) a w := by
  have hlen : ((cellsOfBytes m).take n).length = min sl n := by rw [List.length_take, cellsOfBytes_length, hm, Nat.min_comm]
  refine wpList_copy_splice hgd d s 32 32 ho 5 Tryz.underlying32 (by kernel_rfl) dp sp n c sl sc hd hs g off (cellsOfBytes l) E hg ((cellsOfBytes m).take n) hlen
    (fun h0 => ⟨hdp (by rw [hlen] at h0; have := Nat.min_le_right sl n; omega), copyB_facts hr h0⟩) (by rw [hlen, cellsOfBytes_length]; have := Nat.min_le_right sl n; omega) (oneCell_take m n) B w0 hb hBg ?_
  intro w' h1 h2
  rw [hlen]
  refine h w' ?_ h2
  have h1 := h1.out
  rw [splice_bytes] at h1
  exact Lib.hid h1
theorem step_copyB {w : World} {ops : Array Oper} {o : Oper} {a : Act} {K : Act → World → Prop} {Q : Exit → Act → World → Prop} {X : Prop} (hgd : o.guard = none) (d s : Operand)
    (ho : o.op = .call { callee := .builtin .copy, args := #[d, s], argTypes := #[32, 32] }) (E : TypeId) (g off n c : Nat) (dp sp : Option Addr) (sl sc : Nat) (hd : a.eval d = .slice dp n c) (hs : a.eval s = .slice sp sl sc)
    (hdp : 0 < n → dp = some ⟨g, off, none⟩) (l m : List UInt8) (hm : m.length = sl) (hg : BlkR E w g (cellsOfBytes l)) (hr : BytesAt w w.heap.size sp m) (hfit : off + n ≤ l.length) (B : Nat) (w0 : World) (hb : Below B w0 w) (hBg : B ≤ g)
    (h : ∀ w', Hid (BlkR E w' g (cellsOfBytes (splice l off (m.take n)))) → Below B w0 w' → K (a.put o.dst (goInt ((min sl n : Nat) : Int))) w') : if Region.wanted o (yielded ops a.tmps) = true then Oper.wp Tryz.prog o a w K Q else X := by
  have hlen : ((cellsOfBytes m).take n).length = min sl n := by rw [List.length_take, cellsOfBytes_length, hm, Nat.min_comm]
  refine step_copy_splice hgd d s 32 32 ho 5 Tryz.underlying32 (by kernel_rfl) dp sp n c sl sc hd hs g off (cellsOfBytes l) E hg ((cellsOfBytes m).take n) hlen
    (fun h0 => ⟨hdp (by rw [hlen] at h0; have := Nat.min_le_right sl n; omega), copyB_facts hr h0⟩) (by rw [hlen, cellsOfBytes_length]; have := Nat.min_le_right sl n; omega) (oneCell_take m n) B w0 hb hBg ?_
  intro w' h1 h2
  rw [hlen]
  refine h w' ?_ h2
  have h1 := h1.out
  rw [splice_bytes] at h1
  exact Lib.hid h1
end Go.Proofs.YtcahpodmcklnbaaGreatDoor
/-
  Arrays of 64 bytes as plain variables: made, stored, loaded, told; slices of them. Conditions: none.
-/
namespace Go.Proofs.YtcahpodmcklnbaaGreatDoor
open Go.RowKit

set_option maxRecDepth 100000 in
theorem zeroA : ∀ w, (zeroValue 116).run Tryz.prog w = .ok (arr zs) w := by
  intro w
  kernel_rfl
set_option maxRecDepth 100000 in
theorem sizeA : (Tryz.prog.info? 116).map (·.size) = some 64 := by kernel_rfl
theorem underA : Tryz.prog.underlying 116 = some (.array 64 5) := by kernel_rfl
theorem lenA : Tryz.prog.arrayLen 116 = 64 := by kernel_rfl
theorem elemA : Tryz.prog.underlying 116 = some (.array (Tryz.prog.arrayLen 116) (Tryz.prog.elem 116)) := by kernel_rfl
theorem oneA (W : World) : (sizeOf (Tryz.prog.elem 116)).run Tryz.prog W = .ok 1 W := by kernel_rfl
theorem setCells_other : ∀ (vs : List Value) (w : World) (g o k : Nat), k ≠ g → (w.setCells g o vs).heap[k]? = w.heap[k]?
  | [], _, _, _, _, _ => rfl
  | v :: r, w, g, o, k, hk => by rw [World.setCells, setCells_other r _ g (o + 1) k hk]; exact Below.heap_setCell w ⟨g, o, none⟩ v k hk
section
variable {w : World} {ops : Array Oper} {rest : List Oper} {o : Oper} {a : Act} {Q : Exit → Act → World → Prop}
theorem wpList_allocA (hgd : o.guard = none) (ho : o.op = .alloc 116)
    (h : ∀ w', w' = w.alloc (.cells (cellsOfBytes zs).toArray 116) → wpList Tryz.prog ops Q rest (a.put o.dst (.pointer (some ⟨w.heap.size, 0, none⟩))) w') : wpList Tryz.prog ops Q (o :: rest) a w := by
  refine wpList_plain hgd fun K hK => ?_
  have e : (Instr.alloc 116 true (.tuple #[])).run Tryz.prog w = .ok (.pointer (some ⟨w.heap.size, 0, none⟩)) (w.alloc (.cells (cellsOfBytes zs).toArray 116)) := by
    obtain ⟨Z, hZ⟩ : ∃ Z, Z = (cellsOfBytes zs).toArray := ⟨_, rfl⟩
    have hz : (zeroValue 116).run Tryz.prog w = .ok (.agg Z) w := by rw [hZ]; exact zeroA w
    rw [← hZ]
    unfold Instr.alloc
    simp only [Sem.run_bind, hz, Result.andThen_ok, newVar, newRow, Value.cells]
    rfl
  unfold Oper.wp execOp
  simp only [ho, Sem.run_bind, e, Result.andThen_ok]
  exact hK _ _ (h _ rfl)
theorem wpList_loadA (hgd : o.guard = none) (x : Operand) (ho : o.op = .load 116 x) (g : Nat) (l : List UInt8) (hx : a.eval x = .pointer (some ⟨g, 0, none⟩)) (hl : l.length = 64) {E : TypeId} (hr : BlkR E w g (cellsOfBytes l))
    (h : wpList Tryz.prog ops Q rest (a.put o.dst (arr l)) w) : wpList Tryz.prog ops Q (o :: rest) a w :=
  wpList_load_mid hgd 116 x ho g 0 hx (cellsOfBytes l) _ hr.range underA rfl (by rw [cellsOfBytes_length, hl]; exact sizeA) h
/-- a store over a whole block of 64 bytes; the world behind it is a letter -/
theorem wpList_storeA {E : TypeId} (hgd : o.guard = none) (x y : Operand) (ho : o.op = .store 116 x y) (g : Nat) (l l0 : List UInt8) (hx : a.eval x = .pointer (some ⟨g, 0, none⟩)) (hy : a.eval y = arr l) (hl : l.length = 64) (hl0 : l0.length = 64) (hb : BlkR E w g (cellsOfBytes l0))
    (h : ∀ w', BlkR E w' g (cellsOfBytes l) → Below g w w' → w'.heap.size = w.heap.size → (∀ k, k ≠ g → w'.heap[k]? = w.heap[k]?) → wpList Tryz.prog ops Q rest (a.put o.dst undef) w') : wpList Tryz.prog ops Q (o :: rest) a w := by
  refine wpList_store_mid hgd 116 x y ho g 0 (cellsOfBytes l).toArray hx hy (by rw [List.size_toArray, cellsOfBytes_length, hl]; exact hb.there (by rw [cellsOfBytes_length, hl0]; exact Nat.le_refl _)) (by rw [List.size_toArray, cellsOfBytes_length, hl]; exact sizeA) (all_oneCell_toArray (one_bytes l)) ?_
  rw [List.toList_toArray]
  refine h _ (hb.over (by rw [cellsOfBytes_length, cellsOfBytes_length, hl, hl0])) (Below.setCells (Below.refl _ _) (Nat.le_refl _) _ _) (setCells_size _ _ _ _) fun k hk => ?_
  exact setCells_other (cellsOfBytes l) w g 0 k hk
end
theorem loadA {w : World} {g : Nat} {l : List UInt8} {E : TypeId} (hl : l.length = 64) (hr : BlkR E w g (cellsOfBytes l)) : (loadVar 116 ⟨g, 0, none⟩).run Tryz.prog w = .ok (arr l) w :=
  run_loadVar_mid w g 0 116 (cellsOfBytes l) _ hr.range underA rfl (by rw [cellsOfBytes_length, hl]; exact sizeA)
theorem cutA_h (g h : Nat) (hh : h ≤ 64) (W : World) : (Instr.sliceAt 116 (.pointer (some ⟨g, 0, none⟩)) none (some (.int .i64 (h : Int))) none).run Tryz.prog W = .ok (.slice (some ⟨g, 0, none⟩) h 64) W := by
  rw [run_sliceAt_array_h W 116 ⟨g, 0, none⟩ elemA .i64 (h : Int) (by omega) (by rw [lenA]; omega), oneA, lenA]
  simp [Result.andThen, slicedAt, Addr.add]
theorem cutA_all (g : Nat) (W : World) : (Instr.sliceAt 116 (.pointer (some ⟨g, 0, none⟩)) none none none).run Tryz.prog W = .ok (.slice (some ⟨g, 0, none⟩) 64 64) W := by
  rw [run_sliceAt_array_all W 116 ⟨g, 0, none⟩ elemA, oneA, lenA]
  simp [Result.andThen, slicedAt, Addr.add]
theorem cutA_lh (g l h : Nat) (h0 : 0 < l) (h64 : l < 64) (hl : l ≤ h) (hh : h ≤ 64) (W : World) : (Instr.sliceAt 116 (.pointer (some ⟨g, 0, none⟩)) (some (.int .i64 (l : Int))) (some (.int .i64 (h : Int))) none).run Tryz.prog W = .ok (.slice (some ⟨g, l, none⟩) (h - l) (64 - l)) W := by
  rw [run_sliceAt_array_lh W 116 ⟨g, 0, none⟩ elemA .i64 .i64 (l : Int) (h : Int) (by omega) (by omega) (by rw [lenA]; omega), oneA, lenA]
  simp [Result.andThen, slicedAt, Addr.add, show l ≠ 0 by omega, show 64 ≠ l by omega]
theorem cutA_l (g l : Nat) (h0 : 0 < l) (hh : l < 64) (W : World) : (Instr.sliceAt 116 (.pointer (some ⟨g, 0, none⟩)) (some (.int .i64 (l : Int))) none none).run Tryz.prog W = .ok (.slice (some ⟨g, l, none⟩) (64 - l) (64 - l)) W := by
  rw [run_sliceAt_array_l W 116 ⟨g, 0, none⟩ elemA .i64 (l : Int) (by omega) (by rw [lenA]; omega), oneA, lenA]
  simp [Result.andThen, slicedAt, Addr.add, show l ≠ 0 by omega, show 64 ≠ l by omega]
/-- copy(d, s) as an equation: n bytes from place off on of block g, out of the bytes m -/
theorem run_copyB (w : World) (ty E : TypeId) (g off n c : Nat) (A : Option Addr) (l m : List UInt8) (k sc : Nat) (hm : m.length = k) (hk : 0 < k) (hkn : k ≤ n) (hg : BlkR E w g (cellsOfBytes l)) (hr : BytesAt w w.heap.size A m) (hfit : off + k ≤ l.length) :
    ∃ w', (Builtin.copy_ #[32, 32] ty #[.slice (some ⟨g, off, none⟩) n c, .slice A k sc]).run Tryz.prog w = .ok (.int .i64 (k : Int)) w' ∧ BlkR E w' g (cellsOfBytes (splice l off (m.take k))) ∧ Below g w w' ∧ w'.heap.size = w.heap.size := by
  have hlen : (cellsOfBytes m).length = Nat.min k n := by rw [cellsOfBytes_length, hm]; exact (Nat.min_eq_left hkn).symm
  obtain ⟨ad, rfl, _, hc⟩ := hr (by rintro rfl; simp at hm; omega)
  have hrun := run_copy_row (P := Tryz.prog) w 32 32 ty 5 g off n c ad k sc (cellsOfBytes l).toArray E (cellsOfBytes m) Tryz.underlying32 (by kernel_rfl) hg hlen
    (fun j v hv => by
      have hj : j < m.length := by
        have := (List.getElem?_eq_some_iff.1 hv).1
        rwa [cellsOfBytes_length] at this
      rw [cellsOfBytes_get m j hj] at hv
      rw [← Option.some.inj hv]
      exact hc j hj) (by rw [cellsOfBytes_length, List.size_toArray, cellsOfBytes_length]; omega) (oneCell_bytes m)
  rw [cellsOfBytes_length, hm] at hrun
  refine ⟨_, hrun, ?_, ⟨rfl, rfl, rfl, by simp [World.setRow], fun j hj => setRow_other w g j _ (by omega)⟩, by simp [World.setRow]⟩
  have h2 := setRow_heap w g _ ((cellsOfBytes l).toArray.toList.take off ++ cellsOfBytes m ++ (cellsOfBytes l).toArray.toList.drop (off + k)).toArray E _ hg
  unfold BlkR
  rw [h2, List.take_of_length_le (by omega : m.length ≤ k)]
  unfold splice
  rw [hm]
  simp only [cellsOfBytes, List.map_append, List.map_take, List.map_drop, List.append_assoc]
/-- what a function with one result variable in memory tells -/
theorem results_cell_one {fn : Func} {p : Tmp} {ty : TypeId} (h : fn.results = #[.cell p ty]) (tmps : Array Value) (P : Program) (w : World) (a : Addr) (v : Value) (hp : tmps.getD p undef = .pointer (some a)) (hl : (loadVar ty a).run P w = .ok v w) :
    (results fn tmps).run P w = .ok v w := by
  have ha : (asAddr (.pointer (some a))).run P w = .ok a w := rfl
  rw [Array.getD_eq_getD_getElem?] at hp
  simp only [results, h]
  simp [Sem.run_bind, Result.andThen, hp, ha, hl]
end Go.Proofs.YtcahpodmcklnbaaGreatDoor
/-
  slot.sector: the array of a record's sector. Conditions: the table of crc lies as the program's text lays it.
-/
namespace Go.Proofs.YtcahpodmcklnbaaGreatDoor
open Go.RowKit Fix

theorem put_good (n s : Nat) (h1 : 1 ≤ s) (h7 : s ≤ 7) (hn : n < 256 ^ s) (w : World) : Calls Tryz.prog 82 #[.int .i64 (n : Int), .int .i64 (s : Int)] w fun e w' =>
    ∃ A c, e = .returned (.tuple #[.slice A s c, .int .i64 0]) ∧ s ≤ c ∧ BytesAt w' w'.heap.size A (dig n s) ∧ Below w.heap.size w w' := by
  have hp := pow_le7 s h7
  have hn' : (n : Int) < (256 : Int) ^ s := by
    have : ((n : Nat) : Int) < ((256 ^ s : Nat) : Int) := by omega
    simpa using this
  obtain ⟨e1, e2⟩ := putBE_good (n : Int) (s : Int) (by rw [isz_iff]; omega) (by rw [fitsB_iff, Int.toNat_natCast]; exact ⟨by omega, hn'⟩)
  refine (put_any (n : Int) (s : Int) w (by omega)).mono fun e w' ⟨A, c, he, hc, hr, hB⟩ => ?_
  rw [e1, Int.toNat_natCast, Int.toNat_natCast] at hr hc he
  rw [dig_length] at hc he
  rw [e2] at he
  exact ⟨A, c, he, hc, hr, hB⟩
/-- the five parts of a sector, laid one behind the other over 64 noughts -/
theorem splice_sect (n : Nat) (r : List UInt8) (h : r.length ≤ 40) :
    splice (splice (splice (splice (splice zs 0 ((dig n 8).take 8)) 8 ((dig r.length 2).take 2)) 10 (r.take 44)) 54 ((dig n 6).take 6)) 60 ((dig (Crc.sum (Slot.body n r)) 4).take 4) = Slot.sect n r ∧
    (splice (splice (splice (splice zs 0 ((dig n 8).take 8)) 8 ((dig r.length 2).take 2)) 10 (r.take 44)) 54 ((dig n 6).take 6)).take 60 = Slot.body n r := by
  have h8 := dig_length n 8
  have h2 := dig_length r.length 2
  have h6 := dig_length n 6
  have h4 := dig_length (Crc.sum (Slot.body n r)) 4
  rw [List.take_of_length_le (by omega : (dig n 8).length ≤ 8), List.take_of_length_le (by omega : (dig r.length 2).length ≤ 2), List.take_of_length_le (by omega : r.length ≤ 44), List.take_of_length_le (by omega : (dig n 6).length ≤ 6), List.take_of_length_le (by omega : (dig (Crc.sum (Slot.body n r)) 4).length ≤ 4)]
  have e1 : splice zs 0 (dig n 8) = dig n 8 ++ List.replicate 56 0 := by
    unfold splice
    rw [List.take_zero, List.nil_append, h8, List.drop_replicate]
  have e2 : splice (dig n 8 ++ List.replicate 56 (0 : UInt8)) 8 (dig r.length 2) = (dig n 8 ++ dig r.length 2) ++ List.replicate 54 0 := by
    unfold splice
    rw [List.take_left' h8, h2, List.drop_append, List.drop_of_length_le (by omega), List.nil_append, h8, List.drop_replicate]
    simp only [List.append_assoc]
  have l10 : (dig n 8 ++ dig r.length 2).length = 10 := by rw [List.length_append, h8, h2]
  have e3 : splice ((dig n 8 ++ dig r.length 2) ++ List.replicate 54 (0 : UInt8)) 10 r = (dig n 8 ++ dig r.length 2 ++ (r ++ List.replicate (44 - r.length) 0)) ++ List.replicate 10 0 := by
    unfold splice
    rw [List.take_left' l10, List.drop_append, List.drop_of_length_le (by omega), List.nil_append, l10, List.drop_replicate]
    rw [show 54 - (10 + r.length - 10) = (44 - r.length) + 10 by omega, ← List.replicate_append_replicate]
    simp only [List.append_assoc]
  have l54 : (dig n 8 ++ dig r.length 2 ++ (r ++ List.replicate (44 - r.length) 0)).length = 54 := by rw [List.length_append, l10, List.length_append, List.length_replicate]; omega
  have e4 : splice ((dig n 8 ++ dig r.length 2 ++ (r ++ List.replicate (44 - r.length) 0)) ++ List.replicate 10 (0 : UInt8)) 54 (dig n 6) = Slot.body n r ++ List.replicate 4 0 := by
    unfold splice Slot.body
    rw [List.take_left' l54, List.drop_append, List.drop_of_length_le (by omega), List.nil_append, l54, List.drop_replicate, h6]
    simp only [List.append_assoc]
  rw [e1, e2, e3, e4]
  have lb := Slot.body_length n r h
  refine ⟨?_, List.take_left' lb⟩
  unfold splice Slot.sect Slot.seal_
  rw [List.take_left' lb, h4, List.drop_of_length_le (by rw [List.length_append, lb, List.length_replicate]; exact Nat.le_refl _), List.append_nil]
theorem BlkR.cut {E : TypeId} {w : World} {g : Nat} {l : List UInt8} (h : BlkR E w g (cellsOfBytes l)) (k : Nat) : BytesAt w w.heap.size (some ⟨g, 0, none⟩) (l.take k) := fun hne => by
  refine ⟨_, rfl, h.lt, fun j hj => ?_⟩
  rw [addr_zero_add, h.cell (cellsOfBytes_get l j (by rw [List.length_take] at hj; omega))]
  rw [List.length_take] at hj
  simp [show j < k by omega]
theorem BlkR.all {E : TypeId} {w : World} {g : Nat} {l : List UInt8} (h : BlkR E w g (cellsOfBytes l)) : BytesAt w w.heap.size (some ⟨g, 0, none⟩) l := by
  have := h.cut l.length
  rwa [List.take_length] at this
theorem atW {P : Program} {ops : Array Oper} {Q : Exit → Act → World → Prop} {l : List Oper} {a : Act} (w : World) (h : wpList P ops Q l a w) : wpList P ops Q l a w := h
def SecPost (n : Nat) (r : List UInt8) (w : World) (e : Ending) (w' : World) : Prop := e = .returned (arr (Slot.sect n r)) ∧ Below w.heap.size w w'
set_option maxRecDepth 100000 in
set_option maxHeartbeats 2000000 in
theorem sector_any (n : Nat) (A : Option Addr) (r : List UInt8) (m c : Nat) (hm : r.length = m) (h40 : m ≤ 40) (hn : n ≤ 1099511627776) (w : World) (ht : TabAt w) (hr : BytesAt w w.heap.size A r) :
    Calls Tryz.prog 65 #[.int .i64 (n : Int), .slice A m c] w (SecPost n r w) := by
  have ew : IntKind.u64.wrap (n : Int) = (n : Int) := by rw [IntKind.wrap_u64]; omega
  have q8 : ∀ g W, (Instr.sliceAt 116 (.pointer (some ⟨g, 0, none⟩)) none (some (.int .i64 8)) none).run Tryz.prog W = .ok (.slice (some ⟨g, 0, none⟩) 8 64) W := fun g W => cutA_h g 8 (by decide) W
  have q10 : ∀ g W, (Instr.sliceAt 116 (.pointer (some ⟨g, 0, none⟩)) (some (.int .i64 8)) (some (.int .i64 10)) none).run Tryz.prog W = .ok (.slice (some ⟨g, 8, none⟩) 2 56) W := fun g W => cutA_lh g 8 10 (by decide) (by decide) (by decide) (by decide) W
  have q54 : ∀ g W, (Instr.sliceAt 116 (.pointer (some ⟨g, 0, none⟩)) (some (.int .i64 10)) (some (.int .i64 54)) none).run Tryz.prog W = .ok (.slice (some ⟨g, 10, none⟩) 44 54) W := fun g W => cutA_lh g 10 54 (by decide) (by decide) (by decide) (by decide) W
  have q60 : ∀ g W, (Instr.sliceAt 116 (.pointer (some ⟨g, 0, none⟩)) (some (.int .i64 54)) (some (.int .i64 60)) none).run Tryz.prog W = .ok (.slice (some ⟨g, 54, none⟩) 6 10) W := fun g W => cutA_lh g 54 60 (by decide) (by decide) (by decide) (by decide) W
  have q64 : ∀ g W, (Instr.sliceAt 116 (.pointer (some ⟨g, 0, none⟩)) (some (.int .i64 60)) none none).run Tryz.prog W = .ok (.slice (some ⟨g, 60, none⟩) 4 4) W := fun g W => cutA_l g 60 (by decide) (by decide) W
  have p60 : ∀ g W, (Instr.sliceAt 116 (.pointer (some ⟨g, 0, none⟩)) none (some (.int .i64 60)) none).run Tryz.prog W = .ok (.slice (some ⟨g, 0, none⟩) 60 64) W := fun g W => cutA_h g 60 (by decide) W
  have zp2 : ∀ w : World, Calls Tryz.prog 82 #[.int .i64 (m : Int), .int .i64 2] w fun e w' => ∃ A c, e = .returned (.tuple #[.slice A 2 c, .int .i64 0]) ∧ 2 ≤ c ∧ BytesAt w' w'.heap.size A (dig m 2) ∧ Below w.heap.size w w' := put_good m 2 (by omega) (by omega) (by omega)
  have zp6 : ∀ w : World, Calls Tryz.prog 82 #[.int .i64 (n : Int), .int .i64 6] w fun e w' => ∃ A c, e = .returned (.tuple #[.slice A 6 c, .int .i64 0]) ∧ 6 ≤ c ∧ BytesAt w' w'.heap.size A (dig n 6) ∧ Below w.heap.size w w' := put_good n 6 (by omega) (by omega) (by omega)
  have zl : ∀ w : World, _ := fun w => long_any n w
  have hz64 : zs.length = 64 := by simp
  obtain ⟨hs1, hs2⟩ := splice_sect n r (by omega)
  rw [hm] at hs1 hs2
  obtain ⟨l1, hl1⟩ : ∃ l, l = splice zs 0 ((dig n 8).take 8) := ⟨_, rfl⟩
  rw [← hl1] at hs1 hs2
  obtain ⟨l2, hl2⟩ : ∃ l, l = splice l1 8 ((dig m 2).take 2) := ⟨_, rfl⟩
  rw [← hl2] at hs1 hs2
  obtain ⟨l3, hl3⟩ : ∃ l, l = splice l2 10 (r.take 44) := ⟨_, rfl⟩
  rw [← hl3] at hs1 hs2
  obtain ⟨l4, hl4⟩ : ∃ l, l = splice l3 54 ((dig n 6).take 6) := ⟨_, rfl⟩
  rw [← hl4] at hs1 hs2
  have n1 : l1.length = 64 := by rw [hl1, length_splice _ _ _ (by simp [dig_length])]; simp
  have n2 : l2.length = 64 := by rw [hl2, length_splice _ _ _ (by simp [dig_length]; omega)]; exact n1
  have n3 : l3.length = 64 := by rw [hl3, length_splice _ _ _ (by simp; omega)]; exact n2
  have n4 : l4.length = 64 := by rw [hl4, length_splice _ _ _ (by simp [dig_length]; omega)]; exact n3
  have hbl := Slot.body_length n r (by omega)
  have hsl := Slot.sect_length n r (by omega)
  have hcs := Crc.sum_lt (Slot.body n r)
  have HL := Lib.hid (And.intro hl1 (And.intro hl2 (And.intro hl3 (And.intro hl4 (And.intro hs1 hs2)))))
  have HN := Lib.hid (And.intro n1 (And.intro n2 (And.intro n3 (And.intro n4 (And.intro hbl (And.intro hsl hcs))))))
  have HM := Lib.hid hm
  have d8 := Lib.hid (dig_length n 8)
  have d2 := Lib.hid (dig_length m 2)
  have d6 := Lib.hid (dig_length n 6)
  have d4 := Lib.hid (dig_length (Crc.sum (Slot.body n r)) 4)
  unfold SecPost
  obtain ⟨sc, hsc⟩ : ∃ x, x = Slot.sect n r := ⟨_, rfl⟩
  rw [← hsc] at hs1 ⊢
  obtain ⟨s0, hs0⟩ : ∃ x, x = Crc.sum (Slot.body n r) := ⟨_, rfl⟩
  have HS := Lib.hid (And.intro hsc hs0)
  clear hl1 hl2 hl3 hl4 n1 n2 n3 n4 hs1 hs2 hbl hsl hcs hm hsc hs0
  go_enter Tryz.func65, Tryz.ntmps65
  go_wp2_with (first
    | (refine wpList_allocA (w := w) rfl rfl ?_; (intro w1 e1; have b1 : BlkR 116 w1 w.heap.size (cellsOfBytes zs) := (by rw [e1]; exact BlkR.new w _ _); have B1 : Below w.heap.size w w1 := (by rw [e1]; exact (Below.refl _ _).alloc (Nat.le_refl _) _); have s1 : w.heap.size < w1.heap.size := (by rw [e1]; simp); have t1 := ht.below B1 (Nat.le_refl _); have r1 := hr.step B1; clear e1))
    | (go_at_call 82; first
      | ((with_reducible refine (zp2 w1).mono ?_); (rintro e w2 ⟨A2, c2, rfl, hc2, k2, B2⟩; have t2 := t1.below B2 (Nat.le_refl _); have r2 := r1.step B2; have b2 := b1.step B2))
      | ((with_reducible refine (zp6 w2).mono ?_); (rintro e w3 ⟨A3, c3, rfl, hc3, k3, B3⟩; have t3 := t2.below B3 (Nat.le_refl _); have r3 := r2.step B3; have k23 := k2.step B3; have b3 := b2.step B3; have B13 := step_trans B1 (step_trans B2 B3); have s13 := Nat.lt_of_lt_of_le s1 (Nat.le_trans B2.size B3.size))))
    | (refine wpList_allocA (w := w3) rfl rfl ?_; (intro w4 e4; have b4 : BlkR 116 w4 w3.heap.size (cellsOfBytes zs) := (by rw [e4]; exact BlkR.new w3 _ _); have B4 : Below w3.heap.size w3 w4 := (by rw [e4]; exact (Below.refl _ _).alloc (Nat.le_refl _) _); have b14 := b3.step B4; clear e4)))
  have B14 := step_trans B13 B4
  have HH := Lib.hid (And.intro b3 (And.intro B13 s13))
  have HR := Lib.hid (And.intro r3 (And.intro k23 (And.intro k3 t3)))
  clear b1 B1 s1 t1 r1 B2 t2 r2 b2 B3 r3 k23 b3 B13 B14 b14 k2 k3 ht hr t3
  go_region_held3 (fun w' => Below w3.heap.size w3 w') (first | assumption | exact B4.drew) (first
    | (go_at_call 60; refine (zl w4.drew).mono ?_; (rintro e w5 ⟨g5, rfl, hg5, h5, B5⟩; have B5 : Below w4.heap.size w4 w5 := undrew B5; obtain ⟨w6, run6, b6, B6, s6⟩ := run_copyB w5 3 116 w3.heap.size 0 8 64 (some ⟨g5, 0, none⟩) zs (dig n 8) 8 8 d8.out (by decide) (by decide) (b4.step B5) h5.at_ (by simp); rw [← HL.out.1] at b6; have B45 := B4.trans (B5.mono B4.size); have B46 := B45.trans B6; have b6 := Lib.hid b6; have k26 := HR.out.2.1.step B46)))
  clear zl B4 b4 run6 B5 B6 B45 h5 zp2 zp6 q8 q10 d8
  go_wp2_with (first
    | ((with_reducible refine atW w6 ?_); refine wpList_copyB (w := w6) rfl (.tmp 26) (.tmp 27) rfl 116 w3.heap.size 8 2 56 (some ⟨w3.heap.size, 8, none⟩) A2 2 c2 rfl rfl (fun _ => rfl) l1 (dig m 2) d2.out b6.out k26 (by rw [HN.out.1]; decide) w3.heap.size w3 B46 (Nat.le_refl _) ?_; (intro w7 b7 B7; rw [← HL.out.2.1] at b7; have r7 := HR.out.1.step B7))
    | ((with_reducible refine atW w7 ?_); refine wpList_copyB (w := w7) rfl (.tmp 29) (.tmp 30) rfl 116 w3.heap.size 10 44 54 (some ⟨w3.heap.size, 10, none⟩) A m c rfl rfl (fun _ => rfl) l2 r HM.out b7.out r7 (by rw [HN.out.2.1]; decide) w3.heap.size w3 B7 (Nat.le_refl _) ?_; (intro w8 b8 B8; rw [← HL.out.2.2.1] at b8; have k38 := HR.out.2.2.1.step B8))
    | ((with_reducible refine atW w8 ?_); refine wpList_copyB (w := w8) rfl (.tmp 32) (.tmp 33) rfl 116 w3.heap.size 54 6 10 (some ⟨w3.heap.size, 54, none⟩) A3 6 c3 rfl rfl (fun _ => rfl) l3 (dig n 6) d6.out b8.out k38 (by rw [HN.out.2.2.1]; decide) w3.heap.size w3 B8 (Nat.le_refl _) ?_; (intro w9 b9 B9; rw [← HL.out.2.2.2.1] at b9)))
  have k9 : BytesAt w9 w9.heap.size (some ⟨w3.heap.size, 0, none⟩) (Slot.body n r) := by
    have := b9.out.cut 60
    rwa [HL.out.2.2.2.2.2] at this
  have t9 := HR.out.2.2.2.below B9 (Nat.le_refl _)
  have zs0 := sum_n (some ⟨w3.heap.size, 0, none⟩) (Slot.body n r) 60 64 HN.out.2.2.2.2.1 _ w9.drew t9 (by rw [HN.out.2.2.2.2.1]; decide) k9
  have zw : ∀ w, _ := fun w => word_any (Crc.sum (Slot.body n r)) HN.out.2.2.2.2.2.2 w
  have b9 := b9.out
  clear b6 k26 b7 b8 r7 k38 B46 B7 B8 zs0
  go_region_held3 (fun w' => Below w3.heap.size w3 w') (first | assumption | exact B9.drew) (first
    | (go_at_call 84; refine (sum_n (some ⟨w3.heap.size, 0, none⟩) (Slot.body n r) 60 64 HN.out.2.2.2.2.1 _ w9.drew t9 (by rw [HN.out.2.2.2.2.1]; decide) k9).mono ?_; (rintro e w10 ⟨rfl, rfl⟩))
    | (go_at_call 83; refine (zw w9.drew).mono ?_; (rintro e w5 ⟨g5, rfl, hg5, h5, B5⟩; have B5 : Below w9.heap.size w9 w5 := undrew B5; obtain ⟨w6, run6, b6, B6, s6⟩ := run_copyB w5 3 116 w3.heap.size 60 4 4 (some ⟨g5, 0, none⟩) l4 (dig (Crc.sum (Slot.body n r)) 4) 4 4 d4.out (by decide) (by decide) (b9.step B5) h5.at_ (by rw [HN.out.2.2.2.1]; decide); rw [HL.out.2.2.2.2.1] at b6; have B95 := B9.trans (B5.mono B9.size); have B96 := B95.trans B6; have b6 := Lib.hid b6)))
  clear b9 k9 t9 B5 B6 B95 zw run6 s6 h5 hg5
  go_wp2_with (first
    | ((with_reducible refine atW w6 ?_); refine wpList_loadA (w := w6) rfl (.tmp 9) rfl w3.heap.size (Slot.sect n r) rfl HN.out.2.2.2.2.2.1 b6.out ?_)
    | ((with_reducible refine atW w6 ?_); refine wpList_storeA (w := w6) rfl (.tmp 4) (.tmp 40) rfl w.heap.size (Slot.sect n r) zs rfl rfl HN.out.2.2.2.2.2.1 (by simp) (HH.out.1.below B96 HH.out.2.2) ?_; (intro w7 b7 B7 s7 _)))
  exact bodyPost_ret (v := arr (Slot.sect n r)) (w := w7) (results_cell_one Tryz.results65 _ _ _ _ _ rfl (loadA HN.out.2.2.2.2.2.1 b7)) rfl ⟨by rw [HS.out.1], HH.out.2.1.trans ((B96.mono HH.out.2.1.size).trans B7)⟩
end Go.Proofs.YtcahpodmcklnbaaGreatDoor
/-
  Bytes told as new memory, known whole; bytes.Equal, bytes.Clone, tandemkit.OverBytes; slot.Bytes. Conditions: the table of crc lies as the program's text lays it; the bytes can be read.
-/
namespace Go.Proofs.YtcahpodmcklnbaaGreatDoor
open Go.RowKit Fix

/-- a slice that is new memory (of blocks from base on), known up to its capacity -/
def Whole (w : World) (base : Nat) (A : Option Addr) (c : Nat) (l : List UInt8) : Prop :=
  (l = [] ∧ c = 0) ∨ ∃ g t E, A = some ⟨g, 0, none⟩ ∧ base ≤ g ∧ BlkR E w g (cellsOfBytes (l ++ List.replicate t 0)) ∧ c = l.length + t
section
variable {w w' : World} {base c : Nat} {A : Option Addr} {l : List UInt8}
theorem Whole.none_ : Whole w base A 0 [] := .inl ⟨rfl, rfl⟩
theorem Whole.bytes (h : Whole w base A c l) : BytesAt w w.heap.size A l := fun hl => by
  rcases h with ⟨rfl, _⟩ | ⟨g, t, E, rfl, _, hb, _⟩
  · exact absurd rfl hl
  · refine ⟨_, rfl, hb.lt, fun k hk => ?_⟩
    rw [addr_zero_add, hb.cell (cellsOfBytes_get _ k (by rw [List.length_append]; omega))]
    simp [List.getElem?_append_left hk, hk]
theorem Whole.cap (h : Whole w base A c l) : l.length ≤ c := by
  rcases h with ⟨rfl, rfl⟩ | ⟨g, t, E, rfl, _, hb, rfl⟩
  · exact Nat.le_refl _
  · omega
theorem Whole.new (h : Whole w base A c l) : ∀ ad, A = some ad → l ≠ [] → base ≤ ad.block := fun ad e hne => by
  rcases h with ⟨rfl, _⟩ | ⟨g, t, E, rfl, hg, _, _⟩
  · exact absurd rfl hne
  · cases e; exact hg
theorem Whole.step (h : Whole w base A c l) (hb : Below w.heap.size w w') : Whole w' base A c l := by
  rcases h with h | ⟨g, t, E, rfl, hg, hk, e⟩
  · exact .inl h
  · exact .inr ⟨g, t, E, rfl, hg, hk.below hb hk.lt, e⟩
theorem Whole.less (h : Whole w base A c l) {b : Nat} (hb : b ≤ base) : Whole w b A c l := by
  rcases h with h | ⟨g, t, E, rfl, hg, hk, e⟩
  · exact .inl h
  · exact .inr ⟨g, t, E, rfl, Nat.le_trans hb hg, hk, e⟩
theorem Whole.keepBut {b g : Nat} (h : Whole w b A c l) (hk : ∀ k, k ≠ g → w'.heap[k]? = w.heap[k]?) (hg : g < base) (h2 : Whole w base A c l) : Whole w' b A c l := by
  rcases h with h | ⟨g1, t, E, e1, hg1, hk1, e⟩
  · exact .inl h
  · rcases h2 with h2 | ⟨g2, t2, E2, e2, hg2, hk2, e3⟩
    · exact .inl h2
    · rw [e1] at e2; cases e2
      exact .inr ⟨g1, t, E, e1, hg1, (hk g1 (by omega)).trans hk1, e⟩
theorem Whole.frame {F : Nat → Prop} (h : Whole w base A c l) (hF : Frame F w w') (hf : ∀ k, F k → k < base) : Whole w' base A c l := by
  rcases h with h | ⟨g, t, E, rfl, hg, hk, e⟩
  · exact .inl h
  · exact .inr ⟨g, t, E, rfl, hg, (hF.block g hk.lt (fun x => by have := hf g x; omega)).trans hk, e⟩
end
theorem Frame.setAt {F : Nat → Prop} {w w' : World} (h : Frame F w w') (a : Addr) (v : Value) (ha : F a.block) : Frame F w (w'.setCell a v) :=
  ⟨h.os, h.tape, h.output, by simpa [World.setCell] using h.size, fun k hk hf => (Below.heap_setCell w' a v k (fun e => hf (e ▸ ha))).trans (h.block k hk hf)⟩
/-- the block of a slice that has room -/
def BlockOf (A : Option Addr) (c : Nat) (k : Nat) : Prop := c ≠ 0 ∧ ∃ ad, A = some ad ∧ ad.block = k
theorem Whole.lt {w : World} {base c : Nat} {A : Option Addr} {l : List UInt8} (h : Whole w base A c l) : ∀ k, BlockOf A c k → k < w.heap.size := fun k ⟨h0, ad, e, hk⟩ => by
  obtain ⟨g, t, E, rfl, _, hb, _⟩ := h.resolve_left fun x => h0 x.2
  cases e
  rw [← hk]
  exact hb.lt
theorem equal_any (A : Option Addr) (l : List UInt8) (n c : Nat) (hn : l.length = n) (A' : Option Addr) (l' : List UInt8) (n' c' : Nat) (hn' : l'.length = n') (w : World) (hr : BytesAt w w.heap.size A l) (hr' : BytesAt w w.heap.size A' l') (x : Bool) (hx : (l == l') = x) :
    Calls Tryz.prog 93 #[.slice A n c, .slice A' n' c'] w fun e w' => e = .returned (.bool x) ∧ w = w' := by
  subst hn; subst hn'; subst hx
  have q1 := bytes_string hr c
  have q2 := bytes_string hr' c'
  go_enter Tryz.func93, Tryz.ntmps93
  go_wp2
  go_ret
  exact ⟨rfl, rfl⟩
def ClonePost (l : List UInt8) (n : Nat) (w : World) (e : Ending) (w' : World) : Prop := ∃ A c, e = .returned (.slice A n c) ∧ c ≤ 9223372036854775807 ∧ Whole w' w.heap.size A c l ∧ Below w.heap.size w w'
theorem run_clone (w : World) (ty : TypeId) (l : List UInt8) (ad : Addr) (n c : Nat) (hn : l.length = n) (h0 : 0 < n) (h100 : n ≤ 1000) (b : Addr) (hr : BytesAt w w.heap.size (some ad) l) :
    ∃ c' w', (Builtin.append_ #[32, 32] ty #[.slice (some b) 0 0, .slice (some ad) n c]).run Tryz.prog w = .ok (.slice (some ⟨w.heap.size, 0, none⟩) n c') w' ∧ c' ≤ 9223372036854775807 ∧ Whole w' w.heap.size (some ⟨w.heap.size, 0, none⟩) c' l ∧ Below w.heap.size w w' := by
  obtain ⟨i, h1, h2, h3, h4⟩ := infoU8
  obtain ⟨ad', e, _, hc⟩ := hr (by rintro rfl; simp at hn; omega)
  cases e
  have hrun := run_append_grow (P := Tryz.prog) w 32 ty 5 i (.int .u8 0) Tryz.underlying32 h1 h2 b 0 0 [] (by simp) (fun j v h => by cases h) ad n c (cellsOfBytes l) (by rw [cellsOfBytes_length, hn, h3, Nat.mul_one])
    (fun j v hv => by
      have hj : j < l.length := by
        have := (List.getElem?_eq_some_iff.1 hv).1
        rwa [cellsOfBytes_length] at this
      rw [cellsOfBytes_get l j hj] at hv
      rw [← Option.some.inj hv]
      exact hc j hj) (by omega) (by omega) (growslice_fits (by omega) (by rw [h4]; omega))
  rw [Nat.zero_add] at hrun
  have hge := grownCap_ge w n 0 5
  have hle := grownCap_le_maxLen w n 0 5 (by unfold maxLen; omega)
  obtain ⟨cc, hcc⟩ : ∃ x, x = grownCap w n 0 5 := ⟨_, rfl⟩
  rw [← hcc] at hrun hge hle
  refine ⟨cc, _, hrun, by unfold maxLen at hle; omega, .inr ⟨w.heap.size, cc - n, 5, rfl, Nat.le_refl _, ?_, by omega⟩, (Below.refl _ w).drew.alloc (Nat.le_refl _) _⟩
  have hz : (Builtin.zeroCells (Value.int .u8 0).cells (cc - n)) = (List.replicate (cc - n) (Value.int .u8 0)).toArray := by
    apply Array.toList_inj.1
    simp [Builtin.zeroCells, Value.cells, Nat.mod_one, List.map_const']
  have := heap_alloc_new w.drew (.cells ((#[] : Array Value) ++ (cellsOfBytes l).toArray ++ Builtin.zeroCells (Value.int .u8 0).cells (cc - n)) 5)
  rw [hz] at this
  unfold BlkR
  rw [hz]
  refine Eq.trans this ?_
  simp [cellsOfBytes]
theorem some_eql (ad : Addr) (n c : Nat) (w : World) : (binOp .eql 32 (.slice (some ad) n c) (.slice none 0 0)).run Tryz.prog w = .ok (.bool false) w := by kernel_rfl
theorem emptyB (w : World) : Below w.heap.size w (w.alloc (.cells #[] 5)) := (Below.refl _ _).alloc (Nat.le_refl _) _
set_option maxRecDepth 100000 in
theorem clone_any (l : List UInt8) (ad : Addr) (n c : Nat) (hn : l.length = n) (h100 : n ≤ 1000) (w : World) (hr : BytesAt w w.heap.size (some ad) l) : Calls Tryz.prog 95 #[.slice (some ad) n c] w (ClonePost l n w) := by
  rcases Nat.eq_zero_or_pos n with h0 | h0
  · subst h0
    obtain rfl : l = [] := List.eq_nil_of_length_eq_zero hn
    have hp : ∀ b w', Below w.heap.size w w' → ClonePost [] 0 w (.returned (.slice b 0 0)) w' := fun b w' hB => ⟨b, 0, rfl, by decide, Whole.none_, hB⟩
    replace hp := Lib.hid hp
    have q : ∀ W b, (Builtin.append_ #[32, 32] 32 #[.slice (some b) 0 0, .slice (some ad) 0 c]).run Tryz.prog W = .ok (.slice (some b) 0 0) W := fun W b => by
      obtain ⟨i, h1, h2, h3, h4⟩ := infoU8
      simp [Builtin.append_, run_underlying Tryz.underlying32, sizeOf, typeInfo, h1, Builtin.lenOf, Builtin.firstCells, loadCells, loadCellsFrom, storeCells]
    have qn := some_eql ad
    go_enter Tryz.func95, Tryz.ntmps95
    go_wp2
    go_ret
    exact hp.out _ _ (emptyB w)
  · have B1 := emptyB w
    obtain ⟨c', w', hrun, hc, hW, hB⟩ := run_clone (w.alloc (.cells #[] 5)) 32 l ad n c hn h0 h100 ⟨w.heap.size, 0, none⟩ (hr.step B1)
    have hp : ClonePost l n w (.returned (.slice (some ⟨w.heap.size + 1, 0, none⟩) n c')) w' := ⟨some ⟨w.heap.size + 1, 0, none⟩, c', rfl, hc, by have := hW.less B1.size; simpa using this, step_trans B1 hB⟩
    replace hp := Lib.hid hp
    rw [show (w.alloc (.cells #[] 5)).heap.size = w.heap.size + 1 by simp] at hrun
    clear hr B1 hc hW hB
    replace hrun := Lib.hid hrun
    have qn := some_eql ad
    go_enter Tryz.func95, Tryz.ntmps95
    go_wp2_with (at_builtin; refine wpList_append_runR rfl (.tmp 5) (.tmp 6) 32 rfl rfl rfl hrun.out ?_)
    go_ret
    exact hp.out
namespace Slot
theorem bytes_long' (n : Int) (r : List UInt8) (h : 40 < r.length) : bytesE n r = 3 ∧ bytesB n r = [] := by simp [bytesE, bytesB, h]
theorem bytes_range' (n : Int) (r : List UInt8) (h : ¬ 40 < r.length) (h2 : n < 1 ∨ 1099511627776 < n) : bytesE n r = 5 ∧ bytesB n r = [] := by simp [bytesE, bytesB, h, h2]
theorem bytes_good' (n : Nat) (r : List UInt8) (h : ¬ 40 < r.length) (h2 : ¬ ((n : Int) < 1 ∨ 1099511627776 < (n : Int))) : bytesE n r = 0 ∧ bytesB n r = sect n r := by simp [bytesE, bytesB, h, h2]
end Slot
def BsPost (n : Int) (r : List UInt8) (w : World) (e : Ending) (w' : World) : Prop :=
  ∃ A c, e = .returned (.tuple #[.slice A (Slot.bytesB n r).length c, .int .i64 (Slot.bytesE n r)]) ∧ c ≤ 9223372036854775807 ∧ Whole w' w.heap.size A c (Slot.bytesB n r) ∧ Below w.heap.size w w'
theorem BsPost.none_ {n : Int} {r : List UInt8} {x : Int} (h : Slot.bytesE n r = x ∧ Slot.bytesB n r = []) (w : World) : BsPost n r w (.returned (.tuple #[.slice none 0 0, .int .i64 x])) w :=
  ⟨none, 0, by rw [h.1, h.2]; rfl, by decide, by rw [h.2]; exact Whole.none_, Below.refl _ _⟩
set_option maxRecDepth 100000 in
theorem slotBytes_any (n : Int) (A : Option Addr) (r : List UInt8) (m c : Nat) (hm : r.length = m) (w : World) (ht : TabAt w) (hr : BytesAt w w.heap.size A r) : Calls Tryz.prog 32 #[.int .i64 n, .slice A m c] w (BsPost n r w) := by
  by_cases h40 : 40 < r.length
  · have hi : (40 : Int) < (m : Int) := by omega
    have hp := Lib.hid (BsPost.none_ (Slot.bytes_long' n r h40) w)
    clear h40 hm hr
    go_enter Tryz.func32, Tryz.ntmps32
    go_wp2
    go_ret2
    exact hp.out
  · have hi : ¬ (40 : Int) < (m : Int) := by omega
    by_cases hn : n < 1 ∨ 1099511627776 < n
    · have hp := Lib.hid (BsPost.none_ (Slot.bytes_range' n r h40 hn) w)
      by_cases h1 : n < 1
      · clear h40 hm hr hn
        go_enter Tryz.func32, Tryz.ntmps32
        go_wp2
        go_ret2
        exact hp.out
      · have h2 : 1099511627776 < n := by omega
        clear h40 hm hr hn
        go_enter Tryz.func32, Tryz.ntmps32
        go_wp2
        go_ret2
        exact hp.out
    · obtain ⟨k, rfl⟩ : ∃ k : Nat, n = (k : Int) := ⟨n.toNat, by omega⟩
      have h1 : ¬ (k : Int) < 1 := by omega
      have h2 : ¬ (1099511627776 : Int) < (k : Int) := by omega
      obtain ⟨e1, e2⟩ := Slot.bytes_good' k r h40 hn
      have hse := Slot.sect_length k r (by omega)
      unfold BsPost
      rw [e1, e2, hse]
      have z0 := sector_any k A r m c hm (by omega) (by omega) w ht hr
      unfold SecPost at z0
      have hz64 := Lib.hid hse
      have qa := fun g W => cutA_all g W
      clear e1 e2 hn h40 hm hr hse
      go_enter Tryz.func32, Tryz.ntmps32
      go_wp2_with (first
        | (go_at_call 65; refine z0.mono ?_; (rintro e w1 ⟨rfl, B1⟩))
        | ((with_reducible refine atW w1 ?_); refine wpList_allocA (w := w1) rfl rfl ?_; (intro w2 e2; have b2 : BlkR 116 w2 w1.heap.size (cellsOfBytes zs) := (by rw [e2]; exact BlkR.new w1 _ _); have B2 : Below w1.heap.size w1 w2 := (by rw [e2]; exact (Below.refl _ _).alloc (Nat.le_refl _) _); clear e2))
        | ((with_reducible refine atW w2 ?_); refine wpList_storeA (w := w2) rfl (.tmp 6) (.tmp 18) rfl w1.heap.size (Slot.sect k r) zs rfl rfl hz64.out (by simp) b2 ?_; (intro w3 b3 B3 s3 _)))
      go_ret2
      exact ⟨some ⟨w1.heap.size, 0, none⟩, 64, rfl, by decide, .inr ⟨w1.heap.size, 0, _, rfl, B1.size, by rw [List.replicate_zero, List.append_nil]; exact b3, by rw [hz64.out]⟩, B1.trans ((B2.trans B3).mono B1.size)⟩
end Go.Proofs.YtcahpodmcklnbaaGreatDoor
/-
  slot.Read: what it tells. Conditions: the table of crc lies as the program's text lays it; the bytes can be read.
-/
namespace Go.Proofs.YtcahpodmcklnbaaGreatDoor
open Go.RowKit Fix

namespace Slot
theorem no_len {l : List UInt8} (h : l.length ≠ 64) : right l = false := by
  rw [← Bool.not_eq_true, right_iff]
  exact fun x => h x.1
theorem no_bounds {l : List UInt8} (h : num l < 1 ∨ 1099511627776 < num l ∨ 40 < len l) : right l = false := by
  rw [← Bool.not_eq_true, right_iff]
  rintro ⟨_, h1, h2, h3, _⟩
  omega
theorem no_sect {l : List UInt8} (h : sect (num l) (rec l) ≠ l) : right l = false := by
  rw [← Bool.not_eq_true, right_iff]
  exact fun x => h x.2.2.2.2
theorem bad_e {l : List UInt8} (h64 : l.length = 64) (hz : l ≠ nots) (h : right l = false) : readE l = 11 := by
  unfold readE
  rw [if_neg (by rw [Decidable.not_not]; exact h64), if_neg hz, if_neg (by rw [h]; decide)]
end Slot
theorem getNum (l : List UInt8) (h : l.length = 64) : getN l 0 8 = Slot.num l := by
  unfold getN inN inR Slot.num
  rw [h]
  rfl
theorem getLen (l : List UInt8) (h : l.length = 64) : getsN l 8 2 = Slot.len l := by
  unfold getsN getN inN inR Slot.len
  rw [h]
  rfl
def RdPost (l : List UInt8) (w : World) (e : Ending) (w' : World) : Prop :=
  ∃ A c, e = .returned (.tuple #[.int .i64 (Slot.readN l : Int), .slice A (Slot.readB l).length c, .int .i64 (Slot.readE l)]) ∧ c ≤ 9223372036854775807 ∧ Whole w' w.heap.size A c (Slot.readB l) ∧ Below w.heap.size w w'
theorem RdPost.none_ {l : List UInt8} {x : Int} {w w' : World} (h : Slot.right l = false) (hx : Slot.readE l = x) (hB : Below w.heap.size w w') : RdPost l w (.returned (.tuple #[.int .i64 0, .slice none 0 0, .int .i64 x])) w' :=
  ⟨none, 0, by rw [hx]; simp [Slot.readN, Slot.readB, h], by decide, by simp only [Slot.readB, h]; exact Whole.none_, hB⟩
theorem fltBelow (w : World) (e a : Int) : Below w.heap.size w (w.alloc (.cells #[.int .i64 e, .int .i64 a] 110)) := (Below.refl _ _).alloc (Nat.le_refl _) _
set_option maxRecDepth 100000 in
set_option maxHeartbeats 2000000 in
theorem slotRead_any (A : Option Addr) (l : List UInt8) (m c : Nat) (hm : l.length = m) (hmc : m ≤ c) (w : World) (ht : TabAt w) (hr : BytesAt w w.heap.size A l) : Calls Tryz.prog 81 #[.slice A m c] w (RdPost l w) := by
  by_cases h64 : m = 64
  · subst h64
    have qa := fun g W => cutA_all g W
    have hA : ∃ ad, A = some ad := by
      obtain ⟨ad, e, _⟩ := hr (by rintro rfl; simp at hm)
      exact ⟨ad, e⟩
    obtain ⟨ad, rfl⟩ := hA
    have e64 := Lib.hid hm
    by_cases hz : l = Slot.nots
    · have hp : ∀ w', Below w.heap.size w w' → RdPost l w (.returned (.tuple #[.int .i64 0, .slice none 0 0, .int .i64 6])) w' := fun w' hB => RdPost.none_ (by rw [hz]; exact Slot.right_nots) (by rw [hz]; decide) hB
      have zq : ∀ w1 g, BytesAt w1 w1.heap.size (some ad) l → BytesAt w1 w1.heap.size (some ⟨g, 0, none⟩) Slot.nots → _ := fun w1 g h1 h2 => equal_any (some ad) l 64 c e64.out (some ⟨g, 0, none⟩) Slot.nots 64 64 (by decide) w1 h1 h2 true (by simpa using hz)
      replace hp := Lib.hid hp
      clear hm hz hmc
      go_enter Tryz.func81, Tryz.ntmps81
      go_wp2_with (first
        | ((with_reducible refine atW w ?_); refine wpList_allocA (w := w) rfl rfl ?_; (intro w2 e2; have b2 : BlkR 116 w2 w.heap.size (cellsOfBytes Slot.nots) := (by rw [e2]; exact BlkR.new w _ _); have B2 : Below w.heap.size w w2 := (by rw [e2]; exact (Below.refl _ _).alloc (Nat.le_refl _) _); clear e2; have r2 := hr.step B2; have n2 := b2.all))
        | (go_at_call 93; refine (zq w2 _ r2 n2).mono ?_; (rintro e w3 ⟨rfl, rfl⟩)))
      go_ret3
      exact hp.out _ B2
    · have zq : ∀ w1 g, BytesAt w1 w1.heap.size (some ad) l → BytesAt w1 w1.heap.size (some ⟨g, 0, none⟩) Slot.nots → _ := fun w1 g h1 h2 => equal_any (some ad) l 64 c e64.out (some ⟨g, 0, none⟩) Slot.nots 64 64 (by decide) w1 h1 h2 false (by simpa using hz)
      have zg : ∀ w1, BytesAt w1 w1.heap.size (some ad) l → _ := fun w1 h => getLong_any (some ad) l c 0 w1 (by rw [e64.out]; exact hmc) (by rw [e64.out]; decide) h
      have zt : ∀ w1, BytesAt w1 w1.heap.size (some ad) l → _ := fun w1 h => get_any (some ad) l c 8 2 w1 (by rw [e64.out]; exact hmc) (by rw [e64.out]; decide) h
      simp only [getNum l hm] at zg
      simp only [getLen l hm] at zt
      rw [hm] at zg zt
      simp only [flt, show getE 64 0 8 = 0 from rfl, show getA 64 0 8 = 0 from rfl, show getsE 64 8 2 = 0 from rfl, show getsA 64 8 2 = 0 from rfl] at zg zt
      obtain ⟨n, hn⟩ : ∃ n, n = Slot.num l := ⟨_, rfl⟩
      obtain ⟨k, hk⟩ : ∃ n, n = Slot.len l := ⟨_, rfl⟩
      rw [← hn] at zg
      rw [← hk] at zt
      have hnl : n < 18446744073709551616 := by rw [hn]; unfold Slot.num; exact Fix.le_take_lt l 8 (by omega)
      by_cases h3 : 40 < k
      · have hp : ∀ w', Below w.heap.size w w' → RdPost l w (.returned (.tuple #[.int .i64 0, .slice none 0 0, .int .i64 11])) w' := fun w' hB => RdPost.none_ (Slot.no_bounds (.inr (.inr (by rw [← hk]; exact h3)))) (Slot.bad_e hm hz (Slot.no_bounds (.inr (.inr (by rw [← hk]; exact h3))))) hB
        have h3' : (40 : Int) < (k : Int) := by omega
        replace hp := Lib.hid hp
        clear hm hz hmc hn hk h3 hnl
        go_enter Tryz.func81, Tryz.ntmps81
        go_wp2_with (first
          | ((with_reducible refine atW w ?_); refine wpList_allocA (w := w) rfl rfl ?_; (intro w2 e2; have b2 : BlkR 116 w2 w.heap.size (cellsOfBytes Slot.nots) := (by rw [e2]; exact BlkR.new w _ _); have B2 : Below w.heap.size w w2 := (by rw [e2]; exact (Below.refl _ _).alloc (Nat.le_refl _) _); clear e2; have r2 := hr.step B2; have n2 := b2.all))
          | (go_at_call 93; refine (zq w2 _ r2 n2).mono ?_; (rintro e w3 ⟨rfl, rfl⟩))
          | (go_at_call 78; refine (zg _ r2).mono ?_; (rintro e w3 ⟨rfl, B3⟩; have B3' := step_trans (step_trans B2 B3) (fltBelow w3 0 0); have r3 := (r2.step B3).step (fltBelow w3 0 0)))
          | (go_at_call 94; refine (zt _ r3).mono ?_; (rintro e w4 ⟨rfl, B4⟩; have B4' := step_trans B3' B4)))
        go_ret3
        exact hp.out _ (step_trans B4' (fltBelow w4 _ _))
      · have h3' : ¬ (40 : Int) < (k : Int) := by omega
        have e10 : IntKind.i64.wrap (10 + (k : Int)) = 10 + (k : Int) := IntWalk.i64_in _ (by omega)
        have q10 : ∀ W, (Instr.slice 32 (.slice (some ad) 64 c) (some (.int .i64 10)) (some (.int .i64 (10 + (k : Int)))) none).run Tryz.prog W = .ok (.slice (cutA (some ad) 10 c) k (c - 10)) W := fun W => cut_both (some ad) 64 c 10 k (by omega) W
        rw [show cutA (some ad) 10 c = some (ad.add 10) by unfold cutA; rw [if_neg (by omega)]; rfl] at q10
        obtain ⟨rc, hrc⟩ : ∃ x, x = Slot.rec l := ⟨_, rfl⟩
        have hrl : rc.length = k := by rw [hrc]; unfold Slot.rec; rw [List.length_take, List.length_drop, hm, ← hk]; omega
        have hcut : ∀ w1, BytesAt w1 w1.heap.size (some ad) l → BytesAt w1 w1.heap.size (some (ad.add 10)) rc := fun w1 h => by
          rw [hrc]; unfold Slot.rec
          rw [← hk]
          have := (h.drop 10 c (by omega)).take k
          rwa [show cutA (some ad) 10 c = some (ad.add 10) by unfold cutA; rw [if_neg (by omega)]; rfl] at this
        have zc : ∀ w1, BytesAt w1 w1.heap.size (some (ad.add 10)) rc → _ := fun w1 h => clone_any rc (ad.add 10) k (c - 10) hrl (by omega) w1 h
        obtain ⟨nn, hnn⟩ : ∃ x, x = IntKind.i64.wrap (n : Int) := ⟨_, rfl⟩
        have zb := fun w1 A1 c1 t h => slotBytes_any nn A1 rc k c1 hrl w1 t h
        unfold BsPost at zb
        by_cases hnr : nn < 1 ∨ 1099511627776 < nn
        · have hbad : Slot.right l = false := by
            refine Slot.no_bounds ?_
            rw [← hn]
            rw [hnn, IntKind.wrap_i64] at hnr
            omega
          have hp : ∀ w', Below w.heap.size w w' → RdPost l w (.returned (.tuple #[.int .i64 0, .slice none 0 0, .int .i64 11])) w' := fun w' hB => RdPost.none_ hbad (Slot.bad_e hm hz hbad) hB
          replace hp := Lib.hid hp
          obtain ⟨x1, x2⟩ := Slot.bytes_range' nn rc (by omega) hnr
          replace hnn := hnn.symm
          rw [x1, x2] at zb
          replace hcut := Lib.hid hcut
          clear hm hz hmc hn hk h3 hnl hrc hrl hnr x1 x2 hbad
          go_enter Tryz.func81, Tryz.ntmps81
          go_wp2_with (first
            | ((with_reducible refine atW w ?_); refine wpList_allocA (w := w) rfl rfl ?_; (intro w2 e2; have b2 : BlkR 116 w2 w.heap.size (cellsOfBytes Slot.nots) := (by rw [e2]; exact BlkR.new w _ _); have B2 : Below w.heap.size w w2 := (by rw [e2]; exact (Below.refl _ _).alloc (Nat.le_refl _) _); clear e2; have r2 := hr.step B2; have n2 := b2.all))
            | (go_at_call 93; refine (zq w2 _ r2 n2).mono ?_; (rintro e w3 ⟨rfl, rfl⟩))
            | (go_at_call 78; refine (zg _ r2).mono ?_; (rintro e w3 ⟨rfl, B3⟩; have B3' := step_trans (step_trans B2 B3) (fltBelow w3 0 0); have r3 := (r2.step B3).step (fltBelow w3 0 0)))
            | (go_at_call 94; refine (zt _ r3).mono ?_; (rintro e w4 ⟨rfl, B4⟩; have B4' := step_trans (step_trans B3' B4) (fltBelow w4 0 0); have r4 := hcut.out _ ((r3.step B4).step (fltBelow w4 0 0))))
            | (go_at_call 95; refine (zc _ r4).mono ?_; (rintro e w5 ⟨A5, c5, rfl, hc5, o5, B5⟩; have B5' := step_trans B4' B5; have t5 := ht.below B5' (Nat.le_refl _)))
            | (go_at_call 32; (with_reducible refine (zb w5 A5 c5 t5 o5.bytes).mono ?_); (rintro e w6 ⟨A6, c6, rfl, hc6, o6, B6⟩)))
          go_ret3
          exact hp.out _ (step_trans B5' B6)
        · have hnn1 : nn = (n : Int) := by
            rw [hnn, IntKind.wrap_i64] at hnr ⊢
            omega
          rw [hnn1] at hnr hnn
          rw [hnn1] at zb
          obtain ⟨x1, x2⟩ := Slot.bytes_good' n rc (by omega) hnr
          have hsl : (Slot.sect n rc).length = 64 := Slot.sect_length n rc (by omega)
          rw [x1, x2, hsl] at zb
          replace hnn := hnn.symm
          have HS := Lib.hid hsl
          replace hcut := Lib.hid hcut
          by_cases hs : Slot.sect n rc = l
          · have hright : Slot.right l = true := by
              rw [Slot.right_iff, ← hn, ← hk, ← hrc]
              exact ⟨hm, by omega, by omega, by omega, hs⟩
            have hp : ∀ A' c' w', c' ≤ 9223372036854775807 → Whole w' w.heap.size A' c' rc → Below w.heap.size w w' → RdPost l w (.returned (.tuple #[.int .i64 (n : Int), .slice A' k c', .int .i64 0])) w' := fun A' c' w' h1 h2 h3 =>
              ⟨A', c', by rw [(Slot.readE_zero l).2 hright]; simp only [Slot.readN, Slot.readB, hright, if_true]; rw [← hn, ← hrc, hrl], h1, by simp only [Slot.readB, hright, if_true]; rw [← hrc]; exact h2, h3⟩
            replace hp := Lib.hid hp
            have zq2 : ∀ w1 A1 c1, BytesAt w1 w1.heap.size (some ad) l → BytesAt w1 w1.heap.size A1 (Slot.sect n rc) → _ := fun w1 A1 c1 h1 h2 => equal_any (some ad) l 64 c e64.out A1 (Slot.sect n rc) 64 c1 HS.out w1 h1 h2 true (by simpa using hs.symm)
            clear hm hz hmc hn hk h3 hnl hrc hrl hnr x1 x2 hs hright hsl hnn1
            go_enter Tryz.func81, Tryz.ntmps81
            go_wp2_with (first
              | ((with_reducible refine atW w ?_); refine wpList_allocA (w := w) rfl rfl ?_; (intro w2 e2; have b2 : BlkR 116 w2 w.heap.size (cellsOfBytes Slot.nots) := (by rw [e2]; exact BlkR.new w _ _); have B2 : Below w.heap.size w w2 := (by rw [e2]; exact (Below.refl _ _).alloc (Nat.le_refl _) _); clear e2; have r2 := hr.step B2; have n2 := b2.all))
              | (go_at_call 93; first
                | ((with_reducible refine (zq2 w6 A6 c6 r6 s6).mono ?_); (rintro e w7 ⟨rfl, rfl⟩))
                | (refine (zq w2 _ r2 n2).mono ?_; (rintro e w3 ⟨rfl, rfl⟩)))
              | (go_at_call 78; refine (zg _ r2).mono ?_; (rintro e w3 ⟨rfl, B3⟩; have B3' := step_trans (step_trans B2 B3) (fltBelow w3 0 0); have r3 := (r2.step B3).step (fltBelow w3 0 0)))
              | (go_at_call 94; refine (zt _ r3).mono ?_; (rintro e w4 ⟨rfl, B4⟩; have B4' := step_trans (step_trans B3' B4) (fltBelow w4 0 0); have rr4 := (r3.step B4).step (fltBelow w4 0 0); have r4 := hcut.out _ rr4))
              | (go_at_call 95; refine (zc _ r4).mono ?_; (rintro e w5 ⟨A5, c5, rfl, hc5, o5, B5⟩; have B5' := step_trans B4' B5; have t5 := ht.below B5' (Nat.le_refl _); have r5 := rr4.step B5; have o5 := o5.less B4'.size))
              | (go_at_call 32; (with_reducible refine (zb w5 A5 c5 t5 o5.bytes).mono ?_); (rintro e w6 ⟨A6, c6, rfl, hc6, o6, B6⟩; have r6 := r5.step B6; have s6 := o6.bytes; have HC := Lib.hid (And.intro hc5 (And.intro (o5.step B6) (step_trans B5' B6))); clear o5 o6)))
            go_ret3
            exact hp.out A5 c5 w6 HC.out.1 HC.out.2.1 HC.out.2.2
          · have hright : Slot.right l = false := Slot.no_sect (by rw [← hn, ← hrc]; exact hs)
            have hp : ∀ w', Below w.heap.size w w' → RdPost l w (.returned (.tuple #[.int .i64 0, .slice none 0 0, .int .i64 11])) w' := fun w' hB => RdPost.none_ hright (Slot.bad_e hm hz hright) hB
            replace hp := Lib.hid hp
            have zq2 : ∀ w1 A1 c1, BytesAt w1 w1.heap.size (some ad) l → BytesAt w1 w1.heap.size A1 (Slot.sect n rc) → _ := fun w1 A1 c1 h1 h2 => equal_any (some ad) l 64 c e64.out A1 (Slot.sect n rc) 64 c1 HS.out w1 h1 h2 false (by simpa using fun e => hs e.symm)
            clear hm hz hmc hn hk h3 hnl hrc hrl hnr x1 x2 hs hright hsl hnn1
            go_enter Tryz.func81, Tryz.ntmps81
            go_wp2_with (first
              | ((with_reducible refine atW w ?_); refine wpList_allocA (w := w) rfl rfl ?_; (intro w2 e2; have b2 : BlkR 116 w2 w.heap.size (cellsOfBytes Slot.nots) := (by rw [e2]; exact BlkR.new w _ _); have B2 : Below w.heap.size w w2 := (by rw [e2]; exact (Below.refl _ _).alloc (Nat.le_refl _) _); clear e2; have r2 := hr.step B2; have n2 := b2.all))
              | (go_at_call 93; first
                | ((with_reducible refine (zq2 w6 A6 c6 r6 s6).mono ?_); (rintro e w7 ⟨rfl, rfl⟩))
                | (refine (zq w2 _ r2 n2).mono ?_; (rintro e w3 ⟨rfl, rfl⟩)))
              | (go_at_call 78; refine (zg _ r2).mono ?_; (rintro e w3 ⟨rfl, B3⟩; have B3' := step_trans (step_trans B2 B3) (fltBelow w3 0 0); have r3 := (r2.step B3).step (fltBelow w3 0 0)))
              | (go_at_call 94; refine (zt _ r3).mono ?_; (rintro e w4 ⟨rfl, B4⟩; have B4' := step_trans (step_trans B3' B4) (fltBelow w4 0 0); have rr4 := (r3.step B4).step (fltBelow w4 0 0); have r4 := hcut.out _ rr4))
              | (go_at_call 95; refine (zc _ r4).mono ?_; (rintro e w5 ⟨A5, c5, rfl, hc5, o5, B5⟩; have B5' := step_trans B4' B5; have t5 := ht.below B5' (Nat.le_refl _); have r5 := rr4.step B5; have o5 := o5.less B4'.size))
              | (go_at_call 32; (with_reducible refine (zb w5 A5 c5 t5 o5.bytes).mono ?_); (rintro e w6 ⟨A6, c6, rfl, hc6, o6, B6⟩; have r6 := r5.step B6; have s6 := o6.bytes; have HC := Lib.hid (step_trans B5' B6); clear o5 o6)))
            go_ret3
            exact hp.out _ HC.out
  · have hne : ((m : Int) != 64) = true := by simp; omega
    have hp := Lib.hid (RdPost.none_ (w := w) (w' := w) (Slot.no_len (l := l) (by rw [hm]; exact h64)) (show Slot.readE l = 4 by unfold Slot.readE; rw [if_pos (by rw [hm]; exact h64)]) (Below.refl _ _))
    clear hr hm h64
    go_enter Tryz.func81, Tryz.ntmps81
    go_wp2
    go_ret3
    exact hp.out
end Go.Proofs.YtcahpodmcklnbaaGreatDoor
