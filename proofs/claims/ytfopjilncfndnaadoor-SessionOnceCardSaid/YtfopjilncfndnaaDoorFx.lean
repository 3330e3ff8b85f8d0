/-
  Several texts in one (FixMath, FixWalk, FixRead, FixAny). Conditions: as each says.
-/
import Derived.Test.YtfopjilncfndnaaDoorBa
import Derived.Laws.BitsAllLaws
import Derived.Laws.ResultCell
/-
  Numbers as bytes, the lowest one first: plain mathematics. Conditions: none.
-/
namespace Go.Proofs.YtfopjilncfndnaaDoor.Fix

/-- the number that bytes are -/
def le : List UInt8 → Nat
  | [] => 0
  | c :: r => c.toNat + 256 * le r
/-- the lowest bytes of a number -/
def dig (n k : Nat) : List UInt8 := (List.range k).map fun i => UInt8.ofNat (n / 256 ^ i)

theorem le_append (a b : List UInt8) : le (a ++ b) = le a + 256 ^ a.length * le b := by
  induction a with
  | nil => simp [le]
  | cons c r ih =>
    simp only [List.cons_append, le, List.length_cons, ih, Nat.pow_succ]
    rw [Nat.mul_add, ← Nat.mul_assoc, Nat.mul_comm 256 (256 ^ r.length)]
    omega
theorem le_lt (l : List UInt8) : le l < 256 ^ l.length := by
  induction l with
  | nil => simp [le]
  | cons c r ih =>
    have := c.toNat_lt
    simp only [le, List.length_cons, Nat.pow_succ]
    omega
theorem le_take (l : List UInt8) (k : Nat) (hk : k < l.length) : le (l.take (k + 1)) = le (l.take k) + 256 ^ k * (l.getD k 0).toNat := by
  rw [List.take_succ_eq_append_getElem hk, le_append]
  simp [le, hk, Nat.min_eq_left (Nat.le_of_lt hk)]
theorem le_drop (l : List UInt8) (k : Nat) (hk : k < l.length) : le (l.drop k) = (l.getD k 0).toNat + 256 * le (l.drop (k + 1)) := by
  rw [List.drop_eq_getElem_cons hk]
  simp [le, hk]
theorem le_take_lt (l : List UInt8) (k : Nat) (hk : k ≤ l.length) : le (l.take k) < 256 ^ k := by
  have := le_lt (l.take k)
  rwa [List.length_take, Nat.min_eq_left hk] at this
theorem pow256 (k : Nat) : 256 ^ k = 2 ^ (8 * k) := by rw [show 256 = 2 ^ 8 from rfl, ← Nat.pow_mul]
theorem or_step (n c k : Nat) (h : n < 256 ^ k) : n ||| (c * 2 ^ (8 * k)) = n + 256 ^ k * c := by
  rw [pow256] at h ⊢
  rw [Nat.or_comm, Nat.mul_comm c, ← Nat.two_pow_add_eq_or_of_lt h]
  omega

theorem dig_length (n k : Nat) : (dig n k).length = k := by simp [dig]
theorem dig_zero (n : Nat) : dig n 0 = [] := rfl
theorem dig_succ (n k : Nat) : dig n (k + 1) = dig n k ++ [UInt8.ofNat (n / 256 ^ k)] := by simp [dig, List.range_succ]
theorem dig_cons (n k : Nat) : dig n (k + 1) = UInt8.ofNat n :: dig (n / 256) k := by
  unfold dig
  rw [List.range_succ_eq_map, List.map_cons, List.map_map]
  simp only [Nat.pow_zero, Nat.div_one, List.cons.injEq, true_and]
  refine List.map_congr_left fun i _ => ?_
  simp only [Function.comp, Nat.pow_succ, Nat.succ_eq_add_one]
  rw [Nat.div_div_eq_div_mul, Nat.mul_comm (256 ^ i) 256]
theorem dig_take (n j k : Nat) (h : j ≤ k) : (dig n k).take j = dig n j := by
  unfold dig
  rw [← List.map_take, List.take_range, Nat.min_eq_left h]
theorem dig_getD (n k i : Nat) (h : i < k) : (dig n k).getD i 0 = UInt8.ofNat (n / 256 ^ i) := by
  simp [dig, h]
theorem le_dig (n k : Nat) : le (dig n k) = n % 256 ^ k := by
  induction k generalizing n with
  | zero => simp [dig, le, Nat.mod_one]
  | succ k ih =>
    rw [dig_cons, le, ih, Nat.pow_succ, Nat.mul_comm (256 ^ k) 256, Nat.mod_mul]
    simp
theorem le_dig_self (n k : Nat) (h : n < 256 ^ k) : le (dig n k) = n := by rw [le_dig, Nat.mod_eq_of_lt h]
theorem dig_le (l : List UInt8) : dig (le l) l.length = l := by
  induction l with
  | nil => rfl
  | cons c r ih =>
    have h := c.toNat_lt
    rw [List.length_cons, dig_cons, le]
    have e1 : (c.toNat + 256 * le r) / 256 = le r := by omega
    rw [e1, ih]
    congr 1
    apply UInt8.toNat_inj.1
    simp
/-- the number of the lower half, of the upper one -/
theorem dig_halves (n : Nat) : dig n 8 = dig (n % 4294967296) 4 ++ dig (n / 4294967296) 4 := by
  have e : ∀ m k, dig m k = (List.range k).map fun i => UInt8.ofNat (m / 256 ^ i) := fun _ _ => rfl
  simp only [dig_cons, dig_zero, List.cons_append, List.nil_append, List.cons.injEq, and_true]
  refine ⟨?_, ?_, ?_, ?_, ?_, ?_, ?_, ?_⟩ <;> (apply UInt8.toNat_inj.1; simp only [UInt8.toNat_ofNat']; omega)
/-- more bytes of a number that fewer have: noughts behind -/
theorem dig_zeros (n k j : Nat) (h : n < 256 ^ k) : dig n (k + j) = dig n k ++ List.replicate j 0 := by
  induction j with
  | zero => simp
  | succ j ih =>
    have h2 : n / 256 ^ (k + j) = 0 := Nat.div_eq_of_lt (Nat.lt_of_lt_of_le h (Nat.pow_le_pow_right (by decide) (by omega)))
    rw [← Nat.add_assoc, dig_succ, ih, h2, List.replicate_succ', List.append_assoc]
    rfl
end Go.Proofs.YtfopjilncfndnaaDoor.Fix
/-
  Package fixed: what its functions return. Conditions: the bytes can be read.
-/
namespace Go.Proofs.YtfopjilncfndnaaDoor
open Go.RowKit Fix

def LayPost (n s : Nat) (w : World) (e : Ending) (w' : World) : Prop :=
  ∃ g, e = .returned (.slice (some ⟨g, 0, none⟩) s s) ∧ w.heap.size ≤ g ∧ BlkB w' g (dig n s) ∧ Below w.heap.size w w'
/-- the eight bytes, of which so many are laid -/
def laidN (n j : Nat) : List UInt8 := dig n j ++ List.replicate (8 - j) 0
theorem laidN_length (n j : Nat) (h : j ≤ 8) : (laidN n j).length = 8 := by simp [laidN, dig_length]; omega
theorem laidN_get (n j : Nat) (h : j < 8) : (cellsOfBytes (laidN n j))[j]? = some (.int .u8 0) := by
  rw [cellsOfBytes_get _ _ (by rw [laidN_length n j (by omega)]; exact h)]
  unfold laidN
  rw [List.getD_eq_getElem?_getD, List.getElem?_append_right (by rw [dig_length]; omega), dig_length, Nat.sub_self, List.getElem?_replicate, if_pos (by omega)]
  rfl
theorem div_int (n j : Nat) : (n : Int) / 2 ^ (8 * j) % 256 = ((UInt8.ofNat (n / 256 ^ j)).toNat : Int) := by
  have e : (n : Int) / 2 ^ (8 * j) = ((n / 256 ^ j : Nat) : Int) := by rw [pow256, Int.natCast_ediv, Int.natCast_pow]; rfl
  rw [e, UInt8.toNat_ofNat']
  omega
theorem laidN_set (n j : Nat) (h : j < 8) : (cellsOfBytes (laidN n j)).set j (.int .u8 ((n : Int) / 2 ^ (8 * j) % 256)) = cellsOfBytes (laidN n (j + 1)) := by
  rw [div_int]
  unfold laidN cellsOfBytes
  rw [show 8 - j = (8 - (j + 1)) + 1 by omega, List.replicate_succ, dig_succ, List.append_assoc]
  simp only [List.map_append, List.map_cons, List.map_nil]
  rw [List.set_append_right _ _ (by simp [dig_length]), List.length_map, dig_length, Nat.sub_self, List.set_cons_zero]
  rfl
theorem laidN_zero (n : Nat) : (cellsOfBytes (laidN n 0)).toArray = #[.int .u8 0, .int .u8 0, .int .u8 0, .int .u8 0, .int .u8 0, .int .u8 0, .int .u8 0, .int .u8 0] := rfl
theorem laidN_all (n : Nat) : laidN n 8 = dig n 8 := by simp [laidN]

theorem cut8 (g s : Nat) (hs : s ≤ 8) (W : World) : (Instr.sliceAt 136 (.pointer (some ⟨g, 0, none⟩)) none (some (.int .i64 (s : Int))) none).run Tryd.prog W = .ok (.slice (some ⟨g, 0, none⟩) s 8) W := by
  have hu : Tryd.prog.underlying 136 = some (.array (Tryd.prog.arrayLen 136) (Tryd.prog.elem 136)) := by kernel_rfl
  have h8 : Tryd.prog.arrayLen 136 = 8 := by kernel_rfl
  have hz : (sizeOf (Tryd.prog.elem 136)).run Tryd.prog W = .ok 1 W := by kernel_rfl
  rw [run_sliceAt_array_h W 136 ⟨g, 0, none⟩ hu .i64 (s : Int) (by omega) (by rw [h8]; omega), hz, h8]
  simp [Result.andThen, slicedAt, Addr.add]

theorem lay_any (n s : Nat) (hs : s ≤ 8) (w : World) :
    Calls Tryd.prog 78 #[.int .u64 (n : Int), .int .i64 (s : Int)] w (LayPost n s w) := by
  have hmk := make_bytes s (by omega)
  go_enter Tryd.func78, Tryd.ntmps78
  go_wp2
  go_loopw [8] (fun i wr => ∃ j : Nat, j ≤ 8 ∧ i = .int .i64 (j : Int) ∧ BlkR 136 wr w.heap.size (cellsOfBytes (laidN n j)) ∧ Below w.heap.size w wr) (fun i _ => 8 - (intOf i).toNat)
  case atStart => exact ⟨0, by omega, rfl, BlkR.new w _ _, (Below.refl _ _).alloc (Nat.le_refl _) _⟩
  case round => 
    obtain ⟨j, hj, rfl, hblk, hbel⟩ := hrel
    by_cases hj8 : j < 8
    · have hcell := hblk.cell (laidN_get n j hj8)
      have hfr := hblk.frozen j
      have HB := Lib.hid hblk
      clear hblk
      go_wp2
      go_roundw
      case rel =>
        refine ⟨j + 1, by omega, by go_num, ?_, hbel.setCell (Nat.le_refl _) _⟩
        rw [← laidN_set n j hj8]
        exact HB.out.set_ _ _
      case measure => simp [intOf]; omega
    · obtain rfl : j = 8 := by omega
      rw [laidN_all] at hblk
      have HB := Lib.hid hblk
      clear hblk
      have q8 := cut8 w.heap.size s hs
      have H0 := fun W : World => heap_alloc_new W (.cells (List.replicate s (Value.int .u8 0)).toArray 5)
      replace H0 := Lib.hid H0
      go_wp2_with (with_reducible refine wpList_copy_splice rfl (.tmp 21) (.tmp 23) 39 39 rfl 5 Tryd.underlying39 (by kernel_rfl) (some ⟨wr.heap.size, 0, none⟩) (some ⟨w.heap.size, 0, none⟩) s s s 8 rfl rfl wr.heap.size 0 (List.replicate s (Value.int .u8 0)) 5 ?h1 (cellsOfBytes (dig n s)) ?h2 ?h3 ?h4 ?h5 w.heap.size w ?h6 ?h7 ?h8; rotate_left 7; (intro w2 hg2 hb2))
      · have hB : BlkB w2 wr.heap.size (dig n s) := by
          unfold BlkB
          have e : splice (List.replicate s (Value.int .u8 0)) 0 (cellsOfBytes (dig n s)) = cellsOfBytes (dig n s) := by
            simp [splice, cellsOfBytes, dig_length]
          rw [← e]; exact hg2.out
        have HB := Lib.hid hB
        clear hmk hg2 hB
        go_wp2
        go_ret
        exact ⟨wr.heap.size, rfl, hbel.size, HB.out, hb2⟩
      case h1 => simpa using H0.out wr
      case h2 => rw [cellsOfBytes_length, dig_length]; exact (Nat.min_self _).symm
      case h3 =>
        intro hpos
        intro j v hv
        have hj : j < s := by
          have := (List.getElem?_eq_some_iff.1 hv).1
          rwa [cellsOfBytes_length, dig_length] at this
        have h2 := (BlkR.below HB.out ((Below.refl wr.heap.size wr).alloc (Nat.le_refl _) (.cells (Array.replicate s (Value.int .u8 0)) 5)) (HB.out.lt)).cell (k := j) (u := v) (by
          rw [← hv, cellsOfBytes_get _ _ (by rw [dig_length]; omega), cellsOfBytes_get _ _ (by rw [dig_length]; omega), dig_getD _ _ _ (by omega), dig_getD _ _ _ (by omega)])
        exact h2
      case h4 => rw [cellsOfBytes_length, dig_length, List.length_replicate]; omega
      case h5 => exact oneCell_bytes _
      case h6 => exact hbel.alloc hbel.size _
      case h7 => exact hbel.size
end Go.Proofs.YtfopjilncfndnaaDoor
/-
  fixed.read, at both widths: what it returns. Conditions: the bytes can be read.
-/
namespace Go.Proofs.YtfopjilncfndnaaDoor
open Go.RowKit Fix

/-- a fault -/
def flt (e a : Int) : Value := .agg #[.int .i64 e, .int .i64 a]
/-- is the place one of the bytes' -/
def inR (n : Nat) (at_ : Int) : Bool := decide (0 ≤ at_) && decide (at_ ≤ (n : Int))
/-- are there as many bytes -/
def inN (n : Nat) (at_ s : Int) : Bool := inR n at_ && decide (s ≤ (n : Int) - at_)

theorem run_cut_both {P : Program} {t : TypeId} (ht : P.underlying t = some (.slice (P.elem t))) (hs : ∀ w, (sizeOf (P.elem t)).run P w = .ok 1 w) (A : Option Addr) (n c i j : Nat) (h : i + j ≤ c) (W : World) :
    (Instr.slice t (.slice A n c) (some (.int .i64 (i : Int))) (some (.int .i64 ((i : Int) + (j : Int)))) none).run P W = .ok (.slice (cutA A i c) j (c - i)) W := by
  rw [run_slice_lh W t A n c ht .i64 .i64 (i : Int) ((i : Int) + (j : Int)) (by omega) (by omega) (by omega), hs]
  have e : ((i : Int) + (j : Int)).toNat = i + j := by omega
  simp only [Result.andThen, sliced, Int.toNat_natCast, Nat.mul_one, cutA, e]
  congr 2
  omega
theorem cut_both (A : Option Addr) (n c i j : Nat) (h : i + j ≤ c) (W : World) : (Instr.slice 39 (.slice A n c) (some (.int .i64 (i : Int))) (some (.int .i64 ((i : Int) + (j : Int)))) none).run Tryd.prog W = .ok (.slice (cutA A i c) j (c - i)) W := run_cut_both elemBytes sizeBytes A n c i j h W

/-- what Get tells: the number, where it ends, the fault -/
def getN (l : List UInt8) (at_ : Int) (s : Nat) : Nat := if inN l.length at_ s = true then le ((l.drop at_.toNat).take s) else 0
def getP (n : Nat) (at_ : Int) (s : Nat) : Int := if inN n at_ s = true then at_ + s else 0
def getE (n : Nat) (at_ : Int) (s : Nat) : Int := if inR n at_ = true then (if inN n at_ s = true then 0 else 4) else 5
def getA (n : Nat) (at_ : Int) (s : Nat) : Int := if inR n at_ = true then (if inN n at_ s = true then 0 else n) else 0
theorem getN_lt (l : List UInt8) (at_ : Int) (s : Nat) : getN l at_ s < 256 ^ s := by
  unfold getN
  split
  · have h := le_lt ((l.drop at_.toNat).take s)
    exact Nat.lt_of_lt_of_le h (Nat.pow_le_pow_right (by decide) (by rw [List.length_take]; exact Nat.min_le_left _ _))
  · exact Nat.pow_pos (by decide)
theorem inN_iff (n : Nat) (at_ : Int) (s : Nat) : inN n at_ s = true ↔ 0 ≤ at_ ∧ at_ ≤ n ∧ (s : Int) ≤ (n : Int) - at_ := by
  unfold inN inR; simp; omega
theorem inR_iff (n : Nat) (at_ : Int) : inR n at_ = true ↔ 0 ≤ at_ ∧ at_ ≤ n := by unfold inR; simp
theorem pow_int (k : Nat) : (2 : Int) ^ (8 * k) = ((256 ^ k : Nat) : Int) := by rw [pow256, Int.natCast_pow]; rfl
theorem room (k n x : Nat) (hk : k < n) (hx : x < 256) : x * 256 ^ k < 256 ^ n := by
  have h1 : x * 256 ^ k < 256 * 256 ^ k := Nat.mul_lt_mul_of_pos_right hx (Nat.pow_pos (by decide))
  have h2 : 256 ^ (k + 1) ≤ 256 ^ n := Nat.pow_le_pow_right (by decide) hk
  rw [Nat.pow_succ, Nat.mul_comm] at h2
  omega
theorem read64_place (A : Option Addr) (l : List UInt8) (c : Nat) (at_ : Int) (s : Nat) (w : World) (h : inR l.length at_ = false) :
    Calls Tryd.prog 83 #[.slice A l.length c, .int .i64 at_, .int .i64 (s : Int)] w fun e w' => e = .returned (.tuple #[.int .u64 0, .int .i64 0, flt 5 0]) ∧ Below w.heap.size w w' := by
  unfold inR at h
  by_cases h0 : at_ < 0
  · clear h
    go_enter Tryd.func83, Tryd.ntmps83
    go_wp2
    refine bodyPost_ret (v := .tuple #[.int .u64 0, .int .i64 0, flt 5 0]) (by simp [results, Tryd.results83, flt, go_sem]) rfl ⟨rfl, (Below.refl _ _).alloc (Nat.le_refl _) _⟩
  · have h1 : (l.length : Int) < at_ := by simp at h; omega
    clear h
    go_enter Tryd.func83, Tryd.ntmps83
    go_wp2
    refine bodyPost_ret (v := .tuple #[.int .u64 0, .int .i64 0, flt 5 0]) (by simp [results, Tryd.results83, flt, go_sem]) rfl ⟨rfl, (Below.refl _ _).alloc (Nat.le_refl _) _⟩
theorem read64_short (A : Option Addr) (l : List UInt8) (c : Nat) (at_ : Int) (s : Nat) (w : World) (hc : l.length ≤ 140737488351232) (h : inR l.length at_ = true) (h2 : (l.length : Int) - at_ < s) :
    Calls Tryd.prog 83 #[.slice A l.length c, .int .i64 at_, .int .i64 (s : Int)] w fun e w' => e = .returned (.tuple #[.int .u64 0, .int .i64 0, flt 4 l.length]) ∧ Below w.heap.size w w' := by
  have h0 : 0 ≤ at_ := by simp [inR] at h; omega
  have h1 : at_ ≤ (l.length : Int) := by simp [inR] at h; omega
  have g0 : ¬ at_ < 0 := by omega
  have g1 : ¬ (l.length : Int) < at_ := by omega
  clear h
  go_enter Tryd.func83, Tryd.ntmps83
  go_wp2
  refine bodyPost_ret (v := .tuple #[.int .u64 0, .int .i64 0, flt 4 l.length]) (by simp [results, Tryd.results83, flt, go_sem]) rfl ⟨rfl, (Below.refl _ _).alloc (Nat.le_refl _) _⟩

theorem or64 (m : List UInt8) (k : Nat) (hk : k < 8) (hm : k < m.length) :
    bits .or .u64 (le (m.take k) : Int) (IntKind.u64.wrap (IntKind.u64.wrap ((m[k]?.getD 0).toNat : Int) * 2 ^ (8 * k))) = (le (m.take (k + 1)) : Int) := by
  have hx := (m[k]?.getD 0).toNat_lt
  have h1 := room k 8 _ hk hx
  have h2 : le (m.take k) < 256 ^ k := le_take_lt m k (by omega)
  have h3 : 256 ^ k ≤ 256 ^ 8 := Nat.pow_le_pow_right (by decide) (by omega)
  have e : le (m.take (k + 1)) = le (m.take k) + 256 ^ k * (m[k]?.getD 0).toNat := by rw [le_take m k hm, List.getD_eq_getElem?_getD]
  rw [e, ← or_step _ _ _ h2, ← pow256]
  generalize (m[k]?.getD 0).toNat = x at hx h1 ⊢
  have e1 : IntKind.u64.wrap (x : Int) = (x : Int) := by rw [IntKind.wrap_u64]; omega
  rw [e1, pow_int, ← Int.natCast_mul]
  have e2 : IntKind.u64.wrap ((x * 256 ^ k : Nat) : Int) = ((x * 256 ^ k : Nat) : Int) := by rw [IntKind.wrap_u64]; omega
  rw [e2]
  exact u64_or_nat _ _ (by omega) (by omega)
theorem read64_good (A : Option Addr) (l : List UInt8) (c : Nat) (a s : Nat) (w : World) (hlc : l.length ≤ c) (hc : l.length ≤ 140737488351232) (hr : BytesAt w w.heap.size A l) (hs : s ≤ 8) (h : a + s ≤ l.length) :
    Calls Tryd.prog 83 #[.slice A l.length c, .int .i64 (a : Int), .int .i64 (s : Int)] w fun e w' => e = .returned (.tuple #[.int .u64 (le ((l.drop a).take s) : Int), .int .i64 ((a : Int) + s), flt 0 0]) ∧ Below w.heap.size w w' := by
  have g1 : ¬ (l.length : Int) < (a : Int) := by omega
  have g2 : ¬ (l.length : Int) - (a : Int) < (s : Int) := by omega
  have g3 : (a : Int) ≤ (l.length : Int) := by omega
  have g4 : (s : Int) ≤ (l.length : Int) - (a : Int) := by omega
  have q1 := cut_both A l.length c a s (by omega)
  obtain ⟨m, hm⟩ : ∃ m, m = (l.drop a).take s := ⟨_, rfl⟩
  have hml : m.length = s := by rw [hm]; simp; omega
  have hm2 := (hr.drop a c hlc).take s
  rw [← hm] at hm2 ⊢
  have HM := Lib.hid (And.intro (hm2.alloc (Nat.le_refl _) (.cells #[.int .i64 0, .int .i64 0] 111)) hml)
  clear hm2 hml hm
  go_enter Tryd.func83, Tryd.ntmps83
  go_wp2
  clear q1
  go_loop [9, 37] (fun r i => ∃ k : Nat, k ≤ s ∧ i = .int .i64 (k : Int) ∧ r = .int .u64 (le (m.take k) : Int)) (fun _ i => s - (intOf i).toNat)
  case atStart => exact ⟨0, Nat.zero_le _, rfl, rfl⟩
  case round =>
    obtain ⟨k, hk, rfl, rfl⟩ := hrel
    by_cases hks : k < s
    · obtain ⟨ad, hA, _, hcell⟩ := HM.out.1 (by intro e; have := HM.out.2; rw [e] at this; simp at this; omega)
      have hx := hcell k (by rw [HM.out.2]; exact hks)
      rw [hA]
      clear hcell
      go_wp2
      go_round
      case rel => exact ⟨k + 1, by omega, by go_num, congrArg _ (or64 m k (by omega) (by rw [HM.out.2]; exact hks))⟩
      case measure => simp [intOf]; omega
    · obtain rfl : k = s := by omega
      have e : m.take k = m := List.take_of_length_le (by rw [HM.out.2]; exact Nat.le_refl _)
      rw [e]
      clear e
      go_wp2
      refine bodyPost_ret (v := .tuple #[.int .u64 (le m : Int), .int .i64 ((a : Int) + k), flt 0 0]) (by simp [results, Tryd.results83, flt, go_sem]) rfl ⟨rfl, (Below.refl _ _).alloc (Nat.le_refl _) _⟩
theorem read64_any (A : Option Addr) (l : List UInt8) (c : Nat) (at_ : Int) (s : Nat) (w : World) (hlc : l.length ≤ c) (hc : l.length ≤ 140737488351232) (hr : BytesAt w w.heap.size A l) (hs : s ≤ 8) :
    Calls Tryd.prog 83 #[.slice A l.length c, .int .i64 at_, .int .i64 (s : Int)] w fun e w' => e = .returned (.tuple #[.int .u64 (getN l at_ s : Int), .int .i64 (getP l.length at_ s), flt (getE l.length at_ s) (getA l.length at_ s)]) ∧ Below w.heap.size w w' := by
  unfold getN getP getE getA
  by_cases h : inR l.length at_ = true
  · by_cases h2 : inN l.length at_ s = true
    · simp only [if_pos h, if_pos h2]
      rw [inN_iff] at h2
      obtain ⟨a, rfl⟩ : ∃ a : Nat, at_ = (a : Int) := ⟨at_.toNat, by omega⟩
      exact read64_good A l c a s w hlc hc hr hs (by omega)
    · simp only [if_pos h, if_neg h2]
      rw [inN_iff] at h2
      exact read64_short A l c at_ s w hc h (by rw [inR_iff] at h; omega)
  · have h2 : ¬ inN l.length at_ s = true := by rw [inN_iff]; rw [inR_iff] at h; omega
    simp only [if_neg h, if_neg h2]
    exact read64_place A l c at_ s w (by simpa using h)
theorem read32_place (A : Option Addr) (l : List UInt8) (c : Nat) (at_ : Int) (s : Nat) (w : World) (h : inR l.length at_ = false) :
    Calls Tryd.prog 88 #[.slice A l.length c, .int .i64 at_, .int .i64 (s : Int)] w fun e w' => e = .returned (.tuple #[.int .u32 0, .int .i64 0, flt 5 0]) ∧ Below w.heap.size w w' := by
  unfold inR at h
  by_cases h0 : at_ < 0
  · clear h
    go_enter Tryd.func88, Tryd.ntmps88
    go_wp2
    refine bodyPost_ret (v := .tuple #[.int .u32 0, .int .i64 0, flt 5 0]) (by simp [results, Tryd.results88, flt, go_sem]) rfl ⟨rfl, (Below.refl _ _).alloc (Nat.le_refl _) _⟩
  · have h1 : (l.length : Int) < at_ := by simp at h; omega
    clear h
    go_enter Tryd.func88, Tryd.ntmps88
    go_wp2
    refine bodyPost_ret (v := .tuple #[.int .u32 0, .int .i64 0, flt 5 0]) (by simp [results, Tryd.results88, flt, go_sem]) rfl ⟨rfl, (Below.refl _ _).alloc (Nat.le_refl _) _⟩
theorem read32_short (A : Option Addr) (l : List UInt8) (c : Nat) (at_ : Int) (s : Nat) (w : World) (hc : l.length ≤ 140737488351232) (h : inR l.length at_ = true) (h2 : (l.length : Int) - at_ < s) :
    Calls Tryd.prog 88 #[.slice A l.length c, .int .i64 at_, .int .i64 (s : Int)] w fun e w' => e = .returned (.tuple #[.int .u32 0, .int .i64 0, flt 4 l.length]) ∧ Below w.heap.size w w' := by
  have h0 : 0 ≤ at_ := by simp [inR] at h; omega
  have h1 : at_ ≤ (l.length : Int) := by simp [inR] at h; omega
  have g0 : ¬ at_ < 0 := by omega
  have g1 : ¬ (l.length : Int) < at_ := by omega
  clear h
  go_enter Tryd.func88, Tryd.ntmps88
  go_wp2
  refine bodyPost_ret (v := .tuple #[.int .u32 0, .int .i64 0, flt 4 l.length]) (by simp [results, Tryd.results88, flt, go_sem]) rfl ⟨rfl, (Below.refl _ _).alloc (Nat.le_refl _) _⟩

theorem or32 (m : List UInt8) (k : Nat) (hk : k < 4) (hm : k < m.length) :
    bits .or .u32 (le (m.take k) : Int) (IntKind.u32.wrap (IntKind.u32.wrap ((m[k]?.getD 0).toNat : Int) * 2 ^ (8 * k))) = (le (m.take (k + 1)) : Int) := by
  have hx := (m[k]?.getD 0).toNat_lt
  have h1 := room k 4 _ hk hx
  have h2 : le (m.take k) < 256 ^ k := le_take_lt m k (by omega)
  have h3 : 256 ^ k ≤ 256 ^ 4 := Nat.pow_le_pow_right (by decide) (by omega)
  have e : le (m.take (k + 1)) = le (m.take k) + 256 ^ k * (m[k]?.getD 0).toNat := by rw [le_take m k hm, List.getD_eq_getElem?_getD]
  rw [e, ← or_step _ _ _ h2, ← pow256]
  generalize (m[k]?.getD 0).toNat = x at hx h1 ⊢
  have e1 : IntKind.u32.wrap (x : Int) = (x : Int) := by rw [IntKind.wrap_u32']; omega
  rw [e1, pow_int, ← Int.natCast_mul]
  have e2 : IntKind.u32.wrap ((x * 256 ^ k : Nat) : Int) = ((x * 256 ^ k : Nat) : Int) := by rw [IntKind.wrap_u32']; omega
  rw [e2]
  exact u32_or_nat _ _ (by omega) (by omega)
theorem read32_good (A : Option Addr) (l : List UInt8) (c : Nat) (a s : Nat) (w : World) (hlc : l.length ≤ c) (hc : l.length ≤ 140737488351232) (hr : BytesAt w w.heap.size A l) (hs : s ≤ 4) (h : a + s ≤ l.length) :
    Calls Tryd.prog 88 #[.slice A l.length c, .int .i64 (a : Int), .int .i64 (s : Int)] w fun e w' => e = .returned (.tuple #[.int .u32 (le ((l.drop a).take s) : Int), .int .i64 ((a : Int) + s), flt 0 0]) ∧ Below w.heap.size w w' := by
  have g1 : ¬ (l.length : Int) < (a : Int) := by omega
  have g2 : ¬ (l.length : Int) - (a : Int) < (s : Int) := by omega
  have g3 : (a : Int) ≤ (l.length : Int) := by omega
  have g4 : (s : Int) ≤ (l.length : Int) - (a : Int) := by omega
  have q1 := cut_both A l.length c a s (by omega)
  obtain ⟨m, hm⟩ : ∃ m, m = (l.drop a).take s := ⟨_, rfl⟩
  have hml : m.length = s := by rw [hm]; simp; omega
  have hm2 := (hr.drop a c hlc).take s
  rw [← hm] at hm2 ⊢
  have HM := Lib.hid (And.intro (hm2.alloc (Nat.le_refl _) (.cells #[.int .i64 0, .int .i64 0] 111)) hml)
  clear hm2 hml hm
  go_enter Tryd.func88, Tryd.ntmps88
  go_wp2
  clear q1
  go_loop [9, 37] (fun r i => ∃ k : Nat, k ≤ s ∧ i = .int .i64 (k : Int) ∧ r = .int .u32 (le (m.take k) : Int)) (fun _ i => s - (intOf i).toNat)
  case atStart => exact ⟨0, Nat.zero_le _, rfl, rfl⟩
  case round =>
    obtain ⟨k, hk, rfl, rfl⟩ := hrel
    by_cases hks : k < s
    · obtain ⟨ad, hA, _, hcell⟩ := HM.out.1 (by intro e; have := HM.out.2; rw [e] at this; simp at this; omega)
      have hx := hcell k (by rw [HM.out.2]; exact hks)
      rw [hA]
      clear hcell
      go_wp2
      go_round
      case rel => exact ⟨k + 1, by omega, by go_num, congrArg _ (or32 m k (by omega) (by rw [HM.out.2]; exact hks))⟩
      case measure => simp [intOf]; omega
    · obtain rfl : k = s := by omega
      have e : m.take k = m := List.take_of_length_le (by rw [HM.out.2]; exact Nat.le_refl _)
      rw [e]
      clear e
      go_wp2
      refine bodyPost_ret (v := .tuple #[.int .u32 (le m : Int), .int .i64 ((a : Int) + k), flt 0 0]) (by simp [results, Tryd.results88, flt, go_sem]) rfl ⟨rfl, (Below.refl _ _).alloc (Nat.le_refl _) _⟩
theorem read32_any (A : Option Addr) (l : List UInt8) (c : Nat) (at_ : Int) (s : Nat) (w : World) (hlc : l.length ≤ c) (hc : l.length ≤ 140737488351232) (hr : BytesAt w w.heap.size A l) (hs : s ≤ 4) :
    Calls Tryd.prog 88 #[.slice A l.length c, .int .i64 at_, .int .i64 (s : Int)] w fun e w' => e = .returned (.tuple #[.int .u32 (getN l at_ s : Int), .int .i64 (getP l.length at_ s), flt (getE l.length at_ s) (getA l.length at_ s)]) ∧ Below w.heap.size w w' := by
  unfold getN getP getE getA
  by_cases h : inR l.length at_ = true
  · by_cases h2 : inN l.length at_ s = true
    · simp only [if_pos h, if_pos h2]
      rw [inN_iff] at h2
      obtain ⟨a, rfl⟩ : ∃ a : Nat, at_ = (a : Int) := ⟨at_.toNat, by omega⟩
      exact read32_good A l c a s w hlc hc hr hs (by omega)
    · simp only [if_pos h, if_neg h2]
      rw [inN_iff] at h2
      exact read32_short A l c at_ s w hc h (by rw [inR_iff] at h; omega)
  · have h2 : ¬ inN l.length at_ s = true := by rw [inN_iff]; rw [inR_iff] at h; omega
    simp only [if_neg h, if_neg h2]
    exact read32_place A l c at_ s w (by simpa using h)
end Go.Proofs.YtfopjilncfndnaaDoor
/-
  Package fixed: each call by ONE contract, at whatever input. Conditions: the bytes can be read.
-/
namespace Go.Proofs.YtfopjilncfndnaaDoor
open Go.RowKit Fix

def isz (s : Int) : Bool := decide (1 ≤ s) && decide (s ≤ 7)
theorem isz_iff (s : Int) : isz s = true ↔ 1 ≤ s ∧ s ≤ 7 := by unfold isz; simp
/-- may n be put in so many bytes -/
def fitsB (n s : Int) : Bool := decide (0 ≤ n) && decide (n < 256 ^ s.toNat)
theorem fitsB_iff (n s : Int) : fitsB n s = true ↔ 0 ≤ n ∧ n < 256 ^ s.toNat := by unfold fitsB; simp
def putE (n s : Int) : Int := if isz s = true then (if fitsB n s = true then 0 else 5) else 2
def putB (n s : Int) : List UInt8 := if isz s = true then (if fitsB n s = true then dig n.toNat s.toNat else []) else []
def PutPost (n s : Int) (w : World) (e : Ending) (w' : World) : Prop :=
  ∃ A c, e = .returned (.tuple #[.slice A (putB n s).length c, .int .i64 (putE n s)]) ∧ (putB n s).length ≤ c ∧ BytesAt w' w'.heap.size A (putB n s) ∧ Below w.heap.size w w'

theorem isSize_any (s : Int) (w : World) : Calls Tryd.prog 77 #[.int .i64 s] w fun e w' => e = .returned (.bool (isz s)) ∧ w = w' := by
  unfold isz
  by_cases h : 1 ≤ s
  · go_enter Tryd.func77, Tryd.ntmps77
    go_wp2
    go_ret
    exact ⟨by simp [h], rfl⟩
  · go_enter Tryd.func77, Tryd.ntmps77
    go_wp2
    go_ret
    exact ⟨by rw [decide_eq_false (show ¬ 1 ≤ s by omega)]; rfl, rfl⟩
theorem word_any (n : Nat) (hn : n < 4294967296) (w : World) : Calls Tryd.prog 80 #[.int .u32 (n : Int)] w (LayPost n 4 w) := by
  have e1 : IntKind.u64.wrap (n : Int) = (n : Int) := by rw [IntKind.wrap_u64]; omega
  go_enter Tryd.func80, Tryd.ntmps80
  go_wp2_with (go_at_call 78; refine (lay_any n 4 (by omega) _).mono ?_; (rintro e w2 ⟨g, rfl, hg, hb, hbel⟩))
  go_ret
  exact ⟨g, rfl, hg, hb, hbel⟩
theorem long_any (n : Nat) (w : World) : Calls Tryd.prog 65 #[.int .u64 (n : Int)] w (LayPost n 8 w) := by
  go_enter Tryd.func65, Tryd.ntmps65
  go_wp2_with (go_at_call 78; refine (lay_any n 8 (by omega) _).mono ?_; (rintro e w2 ⟨g, rfl, hg, hb, hbel⟩))
  go_ret
  exact ⟨g, rfl, hg, hb, hbel⟩
theorem pow_le7 (s : Nat) (h : s ≤ 7) : 256 ^ s ≤ 72057594037927936 := Nat.le_trans (Nat.pow_le_pow_right (by decide) h) (by decide)
theorem putBE_size (n s : Int) (h : isz s = false) : putB n s = [] ∧ putE n s = 2 := by simp [putB, putE, h]
theorem putBE_range (n s : Int) (h : isz s = true) (h2 : fitsB n s = false) : putB n s = [] ∧ putE n s = 5 := by simp [putB, putE, h, h2]
theorem putBE_good (n s : Int) (h : isz s = true) (h2 : fitsB n s = true) : putB n s = dig n.toNat s.toNat ∧ putE n s = 0 := by simp [putB, putE, h, h2]
/-- nothing is told but an error -/
theorem PutPost.none_ {n s : Int} {e : Int} (h : putB n s = [] ∧ putE n s = e) (w : World) : PutPost n s w (.returned (.tuple #[.slice none 0 0, .int .i64 e])) w :=
  ⟨none, 0, by rw [h.1, h.2]; rfl, by rw [h.1]; exact Nat.le_refl _, by rw [h.1]; exact bytes_nil, Below.refl _ _⟩
theorem shr_fits (m k : Nat) : ((m : Int) / 2 ^ (8 * k) != 0) = !fitsB (m : Int) (k : Int) := by
  have e : (m : Int) / 2 ^ (8 * k) = ((m / 256 ^ k : Nat) : Int) := by rw [pow256, Int.natCast_ediv, Int.natCast_pow]; rfl
  rw [e, Bool.eq_iff_iff, bne_iff_ne, Bool.not_eq_true', ← Bool.not_eq_true, fitsB_iff]
  have h1 : (((256 : Nat) ^ k : Nat) : Int) = (256 : Int) ^ k := by rw [Int.natCast_pow]; rfl
  rw [Int.toNat_natCast, ← h1]
  have h2 : m / 256 ^ k = 0 ↔ m < 256 ^ k := Nat.div_eq_zero_iff.trans (by have := Nat.pow_pos (a := 256) (n := k) (by decide); omega)
  omega
theorem put_any (n s : Int) (w : World) (hn2 : n ≤ 9223372036854775807) : Calls Tryd.prog 64 #[.int .i64 n, .int .i64 s] w (PutPost n s w) := by
  cases h : isz s with
  | true =>
    have HS := Lib.hid h
    rw [isz_iff] at h
    by_cases h0 : n < 0
    · have HP := Lib.hid (putBE_range n s HS.out (by rw [← Bool.not_eq_true, fitsB_iff]; omega))
      go_enter Tryd.func64, Tryd.ntmps64
      go_wp2_with (go_at_call 77; refine (isSize_any s _).mono ?_; (rintro e w2 ⟨rfl, rfl⟩; rw [HS.out]))
      go_ret2
      exact PutPost.none_ HP.out _
    · obtain ⟨m, rfl⟩ : ∃ m : Nat, n = (m : Int) := ⟨n.toNat, by omega⟩
      obtain ⟨k, rfl⟩ : ∃ k : Nat, s = (k : Int) := ⟨s.toNat, by omega⟩
      have q := shr_fits m k
      cases h2 : fitsB (m : Int) (k : Int) with
      | false =>
        have HP := Lib.hid (putBE_range _ _ HS.out h2)
        rw [h2] at q
        simp only [Bool.not_false] at q
        clear h2
        go_enter Tryd.func64, Tryd.ntmps64
        go_wp2_with (go_at_call 77; refine (isSize_any _ _).mono ?_; (rintro e w2 ⟨rfl, rfl⟩; rw [HS.out]))
        go_ret2
        exact PutPost.none_ HP.out _
      | true =>
        have HP := Lib.hid (putBE_good _ _ HS.out h2)
        rw [h2] at q
        simp only [Bool.not_true] at q
        clear h2
        go_enter Tryd.func64, Tryd.ntmps64
        go_wp2_with (first
          | (go_at_call 77; refine (isSize_any _ _).mono ?_; (rintro e w2 ⟨rfl, rfl⟩; rw [HS.out]))
          | (go_at_call 78; refine (lay_any m k (by omega) _).mono ?_; (rintro e w2 ⟨g, rfl, hg, hb, hbel⟩)))
        go_ret2
        obtain ⟨e1, e2⟩ := HP.out
        simp only [Int.toNat_natCast] at e1
        refine ⟨some ⟨g, 0, none⟩, k, ?_, ?_, ?_, hbel⟩
        · rw [e1, e2, dig_length]; rfl
        · rw [e1, dig_length]; exact Nat.le_refl _
        · rw [e1]; exact hb.bytes _ ⟨[], by simp⟩ hb.lt
  | false =>
    have HS := Lib.hid h
    have HP := Lib.hid (putBE_size n s h)
    clear h
    go_enter Tryd.func64, Tryd.ntmps64
    go_wp2_with (go_at_call 77; refine (isSize_any s _).mono ?_; (rintro e w2 ⟨rfl, rfl⟩; rw [HS.out]))
    go_ret2
    exact PutPost.none_ HP.out _

def getsN (l : List UInt8) (at_ s : Int) : Nat := if isz s = true then getN l at_ s.toNat else 0
def getsP (n : Nat) (at_ s : Int) : Int := if isz s = true then getP n at_ s.toNat else 0
def getsE (n : Nat) (at_ s : Int) : Int := if isz s = true then getE n at_ s.toNat else 2
def getsA (n : Nat) (at_ s : Int) : Int := if isz s = true then getA n at_ s.toNat else 0
theorem get_any (A : Option Addr) (l : List UInt8) (c : Nat) (at_ s : Int) (w : World) (hlc : l.length ≤ c) (hc : l.length ≤ 140737488351232) (hr : BytesAt w w.heap.size A l) :
    Calls Tryd.prog 68 #[.slice A l.length c, .int .i64 at_, .int .i64 s] w fun e w' => e = .returned (.tuple #[.int .i64 (getsN l at_ s : Int), .int .i64 (getsP l.length at_ s), flt (getsE l.length at_ s) (getsA l.length at_ s)]) ∧ Below w.heap.size w w' := by
  unfold getsN getsP getsE getsA
  cases h : isz s with
  | true =>
    have HS := Lib.hid h
    rw [isz_iff] at h
    obtain ⟨k, rfl⟩ : ∃ k : Nat, s = (k : Int) := ⟨s.toNat, by omega⟩
    simp only [if_true, Int.toNat_natCast]
    have z := read64_any A l c at_ k (w.alloc (.cells #[.int .i64 0, .int .i64 0] 111)) hlc hc ((hr.alloc (Nat.le_refl _) _).more (by simp)) (by omega)
    have hN : getN l at_ k < 72057594037927936 := Nat.lt_of_lt_of_le (getN_lt l at_ k) (pow_le7 k (by omega))
    obtain ⟨N, hNe⟩ : ∃ x, x = getN l at_ k := ⟨_, rfl⟩
    obtain ⟨P, hPe⟩ : ∃ x, x = getP l.length at_ k := ⟨_, rfl⟩
    obtain ⟨E, hEe⟩ : ∃ x, x = getE l.length at_ k := ⟨_, rfl⟩
    obtain ⟨F, hFe⟩ : ∃ x, x = getA l.length at_ k := ⟨_, rfl⟩
    rw [← hNe] at hN
    rw [← hNe, ← hPe, ← hEe, ← hFe] at z ⊢
    clear hNe hPe hEe hFe hr
    have e1 : IntKind.i64.wrap (N : Int) = (N : Int) := IntWalk.i64_in _ (by omega)
    go_enter Tryd.func68, Tryd.ntmps68
    go_wp2_with (first
      | (go_at_call 77; refine (isSize_any _ _).mono ?_; (rintro e w2 ⟨rfl, rfl⟩; rw [HS.out]))
      | (go_at_call 83; refine z.mono ?_; (rintro e w2 ⟨rfl, hbel⟩; unfold flt)))
    have hb0 := hbel.block w.heap.size (by simp)
    rw [heap_alloc_new] at hb0
    have hlt : w.heap.size < w2.heap.size := by have := hbel.size; simp at this; omega
    have hB3 : Below w.heap.size w (w2.alloc (.cells #[.int .i64 E, .int .i64 F] 111)) := (((Below.refl _ _).alloc (Nat.le_refl _) _).trans (hbel.mono (by simp))).alloc (by omega) _
    have hb1 : (w2.alloc (.cells #[.int .i64 E, .int .i64 F] 111)).heap[w.heap.size]? = some (.cells #[.int .i64 0, .int .i64 0] 111) := (((Below.refl w2.heap.size w2).alloc (Nat.le_refl _) _).block _ hlt).trans hb0
    have hb2 : (w2.alloc (.cells #[.int .i64 E, .int .i64 F] 111)).heap[w2.heap.size]? = some (.cells #[.int .i64 E, .int .i64 F] 111) := heap_alloc_new _ _
    obtain ⟨g, hg⟩ : ∃ g, g = w2.heap.size := ⟨_, rfl⟩
    obtain ⟨w3, hw3⟩ : ∃ x, x = w2.alloc (.cells #[.int .i64 E, .int .i64 F] 111) := ⟨_, rfl⟩
    obtain ⟨q, hq⟩ : ∃ q, q = w.heap.size := ⟨_, rfl⟩
    rw [← hg, ← hw3] at hb2 ⊢
    rw [← hw3, ← hq] at hb1
    rw [← hw3] at hB3
    rw [← hq, ← hg] at hlt
    rw [← hq]
    have c0 : w3.cell? ⟨g, 0, none⟩ = some (.int .i64 E) := by simp [World.cell?, hb2]
    have c1 : w3.cell? ⟨g, 1, none⟩ = some (.int .i64 F) := by simp [World.cell?, hb2]
    have d0 : w3.cell? ⟨q, 0, none⟩ = some (.int .i64 0) := by simp [World.cell?, hb1]
    have d1 : w3.cell? ⟨q, 1, none⟩ = some (.int .i64 0) := by simp [World.cell?, hb1]
    have f0 : w3.frozen? ⟨q, 0, none⟩ = false := by simp [World.frozen?, hb1]
    have f1 : w3.frozen? ⟨q, 1, none⟩ = false := by simp [World.frozen?, hb1]
    have HQ := Lib.hid (And.intro hq hB3)
    clear z hb0 hb1 hb2 hbel hw3 hg hq hB3
    go_region
    go_wp2
    refine bodyPost_ret (v := .tuple #[.int .i64 (N : Int), .int .i64 P, flt E F]) (by simp [results, Tryd.results68, flt, go_sem, d0, d1]) rfl ⟨rfl, ?_⟩
    obtain ⟨hq, hB3⟩ := HQ.out
    exact ((hB3.setCell (Nat.le_of_eq hq.symm) _).setCell (Nat.le_of_eq hq.symm) _).drew
  | false =>
    have HS := Lib.hid h
    simp only [Bool.false_eq_true, if_false]
    clear h
    go_enter Tryd.func68, Tryd.ntmps68
    go_wp2_with (go_at_call 77; refine (isSize_any s _).mono ?_; (rintro e w2 ⟨rfl, rfl⟩; rw [HS.out]))
    refine bodyPost_ret (v := .tuple #[.int .i64 0, .int .i64 0, flt 2 0]) (by simp [results, Tryd.results68, flt, go_sem]) rfl ⟨rfl, (Below.refl _ _).alloc (Nat.le_refl _) _⟩
theorem getWord_any (A : Option Addr) (l : List UInt8) (c : Nat) (at_ : Int) (w : World) (hlc : l.length ≤ c) (hc : l.length ≤ 140737488351232) (hr : BytesAt w w.heap.size A l) :
    Calls Tryd.prog 86 #[.slice A l.length c, .int .i64 at_] w fun e w' => e = .returned (.tuple #[.int .u32 (getN l at_ 4 : Int), .int .i64 (getP l.length at_ 4), flt (getE l.length at_ 4) (getA l.length at_ 4)]) ∧ Below w.heap.size w w' := by
  have z := read32_any A l c at_ 4 (w.alloc (.cells #[.int .i64 0, .int .i64 0] 111)) hlc hc ((hr.alloc (Nat.le_refl _) _).more (by simp)) (by omega)
  obtain ⟨N, hNe⟩ : ∃ x, x = getN l at_ 4 := ⟨_, rfl⟩
  obtain ⟨P, hPe⟩ : ∃ x, x = getP l.length at_ 4 := ⟨_, rfl⟩
  obtain ⟨E, hEe⟩ : ∃ x, x = getE l.length at_ 4 := ⟨_, rfl⟩
  obtain ⟨F, hFe⟩ : ∃ x, x = getA l.length at_ 4 := ⟨_, rfl⟩
  rw [← hNe, ← hPe, ← hEe, ← hFe] at z ⊢
  clear hNe hPe hEe hFe hr
  have key : ∀ w2, Below (w.alloc (.cells #[.int .i64 0, .int .i64 0] 111)).heap.size (w.alloc (.cells #[.int .i64 0, .int .i64 0] 111)) w2 →
      (w2.cell? ⟨w.heap.size, 0, none⟩ = some (.int .i64 0) ∧ w2.cell? ⟨w.heap.size, 1, none⟩ = some (.int .i64 0) ∧ w2.frozen? ⟨w.heap.size, 0, none⟩ = false ∧ w2.frozen? ⟨w.heap.size, 1, none⟩ = false) ∧
      Below w.heap.size w ((w2.setCell ⟨w.heap.size, 0, none⟩ (.int .i64 E)).setCell ⟨w.heap.size, 1, none⟩ (.int .i64 F)) := fun w2 hbel => by
    have hb0 := hbel.block w.heap.size (by simp)
    rw [heap_alloc_new] at hb0
    refine ⟨⟨by simp [World.cell?, hb0], by simp [World.cell?, hb0], by simp [World.frozen?, hb0], by simp [World.frozen?, hb0]⟩, ?_⟩
    exact ((((Below.refl _ _).alloc (Nat.le_refl _) _).trans (hbel.mono (by simp))).setCell (Nat.le_refl _) _).setCell (Nat.le_refl _) _
  go_enter Tryd.func86, Tryd.ntmps86
  go_wp2_with (go_at_call 88; refine z.mono ?_; (rintro e w2 ⟨rfl, hbel⟩; unfold flt; obtain ⟨⟨d0, d1, f0, f1⟩, hB⟩ := key w2 hbel; clear hbel))
  refine bodyPost_ret (v := .tuple #[.int .u32 (N : Int), .int .i64 P, flt E F]) (by simp [results, Tryd.results86, flt, go_sem, d0, d1]) rfl ⟨rfl, hB⟩
theorem getLong_any (A : Option Addr) (l : List UInt8) (c : Nat) (at_ : Int) (w : World) (hlc : l.length ≤ c) (hc : l.length ≤ 140737488351232) (hr : BytesAt w w.heap.size A l) :
    Calls Tryd.prog 69 #[.slice A l.length c, .int .i64 at_] w fun e w' => e = .returned (.tuple #[.int .u64 (getN l at_ 8 : Int), .int .i64 (getP l.length at_ 8), flt (getE l.length at_ 8) (getA l.length at_ 8)]) ∧ Below w.heap.size w w' := by
  have z := read64_any A l c at_ 8 (w.alloc (.cells #[.int .i64 0, .int .i64 0] 111)) hlc hc ((hr.alloc (Nat.le_refl _) _).more (by simp)) (by omega)
  obtain ⟨N, hNe⟩ : ∃ x, x = getN l at_ 8 := ⟨_, rfl⟩
  obtain ⟨P, hPe⟩ : ∃ x, x = getP l.length at_ 8 := ⟨_, rfl⟩
  obtain ⟨E, hEe⟩ : ∃ x, x = getE l.length at_ 8 := ⟨_, rfl⟩
  obtain ⟨F, hFe⟩ : ∃ x, x = getA l.length at_ 8 := ⟨_, rfl⟩
  rw [← hNe, ← hPe, ← hEe, ← hFe] at z ⊢
  clear hNe hPe hEe hFe hr
  have key : ∀ w2, Below (w.alloc (.cells #[.int .i64 0, .int .i64 0] 111)).heap.size (w.alloc (.cells #[.int .i64 0, .int .i64 0] 111)) w2 →
      (w2.cell? ⟨w.heap.size, 0, none⟩ = some (.int .i64 0) ∧ w2.cell? ⟨w.heap.size, 1, none⟩ = some (.int .i64 0) ∧ w2.frozen? ⟨w.heap.size, 0, none⟩ = false ∧ w2.frozen? ⟨w.heap.size, 1, none⟩ = false) ∧
      Below w.heap.size w ((w2.setCell ⟨w.heap.size, 0, none⟩ (.int .i64 E)).setCell ⟨w.heap.size, 1, none⟩ (.int .i64 F)) := fun w2 hbel => by
    have hb0 := hbel.block w.heap.size (by simp)
    rw [heap_alloc_new] at hb0
    refine ⟨⟨by simp [World.cell?, hb0], by simp [World.cell?, hb0], by simp [World.frozen?, hb0], by simp [World.frozen?, hb0]⟩, ?_⟩
    exact ((((Below.refl _ _).alloc (Nat.le_refl _) _).trans (hbel.mono (by simp))).setCell (Nat.le_refl _) _).setCell (Nat.le_refl _) _
  go_enter Tryd.func69, Tryd.ntmps69
  go_wp2_with (go_at_call 83; refine z.mono ?_; (rintro e w2 ⟨rfl, hbel⟩; unfold flt; obtain ⟨⟨d0, d1, f0, f1⟩, hB⟩ := key w2 hbel; clear hbel))
  refine bodyPost_ret (v := .tuple #[.int .u64 (N : Int), .int .i64 P, flt E F]) (by simp [results, Tryd.results69, flt, go_sem, d0, d1]) rfl ⟨rfl, hB⟩
end Go.Proofs.YtfopjilncfndnaaDoor
