/-
  fixed.read, at both widths: what it returns. Conditions: the bytes can be read.
-/
import Derived.Test.YtebicjblplkdeaaFixWalk
import Derived.Laws.ResultCell
namespace Go.Proofs.Ytebicjblplkdeaa
open Go.RowKit Fix

/-- a fault -/
def flt (e a : Int) : Value := .agg #[.int .i64 e, .int .i64 a]
/-- is the place one of the bytes' -/
def inR (n : Nat) (at_ : Int) : Bool := decide (0 ≤ at_) && decide (at_ ≤ (n : Int))
/-- are there as many bytes -/
def inN (n : Nat) (at_ s : Int) : Bool := inR n at_ && decide (s ≤ (n : Int) - at_)

theorem run_cut_both {P : Program} {t : TypeId} (ht : P.underlying t = some (.slice (P.elem t))) (hs : ∀ w, (sizeOf (P.elem t)).run P w = .ok 1 w) (A : Option Addr) (n c i j : Nat) (h : i + j ≤ c) (W : World) :
    (Instr.slice t (.slice A n c) (some (.int .i64 (i : Int))) (some (.int .i64 ((i : Int) + (j : Int)))) none).run P W = .ok (.slice (cutA A i c) j (c - i)) W := by
  rw [run_slice_lh W t A n c ht .i64 .i64 (i : Int) ((i : Int) + (j : Int)) (by omega) (by omega) (by omega), hs]
  have e : ((i : Int) + (j : Int)).toNat = i + j := by omega
  simp only [Result.andThen, sliced, Int.toNat_natCast, Nat.mul_one, cutA, e]
  congr 2
  omega
theorem cut_both (A : Option Addr) (n c i j : Nat) (h : i + j ≤ c) (W : World) : (Instr.slice 26 (.slice A n c) (some (.int .i64 (i : Int))) (some (.int .i64 ((i : Int) + (j : Int)))) none).run Try.prog W = .ok (.slice (cutA A i c) j (c - i)) W := run_cut_both elemBytes sizeBytes A n c i j h W

/-- what Get tells: the number, where it ends, the fault -/
def getN (l : List UInt8) (at_ : Int) (s : Nat) : Nat := if inN l.length at_ s = true then le ((l.drop at_.toNat).take s) else 0
def getP (n : Nat) (at_ : Int) (s : Nat) : Int := if inN n at_ s = true then at_ + s else 0
def getE (n : Nat) (at_ : Int) (s : Nat) : Int := if inR n at_ = true then (if inN n at_ s = true then 0 else 4) else 5
def getA (n : Nat) (at_ : Int) (s : Nat) : Int := if inR n at_ = true then (if inN n at_ s = true then 0 else n) else 0
theorem getN_lt (l : List UInt8) (at_ : Int) (s : Nat) : getN l at_ s < 256 ^ s := by
  unfold getN
  split
  · have h := le_lt ((l.drop at_.toNat).take s)
    exact Nat.lt_of_lt_of_le h (Nat.pow_le_pow_right (by decide) (by rw [List.length_take]; exact Nat.min_le_left _ _))
  · exact Nat.pow_pos (by decide)
theorem inN_iff (n : Nat) (at_ : Int) (s : Nat) : inN n at_ s = true ↔ 0 ≤ at_ ∧ at_ ≤ n ∧ (s : Int) ≤ (n : Int) - at_ := by
  unfold inN inR; simp; omega
theorem inR_iff (n : Nat) (at_ : Int) : inR n at_ = true ↔ 0 ≤ at_ ∧ at_ ≤ n := by unfold inR; simp
theorem pow_int (k : Nat) : (2 : Int) ^ (8 * k) = ((256 ^ k : Nat) : Int) := by rw [pow256, Int.natCast_pow]; rfl
theorem room (k n x : Nat) (hk : k < n) (hx : x < 256) : x * 256 ^ k < 256 ^ n := by
  have h1 : x * 256 ^ k < 256 * 256 ^ k := Nat.mul_lt_mul_of_pos_right hx (Nat.pow_pos (by decide))
  have h2 : 256 ^ (k + 1) ≤ 256 ^ n := Nat.pow_le_pow_right (by decide) hk
  rw [Nat.pow_succ, Nat.mul_comm] at h2
  omega
theorem read64_place (A : Option Addr) (l : List UInt8) (c : Nat) (at_ : Int) (s : Nat) (w : World) (h : inR l.length at_ = false) :
    Calls Try.prog 33 #[.slice A l.length c, .int .i64 at_, .int .i64 (s : Int)] w fun e w' => e = .returned (.tuple #[.int .u64 0, .int .i64 0, flt 5 0]) ∧ Below w.heap.size w w' := by
  unfold inR at h
  by_cases h0 : at_ < 0
  · clear h
    go_enter Try.func33, Try.ntmps33
    go_wp2
    refine bodyPost_ret (v := .tuple #[.int .u64 0, .int .i64 0, flt 5 0]) (by simp [results, Try.results33, flt, go_sem]) rfl ⟨rfl, (Below.refl _ _).alloc (Nat.le_refl _) _⟩
  · have h1 : (l.length : Int) < at_ := by simp at h; omega
    clear h
    go_enter Try.func33, Try.ntmps33
    go_wp2
    refine bodyPost_ret (v := .tuple #[.int .u64 0, .int .i64 0, flt 5 0]) (by simp [results, Try.results33, flt, go_sem]) rfl ⟨rfl, (Below.refl _ _).alloc (Nat.le_refl _) _⟩
theorem read64_short (A : Option Addr) (l : List UInt8) (c : Nat) (at_ : Int) (s : Nat) (w : World) (hc : l.length ≤ 140737488351232) (h : inR l.length at_ = true) (h2 : (l.length : Int) - at_ < s) :
    Calls Try.prog 33 #[.slice A l.length c, .int .i64 at_, .int .i64 (s : Int)] w fun e w' => e = .returned (.tuple #[.int .u64 0, .int .i64 0, flt 4 l.length]) ∧ Below w.heap.size w w' := by
  have h0 : 0 ≤ at_ := by simp [inR] at h; omega
  have h1 : at_ ≤ (l.length : Int) := by simp [inR] at h; omega
  have g0 : ¬ at_ < 0 := by omega
  have g1 : ¬ (l.length : Int) < at_ := by omega
  clear h
  go_enter Try.func33, Try.ntmps33
  go_wp2
  refine bodyPost_ret (v := .tuple #[.int .u64 0, .int .i64 0, flt 4 l.length]) (by simp [results, Try.results33, flt, go_sem]) rfl ⟨rfl, (Below.refl _ _).alloc (Nat.le_refl _) _⟩

theorem or64 (m : List UInt8) (k : Nat) (hk : k < 8) (hm : k < m.length) :
    bits .or .u64 (le (m.take k) : Int) (IntKind.u64.wrap (IntKind.u64.wrap ((m[k]?.getD 0).toNat : Int) * 2 ^ (8 * k))) = (le (m.take (k + 1)) : Int) := by
  have hx := (m[k]?.getD 0).toNat_lt
  have h1 := room k 8 _ hk hx
  have h2 : le (m.take k) < 256 ^ k := le_take_lt m k (by omega)
  have h3 : 256 ^ k ≤ 256 ^ 8 := Nat.pow_le_pow_right (by decide) (by omega)
  have e : le (m.take (k + 1)) = le (m.take k) + 256 ^ k * (m[k]?.getD 0).toNat := by rw [le_take m k hm, List.getD_eq_getElem?_getD]
  rw [e, ← or_step _ _ _ h2, ← pow256]
  generalize (m[k]?.getD 0).toNat = x at hx h1 ⊢
  have e1 : IntKind.u64.wrap (x : Int) = (x : Int) := by rw [IntKind.wrap_u64]; omega
  rw [e1, pow_int, ← Int.natCast_mul]
  have e2 : IntKind.u64.wrap ((x * 256 ^ k : Nat) : Int) = ((x * 256 ^ k : Nat) : Int) := by rw [IntKind.wrap_u64]; omega
  rw [e2]
  exact u64_or_nat _ _ (by omega) (by omega)
theorem read64_good (A : Option Addr) (l : List UInt8) (c : Nat) (a s : Nat) (w : World) (hlc : l.length ≤ c) (hc : l.length ≤ 140737488351232) (hr : BytesAt w w.heap.size A l) (hs : s ≤ 8) (h : a + s ≤ l.length) :
    Calls Try.prog 33 #[.slice A l.length c, .int .i64 (a : Int), .int .i64 (s : Int)] w fun e w' => e = .returned (.tuple #[.int .u64 (le ((l.drop a).take s) : Int), .int .i64 ((a : Int) + s), flt 0 0]) ∧ Below w.heap.size w w' := by
  have g1 : ¬ (l.length : Int) < (a : Int) := by omega
  have g2 : ¬ (l.length : Int) - (a : Int) < (s : Int) := by omega
  have g3 : (a : Int) ≤ (l.length : Int) := by omega
  have g4 : (s : Int) ≤ (l.length : Int) - (a : Int) := by omega
  have q1 := cut_both A l.length c a s (by omega)
  obtain ⟨m, hm⟩ : ∃ m, m = (l.drop a).take s := ⟨_, rfl⟩
  have hml : m.length = s := by rw [hm]; simp; omega
  have hm2 := (hr.drop a c hlc).take s
  rw [← hm] at hm2 ⊢
  have HM := Lib.hid (And.intro (hm2.alloc (Nat.le_refl _) (.cells #[.int .i64 0, .int .i64 0] 50)) hml)
  clear hm2 hml hm
  go_enter Try.func33, Try.ntmps33
  go_wp2
  clear q1
  go_loop [9, 37] (fun r i => ∃ k : Nat, k ≤ s ∧ i = .int .i64 (k : Int) ∧ r = .int .u64 (le (m.take k) : Int)) (fun _ i => s - (intOf i).toNat)
  case atStart => exact ⟨0, Nat.zero_le _, rfl, rfl⟩
  case round =>
    obtain ⟨k, hk, rfl, rfl⟩ := hrel
    by_cases hks : k < s
    · obtain ⟨ad, hA, _, hcell⟩ := HM.out.1 (by intro e; have := HM.out.2; rw [e] at this; simp at this; omega)
      have hx := hcell k (by rw [HM.out.2]; exact hks)
      rw [hA]
      clear hcell
      go_wp2
      go_round
      case rel => exact ⟨k + 1, by omega, by go_num, congrArg _ (or64 m k (by omega) (by rw [HM.out.2]; exact hks))⟩
      case measure => simp [intOf]; omega
    · obtain rfl : k = s := by omega
      have e : m.take k = m := List.take_of_length_le (by rw [HM.out.2]; exact Nat.le_refl _)
      rw [e]
      clear e
      go_wp2
      refine bodyPost_ret (v := .tuple #[.int .u64 (le m : Int), .int .i64 ((a : Int) + k), flt 0 0]) (by simp [results, Try.results33, flt, go_sem]) rfl ⟨rfl, (Below.refl _ _).alloc (Nat.le_refl _) _⟩
theorem read64_any (A : Option Addr) (l : List UInt8) (c : Nat) (at_ : Int) (s : Nat) (w : World) (hlc : l.length ≤ c) (hc : l.length ≤ 140737488351232) (hr : BytesAt w w.heap.size A l) (hs : s ≤ 8) :
    Calls Try.prog 33 #[.slice A l.length c, .int .i64 at_, .int .i64 (s : Int)] w fun e w' => e = .returned (.tuple #[.int .u64 (getN l at_ s : Int), .int .i64 (getP l.length at_ s), flt (getE l.length at_ s) (getA l.length at_ s)]) ∧ Below w.heap.size w w' := by
  unfold getN getP getE getA
  by_cases h : inR l.length at_ = true
  · by_cases h2 : inN l.length at_ s = true
    · simp only [if_pos h, if_pos h2]
      rw [inN_iff] at h2
      obtain ⟨a, rfl⟩ : ∃ a : Nat, at_ = (a : Int) := ⟨at_.toNat, by omega⟩
      exact read64_good A l c a s w hlc hc hr hs (by omega)
    · simp only [if_pos h, if_neg h2]
      rw [inN_iff] at h2
      exact read64_short A l c at_ s w hc h (by rw [inR_iff] at h; omega)
  · have h2 : ¬ inN l.length at_ s = true := by rw [inN_iff]; rw [inR_iff] at h; omega
    simp only [if_neg h, if_neg h2]
    exact read64_place A l c at_ s w (by simpa using h)
theorem or32 (m : List UInt8) (k : Nat) (hk : k < 4) (hm : k < m.length) :
    bits .or .u32 (le (m.take k) : Int) (IntKind.u32.wrap (IntKind.u32.wrap ((m[k]?.getD 0).toNat : Int) * 2 ^ (8 * k))) = (le (m.take (k + 1)) : Int) := by
  have hx := (m[k]?.getD 0).toNat_lt
  have h1 := room k 4 _ hk hx
  have h2 : le (m.take k) < 256 ^ k := le_take_lt m k (by omega)
  have h3 : 256 ^ k ≤ 256 ^ 4 := Nat.pow_le_pow_right (by decide) (by omega)
  have e : le (m.take (k + 1)) = le (m.take k) + 256 ^ k * (m[k]?.getD 0).toNat := by rw [le_take m k hm, List.getD_eq_getElem?_getD]
  rw [e, ← or_step _ _ _ h2, ← pow256]
  generalize (m[k]?.getD 0).toNat = x at hx h1 ⊢
  have e1 : IntKind.u32.wrap (x : Int) = (x : Int) := by rw [IntKind.wrap_u32']; omega
  rw [e1, pow_int, ← Int.natCast_mul]
  have e2 : IntKind.u32.wrap ((x * 256 ^ k : Nat) : Int) = ((x * 256 ^ k : Nat) : Int) := by rw [IntKind.wrap_u32']; omega
  rw [e2]
  exact u32_or_nat _ _ (by omega) (by omega)
end Go.Proofs.Ytebicjblplkdeaa
