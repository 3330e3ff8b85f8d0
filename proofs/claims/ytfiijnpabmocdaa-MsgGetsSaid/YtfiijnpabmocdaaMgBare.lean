/-
  msg.isBare: whether a message has nothing beside its kind and its node. Conditions: its numbers are ints.
-/
import Derived.Test.YtfiijnpabmocdaaMgCar
import Derived.Laws.StructEq
import Derived.Laws.BitsAllLaws
import Derived.BigQuiet
namespace Go.Proofs.Ytfiijnpabmocdaa
open Go.RowKit Mg

def is64 (x : Int) : Prop := -9223372036854775808 ≤ x ∧ x ≤ 9223372036854775807
/-- its numbers are ints -/
def Mg.Wf (m : M) : Prop := is64 m.kind ∧ is64 m.src ∧ is64 m.term ∧ is64 m.seq ∧ is64 m.stamp ∧ is64 m.block ∧ is64 m.rt ∧ is64 m.rn ∧ is64 m.rs ∧ m.bits < 18446744073709551616
theorem or_is64 (x y : Int) : is64 (bits .or .i64 x y) := by
  unfold bits is64
  rw [IntKind.wrap_i64]
  omega
theorem ofInt_zero {x : Int} (h : is64 x) : BitVec.ofInt 64 x = 0#64 ↔ x = 0 := by
  unfold is64 at h
  constructor
  · intro e
    have := congrArg BitVec.toNat e
    simp [BitVec.toNat_ofInt] at this
    omega
  · rintro rfl; rfl
theorem or_zero {x y : Int} (hx : is64 x) (hy : is64 y) : bits .or .i64 x y = 0 ↔ x = 0 ∧ y = 0 := by
  rw [← ofInt_zero hx, ← ofInt_zero hy, ← BitVec.or_eq_zero_iff]
  unfold bits
  show IntKind.i64.wrap ((BitVec.ofInt 64 x ||| BitVec.ofInt 64 y).toNat : Int) = 0 ↔ _
  generalize BitVec.ofInt 64 x ||| BitVec.ofInt 64 y = z
  have hz := z.isLt
  rw [IntKind.wrap_i64]
  constructor
  · intro e
    have h0 : z.toNat = 0 := by omega
    exact BitVec.eq_of_toNat_eq (by rw [h0]; rfl)
  · intro e
    have h0 : z.toNat = 0 := by rw [e]; rfl
    rw [h0]
    omega
theorem or4 {a b c d : Int} (ha : is64 a) (hb : is64 b) (hc : is64 c) (hd : is64 d) : (bits .or .i64 (bits .or .i64 (bits .or .i64 a b) c) d == 0) = (a == 0 && b == 0 && c == 0 && d == 0) := by
  rw [Bool.eq_iff_iff]
  simp only [beq_iff_eq, Bool.and_eq_true]
  rw [or_zero (or_is64 _ _) hd, or_zero (or_is64 _ _) hc, or_zero ha hb]
theorem eqRec (a b c : Int) (w : World) : (Op.equalIn 10000 23 (.agg #[.int .i64 a, .int .i64 b, .int .i64 c]) (.agg #[.int .i64 0, .int .i64 0, .int .i64 0])).run Try.prog w = .ok (a == 0 && (b == 0 && c == 0)) w := by
  obtain ⟨q, hq⟩ : ∃ q, q = (a == 0 && (b == 0 && c == 0)) := ⟨_, rfl⟩
  have HQ := Lib.hid hq
  rw [← hq]
  clear hq
  go_simp
  rw [HQ.out]
  by_cases h1 : a = 0 <;> by_cases h2 : b = 0 <;> by_cases h3 : c = 0 <;> simp [h1, h2, h3]
set_option maxRecDepth 100000 in
set_option maxHeartbeats 1000000 in
theorem isBare_any (m : M) (A : Option Addr) (c : Nat) (hwf : Wf m) (w : World) : Calls Try.prog 20 #[.agg (mCells m (.slice A m.data.length c)).toArray] w fun e w' => e = .returned (.bool (bare m)) ∧ Below w.heap.size w w' := by
  obtain ⟨_, _, w1, w2, w3, w4, w5, w6, w7, w8⟩ := hwf
  obtain ⟨ov, hov⟩ : ∃ x, x = bits .or .i64 (bits .or .i64 (bits .or .i64 m.term m.seq) m.stamp) m.block := ⟨_, rfl⟩
  have ho := or4 w1 w2 w3 w4
  obtain ⟨b1, hb1⟩ : ∃ x, x = (m.term == 0 && m.seq == 0 && m.stamp == 0 && m.block == 0) := ⟨_, rfl⟩
  rw [← hb1] at ho
  obtain ⟨b3, hb3⟩ : ∃ x, x = (m.rt == 0 && (m.rn == 0 && m.rs == 0)) := ⟨_, rfl⟩
  have E := fun w => eqRec m.rt m.rn m.rs w
  rw [← hb3] at E
  obtain ⟨b4, hb4⟩ : ∃ x, x = ((m.bits : Int) == 0) := ⟨_, rfl⟩
  obtain ⟨b5, hb5⟩ : ∃ x, x = ((m.data.length : Int) == 0) := ⟨_, rfl⟩
  have hbb : bare m = (b1 && !m.ok && b3 && b4 && b5) := by
    rw [hb1, hb3, hb4, hb5]
    have e1 : ((m.bits : Int) == 0) = (m.bits == 0) := by rw [Bool.eq_iff_iff]; simp
    have e2 : ((m.data.length : Int) == 0) = (m.data.length == 0) := by rw [Bool.eq_iff_iff]; simp
    rw [e1, e2]
    simp only [bare, Bool.and_assoc]
  rw [hbb]
  have hB : Below w.heap.size w (w.alloc (.cells (mCells m (.slice A m.data.length c)).toArray 27)) := (Below.refl _ w).alloc (Nat.le_refl _) _
  have HB := Lib.hid hB
  obtain ⟨ok, hok⟩ : ∃ x, x = m.ok := ⟨_, rfl⟩
  have hb4' := hb4.symm
  have hb5' := hb5.symm
  unfold mCells at HB ⊢
  rw [← hok] at HB ⊢
  clear hb1 hb3 hb4 hb5 hbb hB hov hok w1 w2 w3 w4 w5 w6 w7 w8
  have key : ∀ b1 ok b3 b4 b5 : Bool, b1 = false ∨ (b1 = true ∧ ok = true) ∨ (b1 = true ∧ ok = false ∧ b3 = false) ∨ (b1 = true ∧ ok = false ∧ b3 = true ∧ b4 = false) ∨ (b1 = true ∧ ok = false ∧ b3 = true ∧ b4 = true ∧ b5 = false) ∨ (b1 = true ∧ ok = false ∧ b3 = true ∧ b4 = true ∧ b5 = true) := by decide
  rcases key b1 ok b3 b4 b5 with rfl | ⟨rfl, rfl⟩ | ⟨rfl, rfl, rfl⟩ | ⟨rfl, rfl, rfl, rfl⟩ | ⟨rfl, rfl, rfl, rfl, rfl⟩ | ⟨rfl, rfl, rfl, rfl, rfl⟩
  all_goals
    clear key
    go_enter Try.func20, Try.ntmps20
    go_wp2
    go_ret
    exact ⟨by simp, HB.out⟩
end Go.Proofs.Ytfiijnpabmocdaa
