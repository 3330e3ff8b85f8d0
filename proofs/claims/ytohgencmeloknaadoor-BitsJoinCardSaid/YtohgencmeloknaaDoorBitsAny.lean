/-
  Package bits and the document's answers, each by ONE contract, at whatever input. Conditions: sets are words of 64 bits; the library's table lies as its text lays it.
-/
import Derived.Test.YtohgencmeloknaaDoorBitsRef
import Derived.Test.YtohgencmeloknaaDoorBitsAwake
namespace Go.Proofs.YtohgencmeloknaaDoor
open Go.RowKit Bits

def errN (b : Int) : Int := if okb b then 0 else 5
def putN (s : Nat) (b : Int) : Nat := if okb b then s ||| 2 ^ b.toNat else 0
def cutN (s : Nat) (b : Int) : Nat := if okb b then s &&& (full - 2 ^ b.toNat) else 0
def hasB (s : Nat) (b : Int) : Bool := okb b && s.testBit b.toNat
def firstN (s : Nat) (f : Int) : Nat := if rest s (lo f) = 0 then 0 else low (rest s (lo f))
def firstB (s : Nat) (f : Int) : Bool := rest s (lo f) != 0
def allE (n : Int) : Int := if 0 ≤ n ∧ n ≤ 64 then 0 else 5
def allN (n : Int) : Nat := if 0 ≤ n ∧ n ≤ 64 then ones (lo n) else 0
def ofE (l : List Int) : Int := if ∀ b ∈ l, okb b = true then 0 else 5
def ofN (l : List Int) : Nat := if ∀ b ∈ l, okb b = true then ofl l else 0

section
variable (s : Nat) (hs : s < 2 ^ 64) (b : Int) (w : World)
include hs
theorem put_any : Calls Tryd.prog 8 #[.int .u64 (s : Int), .int .i64 b] w fun e w' => e = .returned (.tuple #[.int .u64 (putN s b : Int), .int .i64 (errN b)]) ∧ w = w' := by
  unfold putN errN
  by_cases h : okb b = true
  · obtain ⟨k, rfl⟩ : ∃ k : Nat, b = (k : Int) := ⟨b.toNat, by rw [okb_iff] at h; omega⟩
    rw [if_pos h, if_pos h]
    exact put_in s k hs (by rw [okb_iff] at h; omega) w
  · rw [if_neg h, if_neg h]
    exact put_out s b (by rw [okb_iff] at h; omega) w
theorem refPut_any : Calls Tryd.prog 9 #[.int .u64 (s : Int), .int .i64 b] w fun e w' => e = .returned (.tuple #[.int .u64 (putN s b : Int), .int .i64 (errN b)]) ∧ w = w' := by
  unfold putN errN
  by_cases h : okb b = true
  · obtain ⟨k, rfl⟩ : ∃ k : Nat, b = (k : Int) := ⟨b.toNat, by rw [okb_iff] at h; omega⟩
    rw [if_pos h, if_pos h]
    exact refPut_in s k hs (by rw [okb_iff] at h; omega) w
  · rw [if_neg h, if_neg h]
    exact refPut_out s b (by rw [okb_iff] at h; omega) w
theorem cut_any : Calls Tryd.prog 10 #[.int .u64 (s : Int), .int .i64 b] w fun e w' => e = .returned (.tuple #[.int .u64 (cutN s b : Int), .int .i64 (errN b)]) ∧ w = w' := by
  unfold cutN errN
  by_cases h : okb b = true
  · obtain ⟨k, rfl⟩ : ∃ k : Nat, b = (k : Int) := ⟨b.toNat, by rw [okb_iff] at h; omega⟩
    rw [if_pos h, if_pos h]
    exact cut_in s k hs (by rw [okb_iff] at h; omega) w
  · rw [if_neg h, if_neg h]
    exact cut_out s b (by rw [okb_iff] at h; omega) w
theorem refCut_any : Calls Tryd.prog 11 #[.int .u64 (s : Int), .int .i64 b] w fun e w' => e = .returned (.tuple #[.int .u64 (cutN s b : Int), .int .i64 (errN b)]) ∧ w = w' := by
  unfold cutN errN
  by_cases h : okb b = true
  · obtain ⟨k, rfl⟩ : ∃ k : Nat, b = (k : Int) := ⟨b.toNat, by rw [okb_iff] at h; omega⟩
    rw [if_pos h, if_pos h]
    exact refCut_in s k hs (by rw [okb_iff] at h; omega) w
  · rw [if_neg h, if_neg h]
    exact refCut_out s b (by rw [okb_iff] at h; omega) w
theorem has_any : Calls Tryd.prog 18 #[.int .u64 (s : Int), .int .i64 b] w fun e w' => e = .returned (.bool (hasB s b)) ∧ w = w' := by
  unfold hasB
  by_cases h : okb b = true
  · obtain ⟨k, rfl⟩ : ∃ k : Nat, b = (k : Int) := ⟨b.toNat, by rw [okb_iff] at h; omega⟩
    rw [h]
    exact has_in s k hs (by rw [okb_iff] at h; omega) w
  · have h' : okb b = false := by simpa using h
    rw [h']
    exact has_out s b (by rw [okb_iff] at h; omega) w
omit hs in
theorem refHas_any : Calls Tryd.prog 19 #[.int .u64 (s : Int), .int .i64 b] w fun e w' => e = .returned (.bool (hasB s b)) ∧ w = w' := by
  unfold hasB
  by_cases h : okb b = true
  · obtain ⟨k, rfl⟩ : ∃ k : Nat, b = (k : Int) := ⟨b.toNat, by rw [okb_iff] at h; omega⟩
    rw [h]
    exact refHas_in s k (by rw [okb_iff] at h; omega) w
  · have h' : okb b = false := by simpa using h
    rw [h']
    exact refHas_out s b (by rw [okb_iff] at h; omega) w
theorem first_any (ht : TzAt w) : Calls Tryd.prog 12 #[.int .u64 (s : Int), .int .i64 b] w fun e w' => e = .returned (.tuple #[.int .i64 (firstN s b : Int), .bool (firstB s b)]) ∧ w = w' := by
  unfold firstN firstB
  by_cases h : rest s (lo b) = 0
  · rw [if_pos h, h]
    exact first_none s b hs h w
  · rw [if_neg h, show (rest s (lo b) != 0) = true by simpa using h]
    exact first_some s b hs h w ht
theorem refFirst_any : Calls Tryd.prog 13 #[.int .u64 (s : Int), .int .i64 b] w fun e w' => e = .returned (.tuple #[.int .i64 (firstN s b : Int), .bool (firstB s b)]) ∧ Below w.heap.size w w' := by
  unfold firstN firstB
  by_cases h : rest s (lo b) = 0
  · rw [if_pos h, h]
    exact refFirst_miss s b hs h w
  · rw [if_neg h, show (rest s (lo b) != 0) = true by simpa using h]
    exact refFirst_hit s b hs h w
end
theorem all_any (n : Int) (w : World) : Calls Tryd.prog 24 #[.int .i64 n] w fun e w' => e = .returned (.tuple #[.int .u64 (allN n : Int), .int .i64 (allE n)]) ∧ w = w' := by
  unfold allN allE
  by_cases h : 0 ≤ n ∧ n ≤ 64
  · rw [if_pos h, if_pos h]; exact all_in n h.1 h.2 w
  · rw [if_neg h, if_neg h]; exact all_out n (by omega) w
theorem refAll_any (n : Int) (w : World) : Calls Tryd.prog 25 #[.int .i64 n] w fun e w' => e = .returned (.tuple #[.int .u64 (allN n : Int), .int .i64 (allE n)]) ∧ w = w' := by
  unfold allN allE
  by_cases h : 0 ≤ n ∧ n ≤ 64
  · rw [if_pos h, if_pos h]; exact refAll_in n h.1 h.2 w
  · rw [if_neg h, if_neg h]; exact refAll_out n (by omega) w
theorem of_any (A : Option Addr) (l : List Int) (n c B : Nat) (hn : l.length = n) (w : World) (hm : l.length ≤ 1000000) (hr : RowAt w B A (iv l)) :
    Calls Tryd.prog 26 #[.slice A n c] w fun e w' => e = .returned (.tuple #[.int .u64 (ofN l : Int), .int .i64 (ofE l)]) ∧ w = w' := by
  unfold ofN ofE
  by_cases h : ∀ b ∈ l, okb b = true
  · rw [if_pos h, if_pos h]; exact of_good A l n c B hn w hm hr h
  · rw [if_neg h, if_neg h]; exact of_bad A l n c B hn w hm hr h
theorem refOf_any (A : Option Addr) (l : List Int) (n c B : Nat) (hn : l.length = n) (w : World) (hm : l.length ≤ 1000000) (hr : RowAt w B A (iv l)) :
    Calls Tryd.prog 27 #[.slice A n c] w fun e w' => e = .returned (.tuple #[.int .u64 (ofN l : Int), .int .i64 (ofE l)]) ∧ w = w' := by
  unfold ofN ofE
  by_cases h : ∀ b ∈ l, okb b = true
  · rw [if_pos h, if_pos h]; exact refOf_good A l n c B hn w hm hr h
  · rw [if_neg h, if_neg h]; exact refOf_bad A l n c B hn w hm hr h
end Go.Proofs.YtohgencmeloknaaDoor
