/-
  Package fixed: each call by ONE contract, at whatever input. Conditions: the bytes can be read.
-/
import Derived.Test.YtebicjblplkdeaaFixRead
namespace Go.Proofs.Ytebicjblplkdeaa
open Go.RowKit Fix

def isz (s : Int) : Bool := decide (1 ≤ s) && decide (s ≤ 7)
theorem isz_iff (s : Int) : isz s = true ↔ 1 ≤ s ∧ s ≤ 7 := by unfold isz; simp
/-- may n be put in so many bytes -/
def fitsB (n s : Int) : Bool := decide (0 ≤ n) && decide (n < 256 ^ s.toNat)
theorem fitsB_iff (n s : Int) : fitsB n s = true ↔ 0 ≤ n ∧ n < 256 ^ s.toNat := by unfold fitsB; simp
def putE (n s : Int) : Int := if isz s = true then (if fitsB n s = true then 0 else 5) else 2
def putB (n s : Int) : List UInt8 := if isz s = true then (if fitsB n s = true then dig n.toNat s.toNat else []) else []
def PutPost (n s : Int) (w : World) (e : Ending) (w' : World) : Prop :=
  ∃ A c, e = .returned (.tuple #[.slice A (putB n s).length c, .int .i64 (putE n s)]) ∧ (putB n s).length ≤ c ∧ BytesAt w' w'.heap.size A (putB n s) ∧ Below w.heap.size w w'

theorem isSize_any (s : Int) (w : World) : Calls Try.prog 30 #[.int .i64 s] w fun e w' => e = .returned (.bool (isz s)) ∧ w = w' := by
  unfold isz
  by_cases h : 1 ≤ s
  · go_enter Try.func30, Try.ntmps30
    go_wp2
    go_ret
    exact ⟨by simp [h], rfl⟩
  · go_enter Try.func30, Try.ntmps30
    go_wp2
    go_ret
    exact ⟨by rw [decide_eq_false (show ¬ 1 ≤ s by omega)]; rfl, rfl⟩
theorem pow_le7 (s : Nat) (h : s ≤ 7) : 256 ^ s ≤ 72057594037927936 := Nat.le_trans (Nat.pow_le_pow_right (by decide) h) (by decide)
theorem putBE_size (n s : Int) (h : isz s = false) : putB n s = [] ∧ putE n s = 2 := by simp [putB, putE, h]
theorem putBE_range (n s : Int) (h : isz s = true) (h2 : fitsB n s = false) : putB n s = [] ∧ putE n s = 5 := by simp [putB, putE, h, h2]
theorem putBE_good (n s : Int) (h : isz s = true) (h2 : fitsB n s = true) : putB n s = dig n.toNat s.toNat ∧ putE n s = 0 := by simp [putB, putE, h, h2]
/-- nothing is told but an error -/
theorem PutPost.none_ {n s : Int} {e : Int} (h : putB n s = [] ∧ putE n s = e) (w : World) : PutPost n s w (.returned (.tuple #[.slice none 0 0, .int .i64 e])) w :=
  ⟨none, 0, by rw [h.1, h.2]; rfl, by rw [h.1]; exact Nat.le_refl _, by rw [h.1]; exact bytes_nil, Below.refl _ _⟩
theorem shr_fits (m k : Nat) : ((m : Int) / 2 ^ (8 * k) != 0) = !fitsB (m : Int) (k : Int) := by
  have e : (m : Int) / 2 ^ (8 * k) = ((m / 256 ^ k : Nat) : Int) := by rw [pow256, Int.natCast_ediv, Int.natCast_pow]; rfl
  rw [e, Bool.eq_iff_iff, bne_iff_ne, Bool.not_eq_true', ← Bool.not_eq_true, fitsB_iff]
  have h1 : (((256 : Nat) ^ k : Nat) : Int) = (256 : Int) ^ k := by rw [Int.natCast_pow]; rfl
  rw [Int.toNat_natCast, ← h1]
  have h2 : m / 256 ^ k = 0 ↔ m < 256 ^ k := Nat.div_eq_zero_iff.trans (by have := Nat.pow_pos (a := 256) (n := k) (by decide); omega)
  omega
theorem put_any (n s : Int) (w : World) (hn2 : n ≤ 9223372036854775807) : Calls Try.prog 22 #[.int .i64 n, .int .i64 s] w (PutPost n s w) := by
  cases h : isz s with
  | true =>
    have HS := Lib.hid h
    rw [isz_iff] at h
    by_cases h0 : n < 0
    · have HP := Lib.hid (putBE_range n s HS.out (by rw [← Bool.not_eq_true, fitsB_iff]; omega))
      go_enter Try.func22, Try.ntmps22
      go_wp2_with (go_at_call 30; refine (isSize_any s _).mono ?_; (rintro e w2 ⟨rfl, rfl⟩; rw [HS.out]))
      go_ret2
      exact PutPost.none_ HP.out _
    · obtain ⟨m, rfl⟩ : ∃ m : Nat, n = (m : Int) := ⟨n.toNat, by omega⟩
      obtain ⟨k, rfl⟩ : ∃ k : Nat, s = (k : Int) := ⟨s.toNat, by omega⟩
      have q := shr_fits m k
      cases h2 : fitsB (m : Int) (k : Int) with
      | false =>
        have HP := Lib.hid (putBE_range _ _ HS.out h2)
        rw [h2] at q
        simp only [Bool.not_false] at q
        clear h2
        go_enter Try.func22, Try.ntmps22
        go_wp2_with (go_at_call 30; refine (isSize_any _ _).mono ?_; (rintro e w2 ⟨rfl, rfl⟩; rw [HS.out]))
        go_ret2
        exact PutPost.none_ HP.out _
      | true =>
        have HP := Lib.hid (putBE_good _ _ HS.out h2)
        rw [h2] at q
        simp only [Bool.not_true] at q
        clear h2
        go_enter Try.func22, Try.ntmps22
        go_wp2_with (first
          | (go_at_call 30; refine (isSize_any _ _).mono ?_; (rintro e w2 ⟨rfl, rfl⟩; rw [HS.out]))
          | (go_at_call 31; refine (lay_any m k (by omega) _).mono ?_; (rintro e w2 ⟨g, rfl, hg, hb, hbel⟩)))
        go_ret2
        obtain ⟨e1, e2⟩ := HP.out
        simp only [Int.toNat_natCast] at e1
        refine ⟨some ⟨g, 0, none⟩, k, ?_, ?_, ?_, hbel⟩
        · rw [e1, e2, dig_length]; rfl
        · rw [e1, dig_length]; exact Nat.le_refl _
        · rw [e1]; exact hb.bytes _ ⟨[], by simp⟩ hb.lt
  | false =>
    have HS := Lib.hid h
    have HP := Lib.hid (putBE_size n s h)
    clear h
    go_enter Try.func22, Try.ntmps22
    go_wp2_with (go_at_call 30; refine (isSize_any s _).mono ?_; (rintro e w2 ⟨rfl, rfl⟩; rw [HS.out]))
    go_ret2
    exact PutPost.none_ HP.out _

def getsN (l : List UInt8) (at_ s : Int) : Nat := if isz s = true then getN l at_ s.toNat else 0
def getsP (n : Nat) (at_ s : Int) : Int := if isz s = true then getP n at_ s.toNat else 0
def getsE (n : Nat) (at_ s : Int) : Int := if isz s = true then getE n at_ s.toNat else 2
def getsA (n : Nat) (at_ s : Int) : Int := if isz s = true then getA n at_ s.toNat else 0
theorem get_any (A : Option Addr) (l : List UInt8) (c : Nat) (at_ s : Int) (w : World) (hlc : l.length ≤ c) (hc : l.length ≤ 140737488351232) (hr : BytesAt w w.heap.size A l) :
    Calls Try.prog 24 #[.slice A l.length c, .int .i64 at_, .int .i64 s] w fun e w' => e = .returned (.tuple #[.int .i64 (getsN l at_ s : Int), .int .i64 (getsP l.length at_ s), flt (getsE l.length at_ s) (getsA l.length at_ s)]) ∧ Below w.heap.size w w' := by
  unfold getsN getsP getsE getsA
  cases h : isz s with
  | true =>
    have HS := Lib.hid h
    rw [isz_iff] at h
    obtain ⟨k, rfl⟩ : ∃ k : Nat, s = (k : Int) := ⟨s.toNat, by omega⟩
    simp only [if_true, Int.toNat_natCast]
    have z := read64_any A l c at_ k (w.alloc (.cells #[.int .i64 0, .int .i64 0] 50)) hlc hc ((hr.alloc (Nat.le_refl _) _).more (by simp)) (by omega)
    have hN : getN l at_ k < 72057594037927936 := Nat.lt_of_lt_of_le (getN_lt l at_ k) (pow_le7 k (by omega))
    obtain ⟨N, hNe⟩ : ∃ x, x = getN l at_ k := ⟨_, rfl⟩
    obtain ⟨P, hPe⟩ : ∃ x, x = getP l.length at_ k := ⟨_, rfl⟩
    obtain ⟨E, hEe⟩ : ∃ x, x = getE l.length at_ k := ⟨_, rfl⟩
    obtain ⟨F, hFe⟩ : ∃ x, x = getA l.length at_ k := ⟨_, rfl⟩
    rw [← hNe] at hN
    rw [← hNe, ← hPe, ← hEe, ← hFe] at z ⊢
    clear hNe hPe hEe hFe hr
    have e1 : IntKind.i64.wrap (N : Int) = (N : Int) := IntWalk.i64_in _ (by omega)
    go_enter Try.func24, Try.ntmps24
    go_wp2_with (first
      | (go_at_call 30; refine (isSize_any _ _).mono ?_; (rintro e w2 ⟨rfl, rfl⟩; rw [HS.out]))
      | (go_at_call 33; refine z.mono ?_; (rintro e w2 ⟨rfl, hbel⟩; unfold flt)))
    have hb0 := hbel.block w.heap.size (by simp)
    rw [heap_alloc_new] at hb0
    have hlt : w.heap.size < w2.heap.size := by have := hbel.size; simp at this; omega
    have hB3 : Below w.heap.size w (w2.alloc (.cells #[.int .i64 E, .int .i64 F] 50)) := (((Below.refl _ _).alloc (Nat.le_refl _) _).trans (hbel.mono (by simp))).alloc (by omega) _
    have hb1 : (w2.alloc (.cells #[.int .i64 E, .int .i64 F] 50)).heap[w.heap.size]? = some (.cells #[.int .i64 0, .int .i64 0] 50) := (((Below.refl w2.heap.size w2).alloc (Nat.le_refl _) _).block _ hlt).trans hb0
    have hb2 : (w2.alloc (.cells #[.int .i64 E, .int .i64 F] 50)).heap[w2.heap.size]? = some (.cells #[.int .i64 E, .int .i64 F] 50) := heap_alloc_new _ _
    obtain ⟨g, hg⟩ : ∃ g, g = w2.heap.size := ⟨_, rfl⟩
    obtain ⟨w3, hw3⟩ : ∃ x, x = w2.alloc (.cells #[.int .i64 E, .int .i64 F] 50) := ⟨_, rfl⟩
    obtain ⟨q, hq⟩ : ∃ q, q = w.heap.size := ⟨_, rfl⟩
    rw [← hg, ← hw3] at hb2 ⊢
    rw [← hw3, ← hq] at hb1
    rw [← hw3] at hB3
    rw [← hq, ← hg] at hlt
    rw [← hq]
    have c0 : w3.cell? ⟨g, 0, none⟩ = some (.int .i64 E) := by simp [World.cell?, hb2]
    have c1 : w3.cell? ⟨g, 1, none⟩ = some (.int .i64 F) := by simp [World.cell?, hb2]
    have d0 : w3.cell? ⟨q, 0, none⟩ = some (.int .i64 0) := by simp [World.cell?, hb1]
    have d1 : w3.cell? ⟨q, 1, none⟩ = some (.int .i64 0) := by simp [World.cell?, hb1]
    have f0 : w3.frozen? ⟨q, 0, none⟩ = false := by simp [World.frozen?, hb1]
    have f1 : w3.frozen? ⟨q, 1, none⟩ = false := by simp [World.frozen?, hb1]
    have HQ := Lib.hid (And.intro hq hB3)
    clear z hb0 hb1 hb2 hbel hw3 hg hq hB3
    go_region
    go_wp2
    refine bodyPost_ret (v := .tuple #[.int .i64 (N : Int), .int .i64 P, flt E F]) (by simp [results, Try.results24, flt, go_sem, d0, d1]) rfl ⟨rfl, ?_⟩
    obtain ⟨hq, hB3⟩ := HQ.out
    exact ((hB3.setCell (Nat.le_of_eq hq.symm) _).setCell (Nat.le_of_eq hq.symm) _).drew
  | false =>
    have HS := Lib.hid h
    simp only [Bool.false_eq_true, if_false]
    clear h
    go_enter Try.func24, Try.ntmps24
    go_wp2_with (go_at_call 30; refine (isSize_any s _).mono ?_; (rintro e w2 ⟨rfl, rfl⟩; rw [HS.out]))
    refine bodyPost_ret (v := .tuple #[.int .i64 0, .int .i64 0, flt 2 0]) (by simp [results, Try.results24, flt, go_sem]) rfl ⟨rfl, (Below.refl _ _).alloc (Nat.le_refl _) _⟩
end Go.Proofs.Ytebicjblplkdeaa
