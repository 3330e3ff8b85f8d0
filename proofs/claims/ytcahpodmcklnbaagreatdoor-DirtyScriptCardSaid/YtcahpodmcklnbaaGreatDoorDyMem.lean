/-
  How a map of dirty blocks lies in the program's memory; bits.Put; the place's save and load over a disk, or over none; isMade, with, without, Bits. Conditions: as each says.
-/
import Derived.Test.YtcahpodmcklnbaaGreatDoorDyMath
import Derived.Test.YtcahpodmcklnbaaGreatDoorSlNo
import Derived.LaidEqlPtr
import Derived.Deep.RegionHeldLaw
import Derived.Laws.BitsAllLaws
namespace Go.Proofs.YtcahpodmcklnbaaGreatDoor
open Go.RowKit Fix

set_option maxRecDepth 100000 in
theorem isBlockD_any (n : Int) (w : World) : Calls Tryz.prog 76 #[.int .i64 n] w fun e w' => e = .returned (.bool (Dy.isB n)) ∧ w = w' := by
  by_cases h : 0 ≤ n
  · by_cases h2 : n < 64
    · rw [show Dy.isB n = true from (Dy.isB_iff n).2 ⟨h, h2⟩]
      go_enter Tryz.func76, Tryz.ntmps76
      go_wp2
      go_ret
      exact ⟨rfl, rfl⟩
    · rw [show Dy.isB n = false by rw [← Bool.not_eq_true, Dy.isB_iff]; omega]
      go_enter Tryz.func76, Tryz.ntmps76
      go_wp2
      go_ret
      exact ⟨rfl, rfl⟩
  · rw [show Dy.isB n = false by rw [← Bool.not_eq_true, Dy.isB_iff]; omega]
    go_enter Tryz.func76, Tryz.ntmps76
    go_wp2
    go_ret
    exact ⟨rfl, rfl⟩
/-- the set of a block -/
def oneN (n : Int) : Nat := if Dy.isB n = true then 2 ^ n.toNat else 0
def oneE (n : Int) : Int := if Dy.isB n = true then 0 else 5
theorem oneN_lt (n : Int) : oneN n < 2 ^ 64 := by
  unfold oneN
  split
  · rename_i h
    rw [Dy.isB_iff] at h
    exact Bits.two_pow_lt _ (by omega)
  · decide
theorem shl_num (b : Nat) (hb : b < 64) : IntKind.u64.wrap (2 ^ b) = ((2 ^ b : Nat) : Int) := by
  have h1 := Bits.two_pow_lt b hb
  have e : (2 : Int) ^ b = ((2 ^ b : Nat) : Int) := by rw [Int.natCast_pow]; rfl
  rw [e]
  generalize 2 ^ b = q at h1 ⊢
  rw [IntKind.wrap_u64]
  omega
set_option maxRecDepth 100000 in
theorem bitsPut_any (n : Int) (w : World) : Calls Tryz.prog 52 #[.int .u64 0, .int .i64 n] w fun e w' => e = .returned (.tuple #[.int .u64 (oneN n : Int), .int .i64 (oneE n)]) ∧ w = w' := by
  unfold oneN oneE
  by_cases h : Dy.isB n = true
  · rw [if_pos h, if_pos h]
    have HB := Lib.hid h
    rw [Dy.isB_iff] at h
    obtain ⟨k, rfl⟩ : ∃ k : Nat, n = (k : Int) := ⟨n.toNat, by omega⟩
    have hn : bits .or .u64 0 (IntKind.u64.wrap (2 ^ k)) = ((2 ^ k : Nat) : Int) := by
      rw [shl_num k (by omega)]
      have := u64_or_nat 0 (2 ^ k) (by decide) (Bits.two_pow_lt k (by omega))
      rw [Nat.zero_or] at this
      exact this
    go_enter Tryz.func52, Tryz.ntmps52
    go_wp2_with (go_at_call 76; refine (isBlockD_any _ _).mono ?_; (rintro e w' ⟨rfl, rfl⟩; rw [HB.out]))
    go_ret2
    exact ⟨rfl, rfl⟩
  · rw [if_neg h, if_neg h]
    have HB := Lib.hid (show Dy.isB n = false by simpa using h)
    clear h
    go_enter Tryz.func52, Tryz.ntmps52
    go_wp2_with (go_at_call 76; refine (isBlockD_any _ _).mono ?_; (rintro e w' ⟨rfl, rfl⟩; rw [HB.out]))
    go_ret2
    exact ⟨rfl, rfl⟩
/-- a place, boxed -/
theorem plBox (w : World) (q : Value) (i : Int) : Hid (BlkR 79 (w.alloc (.cells #[q, .int .i64 i] 79)) w.heap.size [q, .int .i64 i] ∧ Below w.heap.size w (w.alloc (.cells #[q, .int .i64 i] 79))) :=
  Lib.hid ⟨BlkR.new w [q, .int .i64 i] _, (Below.refl _ _).alloc (Nat.le_refl _) _⟩
set_option maxRecDepth 100000 in
/-- the place's save, whatever the slot's Save tells and makes -/
theorem plSave_go (p : Option Addr) (i : Int) (s : Nat) (w : World) (r : Int) (R : World → World → Prop) (hR : ∀ w1 w2, Below w.heap.size w w1 → R w1 w2 → ∀ x, w.heap.size ≤ x → x < w1.heap.size → w2.heap[x]? = w1.heap[x]?)
    (zs : ∀ w1 A, Below w.heap.size w w1 → BytesAt w1 w1.heap.size A (Dy.enc s) → Calls Tryz.prog 13 #[.pointer p, .int .i64 i, .slice A 8 8] w1 fun e w2 => e = .returned (.int .i64 r) ∧ R w1 w2) :
    Calls Tryz.prog 27 #[.agg #[.pointer p, .int .i64 i], .int .u64 (s : Int)] w fun e w' => e = .returned (.int .i64 r) ∧ ∃ w1, Below w.heap.size w w1 ∧ R w1 w' := by
  have bx := plBox w (.pointer p) i
  obtain ⟨W, hW⟩ : ∃ W, W = w.alloc (.cells #[.pointer p, .int .i64 i] 79) := ⟨_, rfl⟩
  rw [← hW] at bx
  have KX : Hid (∀ w', Below W.heap.size W w' → Below w.heap.size w w' ∧ w.heap.size < w'.heap.size ∧ w'.cell? ⟨w.heap.size, 0, none⟩ = some (.pointer p) ∧ w'.cell? ⟨w.heap.size, 1, none⟩ = some (.int .i64 i)) := Lib.hid fun w' hb => by
    have b := bx.out.1.step hb
    exact ⟨step_trans bx.out.2 hb, b.lt, b.cell rfl, b.cell rfl⟩
  have KY : Hid (∀ w1 w2, Below W.heap.size W w1 → R w1 w2 → w2.cell? ⟨w.heap.size, 0, none⟩ = some (.pointer p) ∧ w2.cell? ⟨w.heap.size, 1, none⟩ = some (.int .i64 i)) := Lib.hid fun w1 w2 hb hr => by
    have b := bx.out.1.step hb
    have b2 : BlkR 79 w2 w.heap.size [.pointer p, .int .i64 i] := (hR w1 w2 (step_trans bx.out.2 hb) hr _ (Nat.le_refl _) b.lt).trans b
    exact ⟨b2.cell rfl, b2.cell rfl⟩
  have zl := long_any s W.drew
  unfold LayPost at zl
  have D := (Below.refl W.heap.size W).drew
  clear hR
  go_enter Tryz.func27, Tryz.ntmps27
  go_wp2
  rw [← hW]
  clear hW bx
  obtain ⟨h, hh⟩ : ∃ h, h = w.heap.size := ⟨_, rfl⟩
  rw [← hh] at KX KY ⊢
  have HH := Lib.hid hh
  clear hh
  have J0 := (KX.out _ D).2.2
  go_region_held3 (fun w' => w'.cell? ⟨h, 0, none⟩ = some (.pointer p) ∧ w'.cell? ⟨h, 1, none⟩ = some (.int .i64 i)) (first | assumption | exact J0 | exact (KX.out W (Below.refl _ _)).2.2) (first
    | (go_at_call 60; refine zl.mono ?_; (rintro e w1 ⟨g, rfl, hg, hb, B1⟩; have D1 := step_trans D B1; have J1 := (KX.out w1 D1).2.2; have r1 := hb.at_; have b1 := (KX.out w1 D1).1; rw [HH.out] at b1; have HB := Lib.hid b1; clear hb hg b1))
    | (go_at_call 13; refine (zs w1 _ HB.out r1).mono ?_; (rintro e w2 ⟨rfl, R2⟩; have J2 := KY.out w1 w2 D1 R2; have R2 := Lib.hid R2)))
  go_wp2
  go_ret
  exact ⟨rfl, w1, HB.out, R2.out⟩
/-- the place's load, whatever the slot's Load tells -/
def plE (E : Int) (l : List UInt8) : Int := if E = 0 then (if l.length = 8 then 0 else 11) else E
def plN (E : Int) (l : List UInt8) : Nat := if plE E l = 0 then le l else 0
set_option maxRecDepth 100000 in
theorem plLoad_go (p : Option Addr) (i : Int) (w : World) (l : List UInt8) (E : Int) (hl : l.length ≤ 40) (n : Nat) (hn : l.length = n)
    (zl : ∀ w1, Below w.heap.size w w1 → Calls Tryz.prog 77 #[.pointer p, .int .i64 i] w1 fun e w2 => ∃ A c, e = .returned (.tuple #[.slice A n c, .int .i64 E]) ∧ n ≤ c ∧ BytesAt w2 w2.heap.size A l ∧ Below w1.heap.size w1 w2) :
    Calls Tryz.prog 55 #[.agg #[.pointer p, .int .i64 i]] w fun e w' => e = .returned (.tuple #[.int .u64 (plN E l : Int), .int .i64 (plE E l)]) ∧ Below w.heap.size w w' := by
  have bx := plBox w (.pointer p) i
  obtain ⟨W, hW⟩ : ∃ W, W = w.alloc (.cells #[.pointer p, .int .i64 i] 79) := ⟨_, rfl⟩
  rw [← hW] at bx
  have x0 := bx.out.1.cell (k := 0) rfl
  have x1 := bx.out.1.cell (k := 1) rfl
  have zl := zl W bx.out.2
  have HB := Lib.hid bx.out.2
  clear bx
  by_cases hE : E = 0
  · subst hE
    have zg := fun A c w hc hr => getLong_any A l c 0 w hc (by omega) hr
    rw [hn] at zg
    by_cases h8 : n = 8
    · have eN : plN 0 l = le l := by unfold plN plE; rw [if_pos rfl, hn, if_pos h8, if_pos rfl]
      have eE : plE 0 l = 0 := by unfold plE; rw [if_pos rfl, hn, if_pos h8]
      have g1 : getN l 0 8 = le l := by
        unfold getN
        rw [if_pos (by rw [inN_iff]; omega), show (0 : Int).toNat = 0 from rfl, List.drop_zero, List.take_of_length_le (by omega)]
      have g2 : getP n 0 8 = 8 := by unfold getP; rw [if_pos (by rw [inN_iff]; omega)]; rfl
      have g3 : getE n 0 8 = 0 := by unfold getE; rw [if_pos (by rw [inR_iff]; omega), if_pos (by rw [inN_iff]; omega)]
      obtain ⟨a, ha⟩ : ∃ a, a = getA n 0 8 := ⟨_, rfl⟩
      rw [eN, eE]
      rw [g1, g2, g3, ← ha] at zg
      obtain ⟨v, hv⟩ : ∃ v, v = le l := ⟨_, rfl⟩
      rw [← hv] at zg ⊢
      unfold flt at zg
      subst h8
      clear eN eE g1 g2 g3 ha hv hn hl
      go_enter Tryz.func55, Tryz.ntmps55
      go_wp2_with (first
        | (go_at_call 77; rw [← hW]; refine zl.mono ?_; (rintro e w2 ⟨A, c, rfl, hc, r2, B2⟩))
        | (go_at_call 78; refine (zg A c w2 hc r2).mono ?_; (rintro e w3 ⟨rfl, B3⟩; have C3 := step_trans B2 B3; have C4 := C3.alloc C3.size (.cells #[.int .i64 0, .int .i64 a] 110))))
      go_ret2
      exact ⟨rfl, step_trans HB.out C4⟩
    · have eE : plE 0 l = 11 := by unfold plE; rw [if_pos rfl, hn, if_neg h8]
      have eN : plN 0 l = 0 := by unfold plN; rw [eE, if_neg (by decide)]
      rw [eN, eE]
      by_cases h9 : n < 8
      · have g3 : getE n 0 8 = 4 := by unfold getE; rw [if_pos (by rw [inR_iff]; omega), if_neg (by rw [inN_iff]; omega)]
        obtain ⟨a, ha⟩ : ∃ a, a = getA n 0 8 := ⟨_, rfl⟩
        obtain ⟨v, hv⟩ : ∃ v, v = getN l 0 8 := ⟨_, rfl⟩
        obtain ⟨P, hP⟩ : ∃ P, P = getP n 0 8 := ⟨_, rfl⟩
        rw [g3, ← ha, ← hv, ← hP] at zg
        unfold flt at zg
        clear eN eE g3 ha hv hP hn hl h8 h9
        go_enter Tryz.func55, Tryz.ntmps55
        go_wp2_with (first
          | (go_at_call 77; rw [← hW]; refine zl.mono ?_; (rintro e w2 ⟨A, c, rfl, hc, r2, B2⟩))
          | (go_at_call 78; refine (zg A c w2 hc r2).mono ?_; (rintro e w3 ⟨rfl, B3⟩; have C3 := step_trans B2 B3; have C4 := C3.alloc C3.size (.cells #[.int .i64 4, .int .i64 a] 110))))
        go_ret2
        exact ⟨rfl, step_trans HB.out C4⟩
      · have g2 : getP n 0 8 = 8 := by unfold getP; rw [if_pos (by rw [inN_iff]; omega)]; rfl
        have g3 : getE n 0 8 = 0 := by unfold getE; rw [if_pos (by rw [inR_iff]; omega), if_pos (by rw [inN_iff]; omega)]
        obtain ⟨a, ha⟩ : ∃ a, a = getA n 0 8 := ⟨_, rfl⟩
        obtain ⟨v, hv⟩ : ∃ v, v = getN l 0 8 := ⟨_, rfl⟩
        have hne : ((8 : Int) != (n : Int)) = true := by simp; omega
        rw [g2, g3, ← ha, ← hv] at zg
        unfold flt at zg
        clear eN eE g2 g3 ha hv hn hl h8 h9
        go_enter Tryz.func55, Tryz.ntmps55
        go_wp2_with (first
          | (go_at_call 77; rw [← hW]; refine zl.mono ?_; (rintro e w2 ⟨A, c, rfl, hc, r2, B2⟩))
          | (go_at_call 78; refine (zg A c w2 hc r2).mono ?_; (rintro e w3 ⟨rfl, B3⟩; have C3 := step_trans B2 B3; have C4 := C3.alloc C3.size (.cells #[.int .i64 0, .int .i64 a] 110))))
        go_ret2
        exact ⟨rfl, step_trans HB.out C4⟩
  · have eE : plE E l = E := by unfold plE; rw [if_neg hE]
    have eN : plN E l = 0 := by unfold plN; rw [eE, if_neg hE]
    rw [eN, eE]
    have hne : (E != 0) = true := by simpa using hE
    clear eN eE hE
    go_enter Tryz.func55, Tryz.ntmps55
    go_wp2_with (go_at_call 77; rw [← hW]; refine zl.mono ?_; (rintro e w2 ⟨A, c, rfl, hc, r2, B2⟩))
    go_ret2
    exact ⟨rfl, step_trans HB.out B2⟩
end Go.Proofs.YtcahpodmcklnbaaGreatDoor
