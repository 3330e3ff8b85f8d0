/-
  slot.look, slot.both, slot.newest: what both sectors of a slot have. Conditions: a disk's methods do what the document says; the table of crc lies as the program's text lays it.
-/
import Derived.Test.YtgnfajmjhlnobaaDoorSlRead
import Derived.Test.YtgnfajmjhlnobaaDoorDiskKit
import Derived.Test.YtgnfajmjhlnobaaDoorRowVar
import Derived.Deep.RegionHeldLaw
namespace Go.Proofs.YtgnfajmjhlnobaaDoor
open Go.RowKit Fix

namespace Slot
/-- why a sector that can be read is not right -/
def wrongE (S : DS) (i : Int) : Int := if S.readE i = 0 then readE (S.readB i) else 0
theorem right_nil : right [] = false := no_len (by decide)
theorem readN_nil : readN [] = 0 := by simp [readN, right_nil]
theorem readB_nil : readB [] = [] := by simp [readB, right_nil]
end Slot
theorem DS.readB_no {S : DS} {i : Int} (h : S.readE i ≠ 0) : S.readB i = [] := by
  unfold DS.readE at h
  unfold DS.readB
  split
  · rfl
  · rename_i h1
    rw [if_neg h1] at h
    split
    · rfl
    · rename_i h2
      rw [if_neg h2] at h
      exact absurd rfl h
theorem DS.readE_zero {S : DS} {i : Int} (h : S.readE i = 0) : S.out = false ∧ 0 ≤ i ∧ i < (S.n : Int) := by
  unfold DS.readE at h
  split at h
  · cases h
  · rename_i h1
    split at h
    · cases h
    · rename_i h2
      rw [Bool.not_eq_false, DS.there_iff] at h2
      exact ⟨by simpa using h1, h2⟩
theorem DS.readB_yes {S : DS} {i : Int} (h : S.readE i = 0) : S.readB i = S.last i.toNat := by
  obtain ⟨h1, h2, h3⟩ := DS.readE_zero h
  have h4 : S.there i = true := by rw [S.there_iff]; exact ⟨h2, h3⟩
  simp [DS.readB, h1, h4]
theorem DS.last_length {S : DS} (h : S.Ok) {k : Nat} (hk : k < S.n) : (S.last k).length = 64 := by
  unfold DS.last
  cases hl : S.loose k with
  | none => exact h.firm k hk
  | some l => exact (h.loose k l hl).2
theorem DS.readB_length {S : DS} (h : S.Ok) {i : Int} (hi : S.readE i = 0) : (S.readB i).length = 64 := by
  rw [DS.readB_yes hi]
  have := DS.readE_zero hi
  exact DS.last_length h (by omega)
theorem rdB_cap {w : World} {base c : Nat} {A : Option Addr} {l : List UInt8} (h : RdB w base A c l) : l.length ≤ c := by
  rcases h with ⟨rfl, _, rfl⟩ | ⟨g, E, rfl, _, _, rfl⟩ <;> simp
/-- what one half says -/
def halfV (S : DS) (i : Int) (A : Option Addr) (c : Nat) : Array Value := #[.int .i64 (S.readE i), .int .i64 (Slot.wrongE S i), .int .i64 (Slot.readN (S.readB i) : Int), .slice A (Slot.readB (S.readB i)).length c]
def LookPost (S : DS) (i : Int) (w : World) (e : Ending) (w' : World) : Prop :=
  ∃ A c, e = .returned (.agg (halfV S i A c)) ∧ c ≤ 9223372036854775807 ∧ Whole w' w.heap.size A c (Slot.readB (S.readB i)) ∧ Below w.heap.size w w'
def halfZ : List Value := [.int .i64 0, .int .i64 0, .int .i64 0, .slice none 0 0]
theorem halfTy : RowTy Tryd.prog 78 halfZ := ⟨fun w => by kernel_rfl, by kernel_rfl, _, Tryd.underlying78, rfl⟩
theorem half_one {a b c : Int} {A : Option Addr} {n k : Nat} : ∀ v ∈ ([.int .i64 a, .int .i64 b, .int .i64 c, .slice A n k] : List Value), v.oneCell' = true := by
  intro v hv
  simp at hv
  rcases hv with rfl | rfl | rfl | rfl <;> rfl
section
variable {At : World → Nat → (Nat → Prop) → DS → Prop} (D : Disks Tryd.prog At)
include D
set_option maxRecDepth 100000 in
theorem look_any (w : World) (b : Nat) (F : Nat → Prop) (S : DS) (i : Int) (ht : TabAt w) (h : At w b F S) : Calls Tryd.prog 60 #[.pointer (some ⟨b, 0, none⟩), .int .i64 i] w (LookPost S i w) := by
  by_cases hx : S.readE i = 0
  · have hl := DS.readB_length (D.ok _ _ _ _ h) hx
    have hw : Slot.wrongE S i = Slot.readE (S.readB i) := by unfold Slot.wrongE; rw [if_pos hx]
    have z : ∀ w, At w b F S → _ := fun w h => D.read w b F S i h
    unfold LookPost halfV
    rw [hw, hx]
    rw [hx] at z
    obtain ⟨rb, hrb⟩ : ∃ x, x = S.readB i := ⟨_, rfl⟩
    rw [← hrb] at z hl ⊢
    rw [hl] at z
    have HL := Lib.hid hl
    clear hw hx hl hrb
    obtain ⟨rn, hrn⟩ : ∃ x, x = Slot.readN rb := ⟨_, rfl⟩
    obtain ⟨re, hre⟩ : ∃ x, x = Slot.readE rb := ⟨_, rfl⟩
    obtain ⟨rr, hrr⟩ : ∃ x, x = Slot.readB rb := ⟨_, rfl⟩
    have zr : ∀ A c w, 64 ≤ c → TabAt w → BytesAt w w.heap.size A rb → _ := fun A c w h1 h2 h3 => slotRead_any A rb 64 c HL.out h1 w h2 h3
    unfold RdPost at zr
    rw [← hrn, ← hre, ← hrr] at zr ⊢
    clear hrn hre hrr
    go_enter Tryd.func60, Tryd.ntmps60
    go_wp2_with (first
      | ((with_reducible refine atWorld w ?_); refine wpList_allocRow (w := w) halfTy rfl rfl ?_; (intro w0 b0 B0 s0; have h0 := At_step D h B0; have t0 := ht.below B0 (Nat.le_refl _); have b0 := Lib.hid b0))
      | (go_at_call 49; refine (z w0 h0).mono ?_; (rintro e w1 ⟨A1, c1, rfl, o1, B1⟩; have r1 := o1.bytes; have hc1 := rdB_cap o1; rw [HL.out] at hc1; have t1 := t0.below B1 (Nat.le_refl _)))
      | (go_at_call 14; refine (zr A1 c1 w1 hc1 t1 r1).mono ?_; (rintro e w2 ⟨A2, c2, rfl, hc2, o2, B2⟩; have B02 := step_trans B1 B2))
      | ((with_reducible refine atWorld w2 ?_); refine wpList_storeRow (w := w2) halfTy rfl (.tmp 4) (.tmp 29) rfl w.heap.size [.int .i64 0, .int .i64 re, .int .i64 (rn : Int), .slice A2 rr.length c2] halfZ rfl rfl rfl rfl half_one (BlkR.step b0.out B02) ?_; (intro w3 b3 B3 s3 k3)))
    refine bodyPost_ret (w := w3) (results_cell1 Tryd.results60 _ _ _ _ _ rfl (loadRow halfTy (by rfl) b3)) rfl ⟨A2, c2, rfl, hc2, ?_, ?_⟩
    · exact (o2.less (Nat.le_trans B0.size B1.size)).keepBut k3 (by have := B1.size; omega) o2
    · exact B0.trans ((B02.mono B0.size).trans B3)
  · have hl : S.readB i = [] := DS.readB_no hx
    have hw : Slot.wrongE S i = 0 := by unfold Slot.wrongE; rw [if_neg hx]
    have z : ∀ w, At w b F S → _ := fun w h => D.read w b F S i h
    unfold LookPost halfV
    rw [hw, hl, Slot.readN_nil, Slot.readB_nil]
    rw [hl] at z
    obtain ⟨re, hre⟩ : ∃ x, x = S.readE i := ⟨_, rfl⟩
    rw [← hre] at z hx ⊢
    clear hre hl hw
    have hne : (re != 0) = true := by simpa using hx
    go_enter Tryd.func60, Tryd.ntmps60
    go_wp2_with (first
      | ((with_reducible refine atWorld w ?_); refine wpList_allocRow (w := w) halfTy rfl rfl ?_; (intro w0 b0 B0 s0; have h0 := At_step D h B0; have b0 := Lib.hid b0))
      | (go_at_call 49; refine (z w0 h0).mono ?_; (rintro e w1 ⟨A1, c1, rfl, o1, B1⟩))
      | ((with_reducible refine atWorld w1 ?_); refine wpList_storeRow (w := w1) halfTy rfl (.tmp 4) (.tmp 19) rfl w.heap.size [.int .i64 re, .int .i64 0, .int .i64 0, .slice none 0 0] halfZ rfl rfl rfl rfl half_one (BlkR.step b0.out B1) ?_; (intro w3 b3 B3 s3 k3)))
    refine bodyPost_ret (w := w3) (results_cell1 Tryd.results60 _ _ _ _ _ rfl (loadRow halfTy (by rfl) b3)) rfl ⟨none, 0, rfl, by decide, Whole.none_, ?_⟩
    exact B0.trans ((B1.mono B0.size).trans B3)
end
end Go.Proofs.YtgnfajmjhlnobaaDoor
