/-
  Several texts in one (SlLook, SlBoth, SlLoad). Conditions: as each says.
-/
import Derived.Test.YtlchpolheciadaaDoorSa
import Derived.Test.YtlchpolheciadaaDoorDiskKit
import Derived.Test.YtlchpolheciadaaDoorBa
import Derived.Deep.RegionHeldLaw
/-
  slot.look, slot.both, slot.newest: what both sectors of a slot have. Conditions: a disk's methods do what the document says; the table of crc lies as the program's text lays it.
-/
namespace Go.Proofs.YtlchpolheciadaaDoor
open Go.RowKit Fix

namespace Slot
/-- why a sector that can be read is not right -/
def wrongE (S : DS) (i : Int) : Int := if S.readE i = 0 then readE (S.readB i) else 0
theorem right_nil : right [] = false := no_len (by decide)
theorem readN_nil : readN [] = 0 := by simp [readN, right_nil]
theorem readB_nil : readB [] = [] := by simp [readB, right_nil]
end Slot
theorem DS.readB_no {S : DS} {i : Int} (h : S.readE i ≠ 0) : S.readB i = [] := by
  unfold DS.readE at h
  unfold DS.readB
  split
  · rfl
  · rename_i h1
    rw [if_neg h1] at h
    split
    · rfl
    · rename_i h2
      rw [if_neg h2] at h
      exact absurd rfl h
theorem DS.readE_zero {S : DS} {i : Int} (h : S.readE i = 0) : S.out = false ∧ 0 ≤ i ∧ i < (S.n : Int) := by
  unfold DS.readE at h
  split at h
  · cases h
  · rename_i h1
    split at h
    · cases h
    · rename_i h2
      rw [Bool.not_eq_false, DS.there_iff] at h2
      exact ⟨by simpa using h1, h2⟩
theorem DS.readB_yes {S : DS} {i : Int} (h : S.readE i = 0) : S.readB i = S.last i.toNat := by
  obtain ⟨h1, h2, h3⟩ := DS.readE_zero h
  have h4 : S.there i = true := by rw [S.there_iff]; exact ⟨h2, h3⟩
  simp [DS.readB, h1, h4]
theorem DS.last_length {S : DS} (h : S.Ok) {k : Nat} (hk : k < S.n) : (S.last k).length = 64 := by
  unfold DS.last
  cases hl : S.loose k with
  | none => exact h.firm k hk
  | some l => exact (h.loose k l hl).2
theorem DS.readB_length {S : DS} (h : S.Ok) {i : Int} (hi : S.readE i = 0) : (S.readB i).length = 64 := by
  rw [DS.readB_yes hi]
  have := DS.readE_zero hi
  exact DS.last_length h (by omega)
theorem rdB_cap {w : World} {base c : Nat} {A : Option Addr} {l : List UInt8} (h : RdB w base A c l) : l.length ≤ c := by
  rcases h with ⟨rfl, _, rfl⟩ | ⟨g, E, rfl, _, _, rfl⟩ <;> simp
/-- what one half says -/
def halfV (S : DS) (i : Int) (A : Option Addr) (c : Nat) : Array Value := #[.int .i64 (S.readE i), .int .i64 (Slot.wrongE S i), .int .i64 (Slot.readN (S.readB i) : Int), .slice A (Slot.readB (S.readB i)).length c]
def LookPost (S : DS) (i : Int) (w : World) (e : Ending) (w' : World) : Prop :=
  ∃ A c, e = .returned (.agg (halfV S i A c)) ∧ c ≤ 9223372036854775807 ∧ Whole w' w.heap.size A c (Slot.readB (S.readB i)) ∧ Below w.heap.size w w'
def halfZ : List Value := [.int .i64 0, .int .i64 0, .int .i64 0, .slice none 0 0]
theorem half_one {a b c : Int} {A : Option Addr} {n k : Nat} : ∀ v ∈ ([.int .i64 a, .int .i64 b, .int .i64 c, .slice A n k] : List Value), v.oneCell' = true := by
  intro v hv
  simp at hv
  rcases hv with rfl | rfl | rfl | rfl <;> rfl
section
variable {At : World → Nat → (Nat → Prop) → DS → Prop} (D : Disks Tryd.prog At)
include D
end
end Go.Proofs.YtlchpolheciadaaDoor
/-
  slot.both, slot.newest, cmp.Or: both sectors of a slot. Conditions: a disk's methods do what the document says; the table of crc lies as the program's text lays it.
-/
namespace Go.Proofs.YtlchpolheciadaaDoor
open Go.RowKit Fix

def orE (a b : Int) : Int := if a = 0 then b else a
def bothZ : List Value := halfZ ++ halfZ
/-- both halves as cells -/
def bothL (r0 x0 n0 : Int) (A0 : Option Addr) (m0 c0 : Nat) (r1 x1 n1 : Int) (A1 : Option Addr) (m1 c1 : Nat) : List Value :=
  [.int .i64 r0, .int .i64 x0, .int .i64 n0, .slice A0 m0 c0, .int .i64 r1, .int .i64 x1, .int .i64 n1, .slice A1 m1 c1]
theorem bothL_one {r0 x0 n0 : Int} {A0 : Option Addr} {m0 c0 : Nat} {r1 x1 n1 : Int} {A1 : Option Addr} {m1 c1 : Nat} : ∀ v ∈ bothL r0 x0 n0 A0 m0 c0 r1 x1 n1 A1 m1 c1, v.oneCell' = true := by
  intro v hv
  simp [bothL] at hv
  rcases hv with rfl | rfl | rfl | rfl | rfl | rfl | rfl | rfl <;> rfl
namespace Slot
theorem lookE_or (S : DS) (h : S.Ok) (i : Int) : orE (S.readE i) (S.readE (IntKind.i64.wrap (i + 1))) = lookE S i := by
  unfold orE lookE
  by_cases h0 : S.readE i = 0
  · rw [if_pos h0, if_pos h0]
    obtain ⟨_, h1, h2⟩ := DS.readE_zero h0
    have := h.n2
    rw [IntWalk.i64_in (i + 1) (by omega)]
  · rw [if_neg h0, if_neg h0]
end Slot
/-- the second place, as a program counts it -/
def nxt (i : Int) : Int := IntKind.i64.wrap (i + 1)
theorem one_blk {w' : World} {g : Nat} {E : TypeId} {r0 x0 n0 : Int} {A0 : Option Addr} {m0 c0 : Nat} {r1 x1 n1 : Int} {A1 : Option Addr} {m1 c1 : Nat} (h : BlkR E w' g (bothL r0 x0 n0 A0 m0 c0 r1 x1 n1 A1 m1 c1)) :
    w'.cell? ⟨g, 0, none⟩ = some (.int .i64 r0) ∧ w'.cell? ⟨g, 1, none⟩ = some (.int .i64 x0) ∧ w'.cell? ⟨g, 2, none⟩ = some (.int .i64 n0) ∧ w'.cell? ⟨g, 3, none⟩ = some (.slice A0 m0 c0) ∧ w'.cell? ⟨g, 4, none⟩ = some (.int .i64 r1) ∧ w'.cell? ⟨g, 5, none⟩ = some (.int .i64 x1) ∧ w'.cell? ⟨g, 6, none⟩ = some (.int .i64 n1) ∧ w'.cell? ⟨g, 7, none⟩ = some (.slice A1 m1 c1) := ⟨h.cell rfl, h.cell rfl, h.cell rfl, h.cell rfl, h.cell rfl, h.cell rfl, h.cell rfl, h.cell rfl⟩
theorem zero_blk {w' : World} {g : Nat} {E : TypeId} (h : BlkR E w' g bothZ) :
    w'.cell? ⟨g, 0, none⟩ = some (.int .i64 0) ∧ w'.cell? ⟨g, 1, none⟩ = some (.int .i64 0) ∧ w'.cell? ⟨g, 2, none⟩ = some (.int .i64 0) ∧ w'.cell? ⟨g, 3, none⟩ = some (.slice none 0 0) ∧ w'.cell? ⟨g, 4, none⟩ = some (.int .i64 0) ∧ w'.cell? ⟨g, 5, none⟩ = some (.int .i64 0) ∧ w'.cell? ⟨g, 6, none⟩ = some (.int .i64 0) ∧ w'.cell? ⟨g, 7, none⟩ = some (.slice none 0 0) ∧ w'.frozen? ⟨g, 0, none⟩ = false ∧ w'.frozen? ⟨g, 1, none⟩ = false ∧ w'.frozen? ⟨g, 2, none⟩ = false ∧ w'.frozen? ⟨g, 3, none⟩ = false ∧ w'.frozen? ⟨g, 4, none⟩ = false ∧ w'.frozen? ⟨g, 5, none⟩ = false ∧ w'.frozen? ⟨g, 6, none⟩ = false ∧ w'.frozen? ⟨g, 7, none⟩ = false := ⟨h.cell rfl, h.cell rfl, h.cell rfl, h.cell rfl, h.cell rfl, h.cell rfl, h.cell rfl, h.cell rfl, h.frozen _, h.frozen _, h.frozen _, h.frozen _, h.frozen _, h.frozen _, h.frozen _, h.frozen _⟩
theorem chain8 {w5 : World} {g : Nat} {E : TypeId} (v0 v1 v2 v3 v4 v5 v6 v7 : Value) (b : BlkR E w5 g bothZ) :
    BlkR E ((((((((w5.setCell ⟨g, 0, none⟩ v0).setCell ⟨g, 1, none⟩ v1).setCell ⟨g, 2, none⟩ v2).setCell ⟨g, 3, none⟩ v3).setCell ⟨g, 4, none⟩ v4).setCell ⟨g, 5, none⟩ v5).setCell ⟨g, 6, none⟩ v6).setCell ⟨g, 7, none⟩ v7) g [v0, v1, v2, v3, v4, v5, v6, v7] ∧ (∀ k, k ≠ g → ((((((((w5.setCell ⟨g, 0, none⟩ v0).setCell ⟨g, 1, none⟩ v1).setCell ⟨g, 2, none⟩ v2).setCell ⟨g, 3, none⟩ v3).setCell ⟨g, 4, none⟩ v4).setCell ⟨g, 5, none⟩ v5).setCell ⟨g, 6, none⟩ v6).setCell ⟨g, 7, none⟩ v7).heap[k]? = w5.heap[k]?) ∧ Below g w5 ((((((((w5.setCell ⟨g, 0, none⟩ v0).setCell ⟨g, 1, none⟩ v1).setCell ⟨g, 2, none⟩ v2).setCell ⟨g, 3, none⟩ v3).setCell ⟨g, 4, none⟩ v4).setCell ⟨g, 5, none⟩ v5).setCell ⟨g, 6, none⟩ v6).setCell ⟨g, 7, none⟩ v7) := by
  refine ⟨(((((((b.set_ 0 v0).set_ 1 v1).set_ 2 v2).set_ 3 v3).set_ 4 v4).set_ 5 v5).set_ 6 v6).set_ 7 v7, fun k hk => ?_, ?_⟩
  · repeat refine (Below.heap_setCell _ ⟨g, _, none⟩ _ k hk).trans ?_
    rfl
  · repeat refine Below.setCell ?_ (p := ⟨g, _, none⟩) (Nat.le_refl g) _
    exact Below.refl _ _
theorem errBelow (w : World) (v : Array Value) : Below w.heap.size w (w.alloc (.cells v 39)) := (Below.refl _ _).alloc (Nat.le_refl _) _
/-- one half, as look tells it -/
def LookIs (r0 x0 n0 : Int) (l0 : List UInt8) (w : World) (e : Ending) (w' : World) : Prop :=
  ∃ A c, e = .returned (.agg #[.int .i64 r0, .int .i64 x0, .int .i64 n0, .slice A l0.length c]) ∧ c ≤ 9223372036854775807 ∧ Whole w' w.heap.size A c l0 ∧ Below w.heap.size w w'
/-- both halves and an error, as both tells them -/
def BothIs (r0 x0 n0 : Int) (l0 : List UInt8) (r1 x1 n1 : Int) (l1 : List UInt8) (lo : Int) (w : World) (e : Ending) (w' : World) : Prop :=
  ∃ A0 c0 A1 c1, e = .returned (.tuple #[.agg (bothL r0 x0 n0 A0 l0.length c0 r1 x1 n1 A1 l1.length c1).toArray, .int .i64 lo]) ∧ Whole w' w.heap.size A0 c0 l0 ∧ Whole w' w.heap.size A1 c1 l1 ∧ Below w.heap.size w w'
section
variable {At : World → Nat → (Nat → Prop) → DS → Prop} (D : Disks Tryd.prog At)
include D
end
end Go.Proofs.YtlchpolheciadaaDoor
/-
  slot.Load: what it tells. Conditions: a disk's methods do what the document says; the table of crc lies as the program's text lays it.
-/
namespace Go.Proofs.YtlchpolheciadaaDoor
open Go.RowKit Fix

namespace Slot
theorem readN_le (b : List UInt8) : readN b ≤ 1099511627776 := by
  unfold readN
  split
  · rename_i h; exact ((right_iff b).1 h).2.2.1
  · exact Nat.zero_le _
theorem readN_pos {b : List UInt8} : 0 < readN b ↔ right b = true := by
  unfold readN
  by_cases h : right b = true
  · rw [if_pos h]; have := ((right_iff b).1 h).2.1; simp [h]; omega
  · rw [if_neg h]; simp [h]
theorem second_iff (a b : List UInt8) : second a b = true ↔ readN a < readN b := by
  unfold second
  by_cases hb : right b = true
  · have hb1 := ((right_iff b).1 hb).2.1
    have e1 : readN b = num b := by simp [readN, hb]
    by_cases ha : right a = true
    · have e0 : readN a = num a := by simp [readN, ha]
      simp [hb, ha, e0, e1]
    · have e0 : readN a = 0 := by simp [readN, ha]
      simp [hb, ha, e0, e1]; omega
  · have e1 : readN b = 0 := by simp [readN, hb]
    simp [hb, e1]
theorem topN_eq (a b : List UInt8) : topN a b = if readN a < readN b then readN b else readN a := by
  unfold topN
  by_cases h : second a b = true
  · rw [if_pos h, if_pos ((second_iff a b).1 h)]
    have hb : right b = true := by unfold second at h; simp at h; exact h.1
    simp [readN, hb]
  · rw [if_neg h, if_neg (fun x => h ((second_iff a b).2 x))]
theorem topB_eq (a b : List UInt8) : topB a b = if readN a < readN b then readB b else readB a := by
  unfold topB
  by_cases h : second a b = true
  · rw [if_pos h, if_pos ((second_iff a b).1 h)]
    have hb : right b = true := by unfold second at h; simp at h; exact h.1
    simp [readB, hb]
  · rw [if_neg h, if_neg (fun x => h ((second_iff a b).2 x))]
theorem newestI_eq (a b : List UInt8) : newestI a b = if readN a < readN b then 1 else if 0 < readN a then 0 else -1 := by
  unfold newestI
  by_cases h : second a b = true
  · rw [if_pos h, if_pos ((second_iff a b).1 h)]
  · rw [if_neg h, if_neg (fun x => h ((second_iff a b).2 x))]
    by_cases ha : right a = true
    · rw [if_pos ha, if_pos (readN_pos.2 ha)]
    · rw [if_neg ha, if_neg (fun x => ha (readN_pos.1 x))]
theorem readE_nots {b : List UInt8} : readE b = 6 ↔ b = nots := by
  constructor
  · intro h
    unfold readE at h
    split at h
    · cases h
    · split at h
      · assumption
      · split at h <;> cases h
  · rintro rfl; decide
end Slot
theorem nxt_eq (S : DS) (h : S.Ok) (i : Int) (h0 : Slot.lookE S i = 0) : nxt i = i + 1 ∧ S.readE i = 0 ∧ S.readE (i + 1) = 0 := by
  unfold Slot.lookE at h0
  split at h0
  · rename_i h1
    obtain ⟨_, h2, h3⟩ := DS.readE_zero h1
    have := h.n2
    exact ⟨IntWalk.i64_in _ (by omega), h1, h0⟩
  · rename_i h1
    exact absurd h0 h1
def LoadPost (S : DS) (i : Int) (w : World) (e : Ending) (w' : World) : Prop :=
  ∃ A c, e = .returned (.tuple #[.slice A (Slot.loadB S i).length c, .int .i64 (Slot.loadE S i)]) ∧ Whole w' w.heap.size A c (Slot.loadB S i) ∧ Below w.heap.size w w'
theorem LoadPost.none_ {S : DS} {i x : Int} {w w' : World} (hx : Slot.loadE S i = x) (h0 : x ≠ 0) (hB : Below w.heap.size w w') : LoadPost S i w (.returned (.tuple #[.slice none 0 0, .int .i64 x])) w' := by
  have e : Slot.loadB S i = [] := by unfold Slot.loadB; rw [if_neg (by rw [hx]; exact h0)]
  exact ⟨none, 0, by rw [e, hx]; rfl, by rw [e]; exact Whole.none_, hB⟩
theorem int_lt (a b : Nat) : ((a : Int) < (b : Int)) ↔ a < b := by omega
section
variable {At : World → Nat → (Nat → Prop) → DS → Prop} (D : Disks Tryd.prog At)
include D
end
end Go.Proofs.YtlchpolheciadaaDoor
