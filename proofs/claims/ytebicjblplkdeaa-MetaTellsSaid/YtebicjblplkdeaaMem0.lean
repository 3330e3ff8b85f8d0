/-
  Words for memory: a slice of bytes that reads as a list. Conditions: none.
-/
import Derived.Test.YtebicjblplkdeaaProg
import Derived.WalkKit
import Derived.Below
import Derived.Lib.Hide
import Derived.Deep.Draws
namespace Go.Proofs.Ytebicjblplkdeaa
open Go.RowKit

/-- the slice at A reads as the bytes l, and lies below block B -/
def BytesAt (w : World) (B : Nat) (A : Option Addr) (l : List UInt8) : Prop :=
  l ≠ [] → ∃ ad, A = some ad ∧ ad.block < B ∧ ∀ k, k < l.length → w.cell? (ad.add k) = some (.int .u8 ((l.getD k 0).toNat : Int))

variable {w w' : World} {B B' : Nat} {A : Option Addr} {l : List UInt8}
theorem block_add (a : Addr) (n : Nat) : (a.add n).block = a.block := by unfold Addr.add; split <;> rfl
theorem add_zero (a : Addr) : a.add 0 = a := by simp [Addr.add]
theorem add_add (a : Addr) (i j : Nat) : (a.add i).add j = a.add (i + j) := by
  unfold Addr.add
  by_cases hi : i = 0 <;> by_cases hj : j = 0 <;> simp [hi, hj, Nat.add_assoc]
theorem bytes_nil : BytesAt w B A [] := fun h => absurd rfl h
theorem BytesAt.keep (h : BytesAt w B A l) (hk : ∀ p : Addr, p.block < B → w'.cell? p = w.cell? p) : BytesAt w' B A l := fun hl => by
  obtain ⟨ad, e, hb, hc⟩ := h hl
  exact ⟨ad, e, hb, fun k hk' => (hk _ (by rw [block_add]; exact hb)).trans (hc k hk')⟩
theorem BytesAt.below (h : BytesAt w B A l) (hb : Below B w w') : BytesAt w' B A l := h.keep fun _ hp => hb.cell hp
theorem BytesAt.belowN (h : BytesAt w B A l) (hb : Below B' w w') (hB : B ≤ B') : BytesAt w' B A l := h.keep fun _ hp => hb.cell (by omega)
theorem BytesAt.more (h : BytesAt w B A l) (hB : B ≤ B') : BytesAt w B' A l := fun hl => by
  obtain ⟨ad, e, hb, hc⟩ := h hl
  exact ⟨ad, e, by omega, hc⟩
theorem BytesAt.alloc (h : BytesAt w B A l) (hB : B ≤ w.heap.size) (o : Obj) : BytesAt (w.alloc o) B A l := h.belowN ((Below.refl _ _).alloc hB o) (Nat.le_refl _)
theorem BytesAt.drewN (h : BytesAt w B A l) (n : Nat) : BytesAt (w.drewN n) B A l := h
theorem BytesAt.drew (h : BytesAt w B A l) : BytesAt w.drew B A l := h
/-- bytes as cells -/
def cellsOfBytes (l : List UInt8) : List Value := l.map fun x => .int .u8 (x.toNat : Int)
theorem cellsOfBytes_get (l : List UInt8) (k : Nat) (hk : k < l.length) : (cellsOfBytes l)[k]? = some (.int .u8 ((l.getD k 0).toNat : Int)) := by
  simp [cellsOfBytes, hk]
/-- a block whose first cells are the bytes -/
theorem bytes_block {b : Nat} {cs : Array Value} {t : TypeId} {fr : Nat × Nat} (hb : w.heap[b]? = some (.cells cs t fr)) (hB : b < B) (h : ∀ k, k < l.length → cs[k]? = some (.int .u8 ((l.getD k 0).toNat : Int))) :
    BytesAt w B (some ⟨b, 0, none⟩) l := fun _ => ⟨_, rfl, hB, fun k hk => by
  have e : (⟨b, 0, none⟩ : Addr).add k = ⟨b, k, none⟩ := by
    by_cases h0 : k = 0 <;> simp [Addr.add, h0]
  rw [e]
  simp [World.cell?, hb, h k hk]⟩
theorem bytes_new (w : World) (l : List UInt8) (t : TypeId) (fr : Nat × Nat) : BytesAt (w.alloc (.cells (cellsOfBytes l).toArray t fr)) (w.heap.size + 1) (some ⟨w.heap.size, 0, none⟩) l :=
  bytes_block (heap_alloc_new w _) (Nat.lt_succ_self _) fun k hk => by rw [List.getElem?_toArray]; exact cellsOfBytes_get l k hk
theorem bytes_new_at (w : World) (l : List UInt8) (t : TypeId) (fr : Nat × Nat) (g B : Nat) (hg : g = w.heap.size) (hB : g < B) : BytesAt (w.alloc (.cells (cellsOfBytes l).toArray t fr)) B (some ⟨g, 0, none⟩) l := by
  subst hg
  exact (bytes_new w l t fr).more (by omega)

/-- where a slice that is cut ahead begins -/
def cutA (A : Option Addr) (k c : Nat) : Option Addr := if c = k then A else A.map (·.add k)
theorem BytesAt.take (h : BytesAt w B A l) (k : Nat) : BytesAt w B A (l.take k) := fun hne => by
  have hl : l ≠ [] := by rintro rfl; simp at hne
  obtain ⟨ad, e, hb, hc⟩ := h hl
  refine ⟨ad, e, hb, fun j hj => ?_⟩
  simp only [List.length_take] at hj
  rw [hc j (by omega)]
  simp [show j < k by omega]
theorem BytesAt.drop (h : BytesAt w B A l) (k c : Nat) (hc : l.length ≤ c) : BytesAt w B (cutA A k c) (l.drop k) := fun hne => by
  have hk : k < l.length := by
    rcases Nat.lt_or_ge k l.length with h1 | h1
    · exact h1
    · exact absurd (List.drop_eq_nil_of_le h1) hne
  have hl : l ≠ [] := by rintro rfl; simp at hne
  obtain ⟨ad, rfl, hb, hcell⟩ := h hl
  refine ⟨ad.add k, ?_, by rw [block_add]; exact hb, fun j hj => ?_⟩
  · unfold cutA
    rw [if_neg (by omega)]
    rfl
  · simp only [List.length_drop] at hj
    rw [add_add, hcell (k + j) (by omega)]
    simp

section
variable {P : Program} {t : TypeId}
theorem run_cut_to (ht : P.underlying t = some (.slice (P.elem t))) (hs : ∀ w, (sizeOf (P.elem t)).run P w = .ok 1 w) (A : Option Addr) (n c k : Nat) (hk : k ≤ c) (W : World) :
    (Instr.slice t (.slice A n c) none (some (.int .i64 (k : Int))) none).run P W = .ok (.slice A k c) W := by
  rw [run_slice_h W t A n c ht .i64 (k : Int) (by omega) (by omega), hs]
  have e0 : ∀ a : Addr, a.add 0 = a := add_zero
  simp only [Result.andThen, sliced, Int.toNat_natCast, Nat.zero_mul, Nat.sub_zero]
  congr 2
  split
  · rfl
  · cases A <;> simp [e0]
theorem run_cut_from (ht : P.underlying t = some (.slice (P.elem t))) (hs : ∀ w, (sizeOf (P.elem t)).run P w = .ok 1 w) (A : Option Addr) (n c k : Nat) (hk : k ≤ n) (W : World) :
    (Instr.slice t (.slice A n c) (some (.int .i64 (k : Int))) none none).run P W = .ok (.slice (cutA A k c) (n - k) (c - k)) W := by
  rw [run_slice_l W t A n c ht .i64 (k : Int) (by omega) (by omega), hs]
  simp only [Result.andThen, sliced, Int.toNat_natCast, Nat.mul_one, cutA]
end
end Go.Proofs.Ytebicjblplkdeaa
