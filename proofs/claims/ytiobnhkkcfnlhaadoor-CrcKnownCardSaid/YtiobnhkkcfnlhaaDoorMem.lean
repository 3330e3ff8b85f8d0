/-
  Words for memory: a slice of bytes that reads as a list. Conditions: none.
-/
import Derived.Test.YtiobnhkkcfnlhaaDoorProg
import Derived.WalkKit
import Derived.Below
import Derived.Lib.Hide
import Derived.Deep.Draws
namespace Go.Proofs.YtiobnhkkcfnlhaaDoor
open Go.RowKit

/-- the slice at A reads as the bytes l, and lies below block B -/
def BytesAt (w : World) (B : Nat) (A : Option Addr) (l : List UInt8) : Prop :=
  l ≠ [] → ∃ ad, A = some ad ∧ ad.block < B ∧ ∀ k, k < l.length → w.cell? (ad.add k) = some (.int .u8 ((l.getD k 0).toNat : Int))

variable {w w' : World} {B B' : Nat} {A : Option Addr} {l : List UInt8}
theorem block_add (a : Addr) (n : Nat) : (a.add n).block = a.block := by unfold Addr.add; split <;> rfl
theorem add_zero (a : Addr) : a.add 0 = a := by simp [Addr.add]
theorem add_add (a : Addr) (i j : Nat) : (a.add i).add j = a.add (i + j) := by
  unfold Addr.add
  by_cases hi : i = 0 <;> by_cases hj : j = 0 <;> simp [hi, hj, Nat.add_assoc]
theorem bytes_nil : BytesAt w B A [] := fun h => absurd rfl h
theorem BytesAt.keep (h : BytesAt w B A l) (hk : ∀ p : Addr, p.block < B → w'.cell? p = w.cell? p) : BytesAt w' B A l := fun hl => by
  obtain ⟨ad, e, hb, hc⟩ := h hl
  exact ⟨ad, e, hb, fun k hk' => (hk _ (by rw [block_add]; exact hb)).trans (hc k hk')⟩
theorem BytesAt.below (h : BytesAt w B A l) (hb : Below B w w') : BytesAt w' B A l := h.keep fun _ hp => hb.cell hp
theorem BytesAt.belowN (h : BytesAt w B A l) (hb : Below B' w w') (hB : B ≤ B') : BytesAt w' B A l := h.keep fun _ hp => hb.cell (by omega)
theorem BytesAt.more (h : BytesAt w B A l) (hB : B ≤ B') : BytesAt w B' A l := fun hl => by
  obtain ⟨ad, e, hb, hc⟩ := h hl
  exact ⟨ad, e, by omega, hc⟩
theorem BytesAt.alloc (h : BytesAt w B A l) (hB : B ≤ w.heap.size) (o : Obj) : BytesAt (w.alloc o) B A l := h.belowN ((Below.refl _ _).alloc hB o) (Nat.le_refl _)
theorem BytesAt.drewN (h : BytesAt w B A l) (n : Nat) : BytesAt (w.drewN n) B A l := h
theorem BytesAt.drew (h : BytesAt w B A l) : BytesAt w.drew B A l := h
/-- bytes as cells -/
def cellsOfBytes (l : List UInt8) : List Value := l.map fun x => .int .u8 (x.toNat : Int)
theorem cellsOfBytes_get (l : List UInt8) (k : Nat) (hk : k < l.length) : (cellsOfBytes l)[k]? = some (.int .u8 ((l.getD k 0).toNat : Int)) := by
  simp [cellsOfBytes, hk]
/-- a block whose first cells are the bytes -/
theorem bytes_block {b : Nat} {cs : Array Value} {t : TypeId} {fr : Nat × Nat} (hb : w.heap[b]? = some (.cells cs t fr)) (hB : b < B) (h : ∀ k, k < l.length → cs[k]? = some (.int .u8 ((l.getD k 0).toNat : Int))) :
    BytesAt w B (some ⟨b, 0, none⟩) l := fun _ => ⟨_, rfl, hB, fun k hk => by
  have e : (⟨b, 0, none⟩ : Addr).add k = ⟨b, k, none⟩ := by
    by_cases h0 : k = 0 <;> simp [Addr.add, h0]
  rw [e]
  simp [World.cell?, hb, h k hk]⟩
theorem bytes_new (w : World) (l : List UInt8) (t : TypeId) (fr : Nat × Nat) : BytesAt (w.alloc (.cells (cellsOfBytes l).toArray t fr)) (w.heap.size + 1) (some ⟨w.heap.size, 0, none⟩) l :=
  bytes_block (heap_alloc_new w _) (Nat.lt_succ_self _) fun k hk => by rw [List.getElem?_toArray]; exact cellsOfBytes_get l k hk
theorem bytes_new_at (w : World) (l : List UInt8) (t : TypeId) (fr : Nat × Nat) (g B : Nat) (hg : g = w.heap.size) (hB : g < B) : BytesAt (w.alloc (.cells (cellsOfBytes l).toArray t fr)) B (some ⟨g, 0, none⟩) l := by
  subst hg
  exact (bytes_new w l t fr).more (by omega)
end Go.Proofs.YtiobnhkkcfnlhaaDoor
