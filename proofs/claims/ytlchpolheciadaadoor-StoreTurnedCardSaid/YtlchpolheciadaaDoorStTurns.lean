/-
  A list of turned bytes that came in, as the statements on stores read it. Conditions: none.
-/
import Derived.Test.YtlchpolheciadaaDoorStTold
namespace Go.Proofs.YtlchpolheciadaaDoor
open Go.RowKit Fix

structure T9M where
  sec : Int
  at_ : Int
  mask : UInt8
/-- the slice at A reads as the turns l, below block B -/
structure T9sAt (w : World) (B : Nat) (A : Option Addr) (l : List T9M) : Prop where
  at_ : l ≠ [] → ∃ ad, A = some ad ∧ ad.block < B ∧ ∀ k p, l[k]? = some p → w.cell? (ad.add (k * 3)) = some (.int .i64 p.sec) ∧ w.cell? ((ad.add (k * 3)).add 1) = some (.int .i64 p.at_) ∧ w.cell? ((ad.add (k * 3)).add 2) = some (.int .u8 (p.mask.toNat : Int))
  s : ∀ p, p ∈ l → -9223372036854775808 ≤ p.sec ∧ p.sec ≤ 9223372036854775807
  a : ∀ p, p ∈ l → -9223372036854775808 ≤ p.at_ ∧ p.at_ ≤ 9223372036854775807
theorem t9_at {w wr : World} {A : Option Addr} {l : List T9M} {p : T9M} {k : Nat} (h : T9sAt w w.heap.size A l) (hb : Below w.heap.size w wr) (hp : l[k]? = some p) :
    ∃ ad, A = some ad ∧ wr.cell? (ad.add (k * 3)) = some (.int .i64 p.sec) ∧ wr.cell? ⟨(ad.add (k * 3)).block, (ad.add (k * 3)).off + 1, none⟩ = some (.int .i64 p.at_) ∧
      wr.cell? ⟨(ad.add (k * 3)).block, (ad.add (k * 3)).off + 2, none⟩ = some (.int .u8 (p.mask.toNat : Int)) := by
  obtain ⟨ad, e, hB, hc⟩ := h.at_ (by rintro rfl; simp at hp)
  obtain ⟨h1, h2, h3⟩ := hc k p hp
  have g1 := (hb.cell (p := ad.add (k * 3)) (by rw [block_add]; exact hB)).trans h1
  have g2 := (hb.cell (p := (ad.add (k * 3)).add 1) (by rw [block_add, block_add]; exact hB)).trans h2
  have g3 := (hb.cell (p := (ad.add (k * 3)).add 2) (by rw [block_add, block_add]; exact hB)).trans h3
  rw [p9Add _ _ (by decide)] at g2 g3
  exact ⟨ad, e, g1, g2, g3⟩
end Go.Proofs.YtlchpolheciadaaDoor
