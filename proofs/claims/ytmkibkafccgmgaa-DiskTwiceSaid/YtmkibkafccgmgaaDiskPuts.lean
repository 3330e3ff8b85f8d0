/-
  A list of writes that came in (sector, byte, flush), as the statements on disks read it. Conditions: none.
-/
import Derived.Test.YtmkibkafccgmgaaDiskKit
namespace Go.Proofs.Ytmkibkafccgmgaa
open Go.RowKit

structure PutV where
  sector : Int
  byte : UInt8
  flush : Bool
/-- the slice at A reads as the writes ps, below block B -/
def PutsAt (w : World) (B : Nat) (A : Option Addr) (ps : List PutV) : Prop :=
  ps ≠ [] → ∃ ad, A = some ad ∧ ad.block < B ∧ ∀ k p, ps[k]? = some p → w.cell? (ad.add (k * 3)) = some (.int .i64 p.sector) ∧ w.cell? ((ad.add (k * 3)).add 1) = some (.int .u8 (p.byte.toNat : Int)) ∧ w.cell? ((ad.add (k * 3)).add 2) = some (.bool p.flush)
theorem PutsAt.below {w w' : World} {B : Nat} {A : Option Addr} {ps : List PutV} (h : PutsAt w B A ps) (hb : Below B w w') : PutsAt w' B A ps := fun hne => by
  obtain ⟨ad, e, hB, hc⟩ := h hne
  refine ⟨ad, e, hB, fun k p hp => ?_⟩
  obtain ⟨h1, h2, h3⟩ := hc k p hp
  exact ⟨(hb.cell (by rw [block_add]; exact hB)).trans h1, (hb.cell (by rw [block_add, block_add]; exact hB)).trans h2, (hb.cell (by rw [block_add, block_add]; exact hB)).trans h3⟩
theorem PutsAt.more {w : World} {B B' : Nat} {A : Option Addr} {ps : List PutV} (h : PutsAt w B A ps) (hB : B ≤ B') : PutsAt w B' A ps := fun hne => by
  obtain ⟨ad, e, hb, hc⟩ := h hne
  exact ⟨ad, e, by omega, hc⟩
theorem add_pos (a : Addr) (n : Nat) (h : n ≠ 0) : a.add n = ⟨a.block, a.off + n, none⟩ := by unfold Addr.add; rw [if_neg h]
theorem PutsAt.at_ {w : World} {B k : Nat} {A : Option Addr} {ps : List PutV} {p : PutV} (h : PutsAt w B A ps) (hp : ps[k]? = some p) :
    ∃ ad, A = some ad ∧ ad.block < B ∧ w.cell? (ad.add (k * 3)) = some (.int .i64 p.sector) ∧ w.cell? ⟨(ad.add (k * 3)).block, (ad.add (k * 3)).off + 1, none⟩ = some (.int .u8 (p.byte.toNat : Int)) ∧
      w.cell? ⟨(ad.add (k * 3)).block, (ad.add (k * 3)).off + 2, none⟩ = some (.bool p.flush) := by
  obtain ⟨ad, e, hb, hc⟩ := h (by rintro rfl; simp at hp)
  obtain ⟨h1, h2, h3⟩ := hc k p hp
  rw [add_pos _ 1 (by decide)] at h2
  rw [add_pos _ 2 (by decide)] at h3
  exact ⟨ad, e, hb, h1, h2, h3⟩
end Go.Proofs.Ytmkibkafccgmgaa
