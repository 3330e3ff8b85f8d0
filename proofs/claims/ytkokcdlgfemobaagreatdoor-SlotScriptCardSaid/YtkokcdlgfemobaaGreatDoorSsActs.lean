/-
  The calls of a script of slots (tandemlaw05.Act), as they came in. Conditions: none.
-/
import Derived.Test.YtkokcdlgfemobaaGreatDoorHaMid
namespace Go.Proofs.YtkokcdlgfemobaaGreatDoor
open Go.RowKit Fix

theorem ha_cells {w : World} {g : Nat} {m : HaM} (h : BlkR 35 w g (haCells m)) : w.cell? ⟨g, 0, none⟩ = some (.int .i64 m.kind) ∧ w.cell? ⟨g, 2, none⟩ = some (.int .i64 m.at_) ∧ w.cell? ⟨g, 4, none⟩ = some (.slice m.A m.b.length m.cb) := ⟨h.cell rfl, h.cell rfl, h.cell rfl⟩
/-- the slice at A0 reads as the calls ms, below block B -/
structure SasAt (w : World) (B : Nat) (A0 : Option Addr) (ms : List HaM) : Prop where
  at_ : ms ≠ [] → ∃ ad, A0 = some ad ∧ ad.block < B ∧ ∀ k m, ms[k]? = some m → ∀ j v, (haCells m)[j]? = some v → w.cell? ((ad.add (k * 6)).add j) = some v
  in_ : ∀ m, m ∈ ms → HaIn w B m
theorem SasAt.below {w w' : World} {B : Nat} {A0 : Option Addr} {ms : List HaM} (h : SasAt w B A0 ms) (hb : Below B w w') : SasAt w' B A0 ms :=
  ⟨fun hne => by
    obtain ⟨ad, e, hB, hc⟩ := h.at_ hne
    exact ⟨ad, e, hB, fun k m hm j v hv => (hb.cell (by rw [block_add, block_add]; exact hB)).trans (hc k m hm j v hv)⟩,
   fun m hm => (h.in_ m hm).below hb⟩
theorem SasAt.run {w : World} {B : Nat} {A0 : Option Addr} {ms : List HaM} (h : SasAt w B A0 ms) : RunAt w 6 0 A0 ms := fun hne => by
  obtain ⟨ad, e, _, hc⟩ := h.at_ hne
  exact ⟨ad, e, fun k m hm j v hv => by rw [Nat.zero_add]; exact hc k m hm j v hv⟩
theorem sa_at {w wr : World} {A0 : Option Addr} {l : List HaM} {m : HaM} {k : Nat} (hA : SasAt w w.heap.size A0 l) (hb : Below w.heap.size w wr) (hm : l[k]? = some m) : ∃ ad, A0 = some ad ∧
    wr.cell? (ad.add (k * 6)) = some (.int .i64 m.kind) ∧ wr.cell? ⟨(ad.add (k * 6)).block, (ad.add (k * 6)).off + 1, none⟩ = some (.int .i64 m.n) ∧ wr.cell? ⟨(ad.add (k * 6)).block, (ad.add (k * 6)).off + 2, none⟩ = some (.int .i64 m.at_) ∧
    wr.cell? ⟨(ad.add (k * 6)).block, (ad.add (k * 6)).off + 3, none⟩ = some (.int .u8 (m.mask.toNat : Int)) ∧ wr.cell? ⟨(ad.add (k * 6)).block, (ad.add (k * 6)).off + 4, none⟩ = some (.slice m.A m.b.length m.cb) ∧ wr.cell? ⟨(ad.add (k * 6)).block, (ad.add (k * 6)).off + 5, none⟩ = some (.slice m.AK m.keeps.length m.ck) := by
  obtain ⟨ad, e, _, hc⟩ := (hA.below hb).at_ (by rintro rfl; simp at hm)
  have y0 := hc k m hm 0 _ rfl
  have y1 := hc k m hm 1 _ rfl
  have y2 := hc k m hm 2 _ rfl
  have y3 := hc k m hm 3 _ rfl
  have y4 := hc k m hm 4 _ rfl
  have y5 := hc k m hm 5 _ rfl
  rw [ha_none] at y0
  rw [ha_add _ _ (by decide)] at y1 y2 y3 y4 y5
  exact ⟨ad, e, y0, y1, y2, y3, y4, y5⟩
theorem haLong_k (w : World) (A0 : Option Addr) (ms : List HaM) (k c0 : Nat) (hk : ms.length = k) (h : RunAt w 6 0 A0 ms) (hm : k ≤ 9223372036854775807) : Calls Tryz.prog 4 #[.slice A0 k c0] w (HaLongPost ms w) := by
  subst hk
  exact haLong_any w A0 ms c0 h hm
end Go.Proofs.YtkokcdlgfemobaaGreatDoor
