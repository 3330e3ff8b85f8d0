/-
  The calls of a script of maps of dirty blocks (tandemlaw10.Act), as they lie in memory. Conditions: none.
-/
import Derived.Test.YtcahpodmcklnbaaGreatDoorHaRun
namespace Go.Proofs.YtcahpodmcklnbaaGreatDoor
open Go.RowKit Fix

structure DaM where
  h : HaM
  v : Nat
def daCells (x : DaM) : List Value := [.int .i64 x.h.kind, .int .i64 x.h.n, .int .i64 x.h.at_, .int .u8 (x.h.mask.toNat : Int), .slice x.h.A x.h.b.length x.h.cb, .slice x.h.AK x.h.keeps.length x.h.ck, .int .u64 (x.v : Int)]
theorem da_one (m : DaM) : ∀ v ∈ daCells m, v.oneCell' = true := by
  intro v hv
  simp only [daCells, List.mem_cons, List.not_mem_nil, or_false] at hv
  rcases hv with rfl | rfl | rfl | rfl | rfl | rfl | rfl <;> rfl
def daZ : List Value := [.int .i64 0, .int .i64 0, .int .i64 0, .int .u8 0, .slice none 0 0, .slice none 0 0, .int .u64 0]
theorem daTy : RowTy Tryz.prog 38 daZ := ⟨fun w => by kernel_rfl, by kernel_rfl, _, Tryz.underlying38, rfl⟩
/-- the slice at A0 reads as the calls ms, below block B -/
structure DasAt (w : World) (B : Nat) (A0 : Option Addr) (ms : List DaM) : Prop where
  at_ : ms ≠ [] → ∃ ad, A0 = some ad ∧ ad.block < B ∧ ∀ k m, ms[k]? = some m → ∀ j v, (daCells m)[j]? = some v → w.cell? ((ad.add (k * 7)).add j) = some v
  in_ : ∀ m, m ∈ ms → HaIn w B m.h
  v : ∀ m, m ∈ ms → m.v < 2 ^ 64
theorem DasAt.below {w w' : World} {B : Nat} {A0 : Option Addr} {ms : List DaM} (h : DasAt w B A0 ms) (hb : Below B w w') : DasAt w' B A0 ms :=
  ⟨fun hne => by
    obtain ⟨ad, e, hB, hc⟩ := h.at_ hne
    exact ⟨ad, e, hB, fun k m hm j v hv => (hb.cell (by rw [block_add, block_add]; exact hB)).trans (hc k m hm j v hv)⟩,
   fun m hm => (h.in_ m hm).below hb, h.v⟩
theorem da_at {w wr : World} {A0 : Option Addr} {l : List DaM} {m : DaM} {k : Nat} (hA : DasAt w w.heap.size A0 l) (hb : Below w.heap.size w wr) (hm : l[k]? = some m) : ∃ ad, A0 = some ad ∧
    wr.cell? (ad.add (k * 7)) = some (.int .i64 m.h.kind) ∧ wr.cell? ⟨(ad.add (k * 7)).block, (ad.add (k * 7)).off + 1, none⟩ = some (.int .i64 m.h.n) ∧ wr.cell? ⟨(ad.add (k * 7)).block, (ad.add (k * 7)).off + 2, none⟩ = some (.int .i64 m.h.at_) ∧
    wr.cell? ⟨(ad.add (k * 7)).block, (ad.add (k * 7)).off + 3, none⟩ = some (.int .u8 (m.h.mask.toNat : Int)) ∧ wr.cell? ⟨(ad.add (k * 7)).block, (ad.add (k * 7)).off + 4, none⟩ = some (.slice m.h.A m.h.b.length m.h.cb) ∧ wr.cell? ⟨(ad.add (k * 7)).block, (ad.add (k * 7)).off + 5, none⟩ = some (.slice m.h.AK m.h.keeps.length m.h.ck) ∧
    wr.cell? ⟨(ad.add (k * 7)).block, (ad.add (k * 7)).off + 6, none⟩ = some (.int .u64 (m.v : Int)) := by
  obtain ⟨ad, e, _, hc⟩ := (hA.below hb).at_ (by rintro rfl; simp at hm)
  have y0 := hc k m hm 0 _ rfl
  have y1 := hc k m hm 1 _ rfl
  have y2 := hc k m hm 2 _ rfl
  have y3 := hc k m hm 3 _ rfl
  have y4 := hc k m hm 4 _ rfl
  have y5 := hc k m hm 5 _ rfl
  have y6 := hc k m hm 6 _ rfl
  rw [ha_none] at y0
  rw [ha_add _ _ (by decide)] at y1 y2 y3 y4 y5 y6
  exact ⟨ad, e, y0, y1, y2, y3, y4, y5, y6⟩
theorem da_cells {w : World} {g : Nat} {m : DaM} {E : TypeId} (h : BlkR E w g (daCells m)) : w.cell? ⟨g, 0, none⟩ = some (.int .i64 m.h.kind) ∧ w.cell? ⟨g, 1, none⟩ = some (.int .i64 m.h.n) ∧ w.cell? ⟨g, 2, none⟩ = some (.int .i64 m.h.at_) ∧ w.cell? ⟨g, 4, none⟩ = some (.slice m.h.A m.h.b.length m.h.cb) ∧ w.cell? ⟨g, 6, none⟩ = some (.int .u64 (m.v : Int)) :=
  ⟨h.cell rfl, h.cell rfl, h.cell rfl, h.cell rfl, h.cell rfl⟩
end Go.Proofs.YtcahpodmcklnbaaGreatDoor
