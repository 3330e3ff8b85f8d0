/-
  Saves of metas that may stop, as they lie in memory. Conditions: none.
-/
import Derived.Test.YtebicjblplkdeaaDoorSlKeep
import Derived.Test.YtebicjblplkdeaaDoorMa
namespace Go.Proofs.YtebicjblplkdeaaDoor
open Go.RowKit Fix

/-- a save of a meta as it lies in memory -/
structure MSave where
  m : Mt
  stop : Int
  keeps : List Bool
  AK : Option Addr
  ck : Nat
  tear : Int
def msCells (s : MSave) : List Value := [.int .i64 s.m.t, .int .i64 s.m.v, .int .i64 s.m.rt, .int .i64 s.m.rn, .int .i64 s.m.rs, .int .i64 s.m.b, .int .i64 s.stop, .slice s.AK s.keeps.length s.ck, .int .i64 s.tear]
/-- the slice at A0 reads as the saves l, below block B -/
structure MSavesAt (w : World) (B : Nat) (A0 : Option Addr) (l : List MSave) : Prop where
  at_ : l ≠ [] → ∃ ad, A0 = some ad ∧ ad.block < B ∧ ∀ k m, l[k]? = some m → ∀ j v, (msCells m)[j]? = some v → w.cell? ((ad.add (k * 9)).add j) = some v
  k : ∀ m, m ∈ l → RowAt w B m.AK (m.keeps.map Value.bool)
  n : ∀ m, m ∈ l → -9223372036854775808 ≤ m.stop ∧ m.stop ≤ 9223372036854775807
theorem MSavesAt.below {w w' : World} {B : Nat} {A0 : Option Addr} {l : List MSave} (h : MSavesAt w B A0 l) (hb : Below B w w') : MSavesAt w' B A0 l :=
  ⟨fun hne => by
    obtain ⟨ad, e, hB, hc⟩ := h.at_ hne
    exact ⟨ad, e, hB, fun k m hm j v hv => (hb.cell (by rw [block_add, block_add]; exact hB)).trans (hc k m hm j v hv)⟩,
   fun m hm => (h.k m hm).below hb, h.n⟩
def msZ : List Value := [.int .i64 0, .int .i64 0, .int .i64 0, .int .i64 0, .int .i64 0, .int .i64 0, .int .i64 0, .slice none 0 0, .int .i64 0]
theorem msTy : RowTy Tryd.prog 49 msZ := ⟨fun w => by kernel_rfl, by kernel_rfl, _, Tryd.underlying49, rfl⟩
theorem ms_one (m : MSave) : ∀ v ∈ msCells m, v.oneCell' = true := by
  intro v hv
  simp only [msCells, List.mem_cons, List.not_mem_nil, or_false] at hv
  rcases hv with rfl | rfl | rfl | rfl | rfl | rfl | rfl | rfl | rfl <;> rfl
/-- the cells of the save at k -/
theorem ms_at {w wr : World} {A0 : Option Addr} {l : List MSave} {m : MSave} {k : Nat} (hA : MSavesAt w w.heap.size A0 l) (hb : Below w.heap.size w wr) (hm : l[k]? = some m) : ∃ ad, A0 = some ad ∧
    wr.cell? (ad.add (k * 9)) = some (.int .i64 m.m.t) ∧ wr.cell? ⟨(ad.add (k * 9)).block, (ad.add (k * 9)).off + 1, none⟩ = some (.int .i64 m.m.v) ∧ wr.cell? ⟨(ad.add (k * 9)).block, (ad.add (k * 9)).off + 2, none⟩ = some (.int .i64 m.m.rt) ∧
    wr.cell? ⟨(ad.add (k * 9)).block, (ad.add (k * 9)).off + 3, none⟩ = some (.int .i64 m.m.rn) ∧ wr.cell? ⟨(ad.add (k * 9)).block, (ad.add (k * 9)).off + 4, none⟩ = some (.int .i64 m.m.rs) ∧ wr.cell? ⟨(ad.add (k * 9)).block, (ad.add (k * 9)).off + 5, none⟩ = some (.int .i64 m.m.b) ∧
    wr.cell? ⟨(ad.add (k * 9)).block, (ad.add (k * 9)).off + 6, none⟩ = some (.int .i64 m.stop) ∧ wr.cell? ⟨(ad.add (k * 9)).block, (ad.add (k * 9)).off + 7, none⟩ = some (.slice m.AK m.keeps.length m.ck) ∧ wr.cell? ⟨(ad.add (k * 9)).block, (ad.add (k * 9)).off + 8, none⟩ = some (.int .i64 m.tear) := by
  obtain ⟨ad, e, _, hc⟩ := (hA.below hb).at_ (by rintro rfl; simp at hm)
  have y0 := hc k m hm 0 _ rfl
  have y1 := hc k m hm 1 _ rfl
  have y2 := hc k m hm 2 _ rfl
  have y3 := hc k m hm 3 _ rfl
  have y4 := hc k m hm 4 _ rfl
  have y5 := hc k m hm 5 _ rfl
  have y6 := hc k m hm 6 _ rfl
  have y7 := hc k m hm 7 _ rfl
  have y8 := hc k m hm 8 _ rfl
  rw [show (ad.add (k * 9)).add 0 = ad.add (k * 9) by unfold Addr.add; simp] at y0
  rw [saveAdd _ _ (by decide)] at y1 y2 y3 y4 y5 y6 y7 y8
  exact ⟨ad, e, y0, y1, y2, y3, y4, y5, y6, y7, y8⟩
theorem ms_cells {w : World} {g : Nat} {m : MSave} (h : BlkR 49 w g (msCells m)) : w.cell? ⟨g, 0, none⟩ = some (.int .i64 m.m.t) ∧ w.cell? ⟨g, 1, none⟩ = some (.int .i64 m.m.v) ∧ w.cell? ⟨g, 2, none⟩ = some (.int .i64 m.m.rt) ∧ w.cell? ⟨g, 3, none⟩ = some (.int .i64 m.m.rn) ∧ w.cell? ⟨g, 4, none⟩ = some (.int .i64 m.m.rs) ∧ w.cell? ⟨g, 5, none⟩ = some (.int .i64 m.m.b) ∧
    w.cell? ⟨g, 6, none⟩ = some (.int .i64 m.stop) ∧ w.cell? ⟨g, 7, none⟩ = some (.slice m.AK m.keeps.length m.ck) ∧ w.cell? ⟨g, 8, none⟩ = some (.int .i64 m.tear) :=
  ⟨h.cell rfl, h.cell rfl, h.cell rfl, h.cell rfl, h.cell rfl, h.cell rfl, h.cell rfl, h.cell rfl, h.cell rfl⟩
end Go.Proofs.YtebicjblplkdeaaDoor
