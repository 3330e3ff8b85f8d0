/-
  Steps of a map of dirty blocks that may stop, as they lie in memory. Conditions: none.
-/
import Derived.Test.YtcahpodmcklnbaaDoorDyMath
import Derived.Test.YtcahpodmcklnbaaDoorSlKeep
import Derived.Test.YtcahpodmcklnbaaDoorBa
namespace Go.Proofs.YtcahpodmcklnbaaDoor
open Go.RowKit Fix

/-- a step as it lies in memory -/
structure D10M where
  k : Int
  n : Int
  stop : Int
  v : Nat
  keeps : List Bool
  AK : Option Addr
  ck : Nat
  tear : Int
def d10Cells (s : D10M) : List Value := [.int .i64 s.k, .int .i64 s.n, .int .i64 s.stop, .int .u64 (s.v : Int), .slice s.AK s.keeps.length s.ck, .int .i64 s.tear]
/-- the slice at A0 reads as the steps l, below block B -/
structure D10sAt (w : World) (B : Nat) (A0 : Option Addr) (l : List D10M) : Prop where
  at_ : l ≠ [] → ∃ ad, A0 = some ad ∧ ad.block < B ∧ ∀ k m, l[k]? = some m → ∀ j v, (d10Cells m)[j]? = some v → w.cell? ((ad.add (k * 6)).add j) = some v
  k : ∀ m, m ∈ l → RowAt w B m.AK (m.keeps.map Value.bool)
  n : ∀ m, m ∈ l → -9223372036854775808 ≤ m.stop ∧ m.stop ≤ 9223372036854775807
  v : ∀ m, m ∈ l → m.v < 2 ^ 64
  c : ∀ m, m ∈ l → m.keeps.length ≤ m.ck
theorem D10sAt.below {w w' : World} {B : Nat} {A0 : Option Addr} {l : List D10M} (h : D10sAt w B A0 l) (hb : Below B w w') : D10sAt w' B A0 l :=
  ⟨fun hne => by
    obtain ⟨ad, e, hB, hc⟩ := h.at_ hne
    exact ⟨ad, e, hB, fun k m hm j v hv => (hb.cell (by rw [block_add, block_add]; exact hB)).trans (hc k m hm j v hv)⟩,
   fun m hm => (h.k m hm).below hb, h.n, h.v, h.c⟩
def d10Z : List Value := [.int .i64 0, .int .i64 0, .int .i64 0, .int .u64 0, .slice none 0 0, .int .i64 0]
theorem d10Ty : RowTy Tryd.prog 54 d10Z := ⟨fun w => by kernel_rfl, by kernel_rfl, _, Tryd.underlying54, rfl⟩
theorem d10_one (m : D10M) : ∀ v ∈ d10Cells m, v.oneCell' = true := by
  intro v hv
  simp only [d10Cells, List.mem_cons, List.not_mem_nil, or_false] at hv
  rcases hv with rfl | rfl | rfl | rfl | rfl | rfl <;> rfl
/-- the cells of the step at k -/
theorem d10_at {w wr : World} {A0 : Option Addr} {l : List D10M} {m : D10M} {k : Nat} (hA : D10sAt w w.heap.size A0 l) (hb : Below w.heap.size w wr) (hm : l[k]? = some m) : ∃ ad, A0 = some ad ∧
    wr.cell? (ad.add (k * 6)) = some (.int .i64 m.k) ∧ wr.cell? ⟨(ad.add (k * 6)).block, (ad.add (k * 6)).off + 1, none⟩ = some (.int .i64 m.n) ∧ wr.cell? ⟨(ad.add (k * 6)).block, (ad.add (k * 6)).off + 2, none⟩ = some (.int .i64 m.stop) ∧
    wr.cell? ⟨(ad.add (k * 6)).block, (ad.add (k * 6)).off + 3, none⟩ = some (.int .u64 (m.v : Int)) ∧ wr.cell? ⟨(ad.add (k * 6)).block, (ad.add (k * 6)).off + 4, none⟩ = some (.slice m.AK m.keeps.length m.ck) ∧ wr.cell? ⟨(ad.add (k * 6)).block, (ad.add (k * 6)).off + 5, none⟩ = some (.int .i64 m.tear) := by
  obtain ⟨ad, e, _, hc⟩ := (hA.below hb).at_ (by rintro rfl; simp at hm)
  have y0 := hc k m hm 0 _ rfl
  have y1 := hc k m hm 1 _ rfl
  have y2 := hc k m hm 2 _ rfl
  have y3 := hc k m hm 3 _ rfl
  have y4 := hc k m hm 4 _ rfl
  have y5 := hc k m hm 5 _ rfl
  rw [show (ad.add (k * 6)).add 0 = ad.add (k * 6) by unfold Addr.add; simp] at y0
  rw [saveAdd _ _ (by decide)] at y1 y2 y3 y4 y5
  exact ⟨ad, e, y0, y1, y2, y3, y4, y5⟩
theorem d10_cells {w : World} {g : Nat} {m : D10M} {E : TypeId} (h : BlkR E w g (d10Cells m)) : w.cell? ⟨g, 0, none⟩ = some (.int .i64 m.k) ∧ w.cell? ⟨g, 1, none⟩ = some (.int .i64 m.n) ∧ w.cell? ⟨g, 2, none⟩ = some (.int .i64 m.stop) ∧ w.cell? ⟨g, 3, none⟩ = some (.int .u64 (m.v : Int)) ∧ w.cell? ⟨g, 4, none⟩ = some (.slice m.AK m.keeps.length m.ck) ∧ w.cell? ⟨g, 5, none⟩ = some (.int .i64 m.tear) :=
  ⟨h.cell rfl, h.cell rfl, h.cell rfl, h.cell rfl, h.cell rfl, h.cell rfl⟩
end Go.Proofs.YtcahpodmcklnbaaDoor
