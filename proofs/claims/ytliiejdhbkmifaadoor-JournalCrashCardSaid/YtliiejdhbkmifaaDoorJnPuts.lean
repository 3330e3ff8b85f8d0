/-
  Writes of entries that may stop, as they lie in memory. Conditions: none.
-/
import Derived.Test.YtliiejdhbkmifaaDoorSlKeep
import Derived.Test.YtliiejdhbkmifaaDoorJo
namespace Go.Proofs.YtliiejdhbkmifaaDoor
open Go.RowKit Fix

/-- a write of an entry as it lies in memory -/
structure PuM where
  blk : Int
  d : List UInt8
  A : Option Addr
  cb : Nat
  stop : Int
  keeps : List Bool
  AK : Option Addr
  ck : Nat
  tear : Int
def puCells (s : PuM) : List Value := [.int .i64 s.blk, .slice s.A s.d.length s.cb, .int .i64 s.stop, .slice s.AK s.keeps.length s.ck, .int .i64 s.tear]
/-- the slice at A0 reads as the writes l, below block B -/
structure PusAt (w : World) (B : Nat) (A0 : Option Addr) (l : List PuM) : Prop where
  at_ : l ≠ [] → ∃ ad, A0 = some ad ∧ ad.block < B ∧ ∀ k m, l[k]? = some m → ∀ j v, (puCells m)[j]? = some v → w.cell? ((ad.add (k * 5)).add j) = some v
  b : ∀ m, m ∈ l → BytesAt w B m.A m.d
  k : ∀ m, m ∈ l → RowAt w B m.AK (m.keeps.map Value.bool)
  n : ∀ m, m ∈ l → -9223372036854775808 ≤ m.stop ∧ m.stop ≤ 9223372036854775807
  i : ∀ m, m ∈ l → -9223372036854775808 ≤ m.blk ∧ m.blk ≤ 9223372036854775807
theorem PusAt.below {w w' : World} {B : Nat} {A0 : Option Addr} {l : List PuM} (h : PusAt w B A0 l) (hb : Below B w w') : PusAt w' B A0 l :=
  ⟨fun hne => by
    obtain ⟨ad, e, hB, hc⟩ := h.at_ hne
    exact ⟨ad, e, hB, fun k m hm j v hv => (hb.cell (by rw [block_add, block_add]; exact hB)).trans (hc k m hm j v hv)⟩,
   fun m hm => (h.b m hm).below hb, fun m hm => (h.k m hm).below hb, h.n, h.i⟩
def puZ : List Value := [.int .i64 0, .slice none 0 0, .int .i64 0, .slice none 0 0, .int .i64 0]
theorem puTy : RowTy Tryd.prog 71 puZ := ⟨fun w => by kernel_rfl, by kernel_rfl, _, Tryd.underlying71, rfl⟩
theorem pu_one (m : PuM) : ∀ v ∈ puCells m, v.oneCell' = true := by
  intro v hv
  simp only [puCells, List.mem_cons, List.not_mem_nil, or_false] at hv
  rcases hv with rfl | rfl | rfl | rfl | rfl <;> rfl
theorem puAdd (a : Addr) (n : Nat) (h : n ≠ 0) : a.add n = ⟨a.block, a.off + n, none⟩ := by unfold Addr.add; rw [if_neg h]
/-- the cells of the write at k -/
theorem pu_at {w wr : World} {A0 : Option Addr} {l : List PuM} {m : PuM} {k : Nat} (hA : PusAt w w.heap.size A0 l) (hb : Below w.heap.size w wr) (hm : l[k]? = some m) : ∃ ad, A0 = some ad ∧
    wr.cell? (ad.add (k * 5)) = some (.int .i64 m.blk) ∧ wr.cell? ⟨(ad.add (k * 5)).block, (ad.add (k * 5)).off + 1, none⟩ = some (.slice m.A m.d.length m.cb) ∧ wr.cell? ⟨(ad.add (k * 5)).block, (ad.add (k * 5)).off + 2, none⟩ = some (.int .i64 m.stop) ∧
    wr.cell? ⟨(ad.add (k * 5)).block, (ad.add (k * 5)).off + 3, none⟩ = some (.slice m.AK m.keeps.length m.ck) ∧ wr.cell? ⟨(ad.add (k * 5)).block, (ad.add (k * 5)).off + 4, none⟩ = some (.int .i64 m.tear) := by
  obtain ⟨ad, e, _, hc⟩ := (hA.below hb).at_ (by rintro rfl; simp at hm)
  have y0 := hc k m hm 0 _ rfl
  have y1 := hc k m hm 1 _ rfl
  have y2 := hc k m hm 2 _ rfl
  have y3 := hc k m hm 3 _ rfl
  have y4 := hc k m hm 4 _ rfl
  rw [show (ad.add (k * 5)).add 0 = ad.add (k * 5) by unfold Addr.add; simp] at y0
  rw [puAdd _ _ (by decide)] at y1 y2 y3 y4
  exact ⟨ad, e, y0, y1, y2, y3, y4⟩
theorem pu_cells {w : World} {g : Nat} {m : PuM} {E : TypeId} (h : BlkR E w g (puCells m)) : w.cell? ⟨g, 0, none⟩ = some (.int .i64 m.blk) ∧ w.cell? ⟨g, 1, none⟩ = some (.slice m.A m.d.length m.cb) ∧ w.cell? ⟨g, 2, none⟩ = some (.int .i64 m.stop) ∧ w.cell? ⟨g, 3, none⟩ = some (.slice m.AK m.keeps.length m.ck) ∧ w.cell? ⟨g, 4, none⟩ = some (.int .i64 m.tear) :=
  ⟨h.cell rfl, h.cell rfl, h.cell rfl, h.cell rfl, h.cell rfl⟩
end Go.Proofs.YtliiejdhbkmifaaDoor
