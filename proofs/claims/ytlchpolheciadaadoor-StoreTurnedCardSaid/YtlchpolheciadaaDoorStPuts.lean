/-
  Puts into a store that may stop, as they lie in memory. Conditions: none.
-/
import Derived.Test.YtlchpolheciadaaDoorSlKeep
import Derived.Test.YtlchpolheciadaaDoorJo
namespace Go.Proofs.YtlchpolheciadaaDoor
open Go.RowKit Fix

/-- a Put as it lies in memory -/
structure P9M where
  blk : Int
  stop : Int
  again : Int
  d : List UInt8
  A : Option Addr
  cb : Nat
  keeps : List Bool
  AK : Option Addr
  ck : Nat
  tear : Int
def p9Cells (s : P9M) : List Value := [.int .i64 s.blk, .int .i64 s.stop, .int .i64 s.again, .slice s.A s.d.length s.cb, .slice s.AK s.keeps.length s.ck, .int .i64 s.tear]
/-- the slice at A0 reads as the writes l, below block B -/
structure P9sAt (w : World) (B : Nat) (A0 : Option Addr) (l : List P9M) : Prop where
  at_ : l ≠ [] → ∃ ad, A0 = some ad ∧ ad.block < B ∧ ∀ k m, l[k]? = some m → ∀ j v, (p9Cells m)[j]? = some v → w.cell? ((ad.add (k * 6)).add j) = some v
  b : ∀ m, m ∈ l → BytesAt w B m.A m.d
  k : ∀ m, m ∈ l → RowAt w B m.AK (m.keeps.map Value.bool)
  n : ∀ m, m ∈ l → -9223372036854775808 ≤ m.stop ∧ m.stop ≤ 9223372036854775807
  i : ∀ m, m ∈ l → -9223372036854775808 ≤ m.blk ∧ m.blk ≤ 9223372036854775807
  a : ∀ m, m ∈ l → -9223372036854775808 ≤ m.again ∧ m.again ≤ 9223372036854775807
  c : ∀ m, m ∈ l → m.keeps.length ≤ m.ck
theorem P9sAt.below {w w' : World} {B : Nat} {A0 : Option Addr} {l : List P9M} (h : P9sAt w B A0 l) (hb : Below B w w') : P9sAt w' B A0 l :=
  ⟨fun hne => by
    obtain ⟨ad, e, hB, hc⟩ := h.at_ hne
    exact ⟨ad, e, hB, fun k m hm j v hv => (hb.cell (by rw [block_add, block_add]; exact hB)).trans (hc k m hm j v hv)⟩,
   fun m hm => (h.b m hm).below hb, fun m hm => (h.k m hm).below hb, h.n, h.i, h.a, h.c⟩
def p9Z : List Value := [.int .i64 0, .int .i64 0, .int .i64 0, .slice none 0 0, .slice none 0 0, .int .i64 0]
theorem p9Ty : RowTy Tryd.prog 57 p9Z := ⟨fun w => by kernel_rfl, by kernel_rfl, _, Tryd.underlying57, rfl⟩
theorem p9_one (m : P9M) : ∀ v ∈ p9Cells m, v.oneCell' = true := by
  intro v hv
  simp only [p9Cells, List.mem_cons, List.not_mem_nil, or_false] at hv
  rcases hv with rfl | rfl | rfl | rfl | rfl | rfl <;> rfl
theorem p9Add (a : Addr) (n : Nat) (h : n ≠ 0) : a.add n = ⟨a.block, a.off + n, none⟩ := by unfold Addr.add; rw [if_neg h]
/-- the cells of the Put at k -/
theorem p9_at {w wr : World} {A0 : Option Addr} {l : List P9M} {m : P9M} {k : Nat} (hA : P9sAt w w.heap.size A0 l) (hb : Below w.heap.size w wr) (hm : l[k]? = some m) : ∃ ad, A0 = some ad ∧
    wr.cell? (ad.add (k * 6)) = some (.int .i64 m.blk) ∧ wr.cell? ⟨(ad.add (k * 6)).block, (ad.add (k * 6)).off + 1, none⟩ = some (.int .i64 m.stop) ∧ wr.cell? ⟨(ad.add (k * 6)).block, (ad.add (k * 6)).off + 2, none⟩ = some (.int .i64 m.again) ∧
    wr.cell? ⟨(ad.add (k * 6)).block, (ad.add (k * 6)).off + 3, none⟩ = some (.slice m.A m.d.length m.cb) ∧ wr.cell? ⟨(ad.add (k * 6)).block, (ad.add (k * 6)).off + 4, none⟩ = some (.slice m.AK m.keeps.length m.ck) ∧ wr.cell? ⟨(ad.add (k * 6)).block, (ad.add (k * 6)).off + 5, none⟩ = some (.int .i64 m.tear) := by
  obtain ⟨ad, e, _, hc⟩ := (hA.below hb).at_ (by rintro rfl; simp at hm)
  have y0 := hc k m hm 0 _ rfl
  have y1 := hc k m hm 1 _ rfl
  have y2 := hc k m hm 2 _ rfl
  have y3 := hc k m hm 3 _ rfl
  have y4 := hc k m hm 4 _ rfl
  have y5 := hc k m hm 5 _ rfl
  rw [show (ad.add (k * 6)).add 0 = ad.add (k * 6) by unfold Addr.add; simp] at y0
  rw [p9Add _ _ (by decide)] at y1 y2 y3 y4 y5
  exact ⟨ad, e, y0, y1, y2, y3, y4, y5⟩
theorem p9_cells {w : World} {g : Nat} {m : P9M} {E : TypeId} (h : BlkR E w g (p9Cells m)) : w.cell? ⟨g, 0, none⟩ = some (.int .i64 m.blk) ∧ w.cell? ⟨g, 1, none⟩ = some (.int .i64 m.stop) ∧ w.cell? ⟨g, 2, none⟩ = some (.int .i64 m.again) ∧ w.cell? ⟨g, 3, none⟩ = some (.slice m.A m.d.length m.cb) ∧ w.cell? ⟨g, 4, none⟩ = some (.slice m.AK m.keeps.length m.ck) ∧ w.cell? ⟨g, 5, none⟩ = some (.int .i64 m.tear) :=
  ⟨h.cell rfl, h.cell rfl, h.cell rfl, h.cell rfl, h.cell rfl, h.cell rfl⟩
end Go.Proofs.YtlchpolheciadaaDoor
