/-
  The calls of a script of journals (tandemlaw08.Act), as they lie in memory. Conditions: none.
-/
import Derived.Test.YtliiejdhbkmifaaDoorHaRun
import Derived.Test.YtliiejdhbkmifaaDoorJo
namespace Go.Proofs.YtliiejdhbkmifaaDoor
open Go.RowKit Fix

structure JaM where
  h : HaM
  e : Ent
  A : Option Addr
  c : Nat
def jaCells (x : JaM) : List Value := [.int .i64 x.h.kind, .int .i64 x.h.n, .int .i64 x.h.at_, .int .u8 (x.h.mask.toNat : Int), .slice x.h.A x.h.b.length x.h.cb, .slice x.h.AK x.h.keeps.length x.h.ck, .int .i64 x.e.b, .int .i64 x.e.n, .slice x.A x.e.d.length x.c]
theorem ja_one (m : JaM) : ∀ v ∈ jaCells m, v.oneCell' = true := by
  intro v hv
  simp only [jaCells, List.mem_cons, List.not_mem_nil, or_false] at hv
  rcases hv with rfl | rfl | rfl | rfl | rfl | rfl | rfl | rfl | rfl <;> rfl
def jaZ : List Value := [.int .i64 0, .int .i64 0, .int .i64 0, .int .u8 0, .slice none 0 0, .slice none 0 0, .int .i64 0, .int .i64 0, .slice none 0 0]
theorem jaTy : RowTy Tryd.prog 49 jaZ := ⟨fun w => by kernel_rfl, by kernel_rfl, _, Tryd.underlying49, rfl⟩
/-- the slice at A0 reads as the calls ms, below block B -/
structure JasAt (w : World) (B : Nat) (A0 : Option Addr) (ms : List JaM) : Prop where
  at_ : ms ≠ [] → ∃ ad, A0 = some ad ∧ ad.block < B ∧ ∀ k m, ms[k]? = some m → ∀ j v, (jaCells m)[j]? = some v → w.cell? ((ad.add (k * 9)).add j) = some v
  in_ : ∀ m, m ∈ ms → HaIn w B m.h
  ein : ∀ m, m ∈ ms → BytesAt w B m.A m.e.d
theorem JasAt.below {w w' : World} {B : Nat} {A0 : Option Addr} {ms : List JaM} (h : JasAt w B A0 ms) (hb : Below B w w') : JasAt w' B A0 ms :=
  ⟨fun hne => by
    obtain ⟨ad, e, hB, hc⟩ := h.at_ hne
    exact ⟨ad, e, hB, fun k m hm j v hv => (hb.cell (by rw [block_add, block_add]; exact hB)).trans (hc k m hm j v hv)⟩,
   fun m hm => (h.in_ m hm).below hb, fun m hm => (h.ein m hm).below hb⟩
theorem ja_at {w wr : World} {A0 : Option Addr} {l : List JaM} {m : JaM} {k : Nat} (hA : JasAt w w.heap.size A0 l) (hb : Below w.heap.size w wr) (hm : l[k]? = some m) : ∃ ad, A0 = some ad ∧
    wr.cell? (ad.add (k * 9)) = some (.int .i64 m.h.kind) ∧ wr.cell? ⟨(ad.add (k * 9)).block, (ad.add (k * 9)).off + 1, none⟩ = some (.int .i64 m.h.n) ∧ wr.cell? ⟨(ad.add (k * 9)).block, (ad.add (k * 9)).off + 2, none⟩ = some (.int .i64 m.h.at_) ∧
    wr.cell? ⟨(ad.add (k * 9)).block, (ad.add (k * 9)).off + 3, none⟩ = some (.int .u8 (m.h.mask.toNat : Int)) ∧ wr.cell? ⟨(ad.add (k * 9)).block, (ad.add (k * 9)).off + 4, none⟩ = some (.slice m.h.A m.h.b.length m.h.cb) ∧ wr.cell? ⟨(ad.add (k * 9)).block, (ad.add (k * 9)).off + 5, none⟩ = some (.slice m.h.AK m.h.keeps.length m.h.ck) ∧
    wr.cell? ⟨(ad.add (k * 9)).block, (ad.add (k * 9)).off + 6, none⟩ = some (.int .i64 m.e.b) ∧ wr.cell? ⟨(ad.add (k * 9)).block, (ad.add (k * 9)).off + 7, none⟩ = some (.int .i64 m.e.n) ∧ wr.cell? ⟨(ad.add (k * 9)).block, (ad.add (k * 9)).off + 8, none⟩ = some (.slice m.A m.e.d.length m.c) := by
  obtain ⟨ad, e, _, hc⟩ := (hA.below hb).at_ (by rintro rfl; simp at hm)
  have y0 := hc k m hm 0 _ rfl
  have y1 := hc k m hm 1 _ rfl
  have y2 := hc k m hm 2 _ rfl
  have y3 := hc k m hm 3 _ rfl
  have y4 := hc k m hm 4 _ rfl
  have y5 := hc k m hm 5 _ rfl
  have y6 := hc k m hm 6 _ rfl
  have y7 := hc k m hm 7 _ rfl
  have y8 := hc k m hm 8 _ rfl
  rw [ha_none] at y0
  rw [ha_add _ _ (by decide)] at y1 y2 y3 y4 y5 y6 y7 y8
  exact ⟨ad, e, y0, y1, y2, y3, y4, y5, y6, y7, y8⟩
theorem ja_cells {w : World} {g : Nat} {m : JaM} (h : BlkR 49 w g (jaCells m)) : w.cell? ⟨g, 0, none⟩ = some (.int .i64 m.h.kind) ∧ w.cell? ⟨g, 2, none⟩ = some (.int .i64 m.h.at_) ∧ w.cell? ⟨g, 4, none⟩ = some (.slice m.h.A m.h.b.length m.h.cb) ∧ w.cell? ⟨g, 6, none⟩ = some (.int .i64 m.e.b) ∧ w.cell? ⟨g, 7, none⟩ = some (.int .i64 m.e.n) ∧ w.cell? ⟨g, 8, none⟩ = some (.slice m.A m.e.d.length m.c) :=
  ⟨h.cell rfl, h.cell rfl, h.cell rfl, h.cell rfl, h.cell rfl, h.cell rfl⟩
/-- bytes that came in lie beside both -/
theorem MsInv.ent {w wr : World} {b c k : Nat} {F G : Nat → Prop} {S : DS} (h : MsInv w wr b c k F G S) {A : Option Addr} {d : List UInt8} (hr : BytesAt w w.heap.size A d) : BytesAt wr wr.heap.size A d ∧ (d ≠ [] → ∀ ad, A = some ad → ¬ F ad.block ∧ ¬ G ad.block) := by
  have hs := h.below.size
  refine ⟨(hr.below h.below).more hs, fun hne ad e => ?_⟩
  obtain ⟨ad', e', hb, _⟩ := hr hne
  rw [e] at e'
  obtain rfl := Option.some.inj e'
  exact ⟨fun x => by have := h.farF _ x; omega, fun x => by have := h.farG _ x; omega⟩
end Go.Proofs.YtliiejdhbkmifaaDoor
