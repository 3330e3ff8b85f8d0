/-
  The calls of a script of metas (tandemlaw06.Act), as they lie in memory, and what holds between two of them. Conditions: none.
-/
import Derived.Test.YtebicjblplkdeaaGreatDoorHaHarm
import Derived.Test.YtebicjblplkdeaaGreatDoorHaAlike
import Derived.Test.YtebicjblplkdeaaGreatDoorHaIn
import Derived.Test.YtebicjblplkdeaaGreatDoorMetaRefDisk
import Derived.Test.YtebicjblplkdeaaGreatDoorDiskAny
import Derived.Laws.AppendOwn
namespace Go.Proofs.YtebicjblplkdeaaGreatDoor
open Go.RowKit Fix

structure MaM where
  h : HaM
  m : Mt
def maCells (x : MaM) : List Value := [.int .i64 x.h.kind, .int .i64 x.h.n, .int .i64 x.h.at_, .int .u8 (x.h.mask.toNat : Int), .slice x.h.A x.h.b.length x.h.cb, .slice x.h.AK x.h.keeps.length x.h.ck, .int .i64 x.m.t, .int .i64 x.m.v, .int .i64 x.m.rt, .int .i64 x.m.rn, .int .i64 x.m.rs, .int .i64 x.m.b]
theorem ma_one (m : MaM) : ∀ v ∈ maCells m, v.oneCell' = true := by
  intro v hv
  simp only [maCells, List.mem_cons, List.not_mem_nil, or_false] at hv
  rcases hv with rfl | rfl | rfl | rfl | rfl | rfl | rfl | rfl | rfl | rfl | rfl | rfl <;> rfl
def maZ : List Value := [.int .i64 0, .int .i64 0, .int .i64 0, .int .u8 0, .slice none 0 0, .slice none 0 0, .int .i64 0, .int .i64 0, .int .i64 0, .int .i64 0, .int .i64 0, .int .i64 0]
theorem maTy : RowTy Tryz.prog 41 maZ := ⟨fun w => by kernel_rfl, by kernel_rfl, _, Tryz.underlying41, rfl⟩
def haZ : List Value := [.int .i64 0, .int .i64 0, .int .i64 0, .int .u8 0, .slice none 0 0, .slice none 0 0]
theorem haTy : RowTy Tryz.prog 35 haZ := ⟨fun w => by kernel_rfl, by kernel_rfl, _, Tryz.underlying35, rfl⟩
/-- the slice at A0 reads as the calls ms, below block B -/
structure MasAt (w : World) (B : Nat) (A0 : Option Addr) (ms : List MaM) : Prop where
  at_ : ms ≠ [] → ∃ ad, A0 = some ad ∧ ad.block < B ∧ ∀ k m, ms[k]? = some m → ∀ j v, (maCells m)[j]? = some v → w.cell? ((ad.add (k * 12)).add j) = some v
  in_ : ∀ m, m ∈ ms → HaIn w B m.h
theorem MasAt.below {w w' : World} {B : Nat} {A0 : Option Addr} {ms : List MaM} (h : MasAt w B A0 ms) (hb : Below B w w') : MasAt w' B A0 ms :=
  ⟨fun hne => by
    obtain ⟨ad, e, hB, hc⟩ := h.at_ hne
    exact ⟨ad, e, hB, fun k m hm j v hv => (hb.cell (by rw [block_add, block_add]; exact hB)).trans (hc k m hm j v hv)⟩,
   fun m hm => (h.in_ m hm).below hb⟩
theorem ma_at {w wr : World} {A0 : Option Addr} {l : List MaM} {m : MaM} {k : Nat} (hA : MasAt w w.heap.size A0 l) (hb : Below w.heap.size w wr) (hm : l[k]? = some m) : ∃ ad, A0 = some ad ∧
    wr.cell? (ad.add (k * 12)) = some (.int .i64 m.h.kind) ∧ wr.cell? ⟨(ad.add (k * 12)).block, (ad.add (k * 12)).off + 1, none⟩ = some (.int .i64 m.h.n) ∧ wr.cell? ⟨(ad.add (k * 12)).block, (ad.add (k * 12)).off + 2, none⟩ = some (.int .i64 m.h.at_) ∧
    wr.cell? ⟨(ad.add (k * 12)).block, (ad.add (k * 12)).off + 3, none⟩ = some (.int .u8 (m.h.mask.toNat : Int)) ∧ wr.cell? ⟨(ad.add (k * 12)).block, (ad.add (k * 12)).off + 4, none⟩ = some (.slice m.h.A m.h.b.length m.h.cb) ∧ wr.cell? ⟨(ad.add (k * 12)).block, (ad.add (k * 12)).off + 5, none⟩ = some (.slice m.h.AK m.h.keeps.length m.h.ck) ∧
    wr.cell? ⟨(ad.add (k * 12)).block, (ad.add (k * 12)).off + 6, none⟩ = some (.int .i64 m.m.t) ∧ wr.cell? ⟨(ad.add (k * 12)).block, (ad.add (k * 12)).off + 7, none⟩ = some (.int .i64 m.m.v) ∧ wr.cell? ⟨(ad.add (k * 12)).block, (ad.add (k * 12)).off + 8, none⟩ = some (.int .i64 m.m.rt) ∧
    wr.cell? ⟨(ad.add (k * 12)).block, (ad.add (k * 12)).off + 9, none⟩ = some (.int .i64 m.m.rn) ∧ wr.cell? ⟨(ad.add (k * 12)).block, (ad.add (k * 12)).off + 10, none⟩ = some (.int .i64 m.m.rs) ∧ wr.cell? ⟨(ad.add (k * 12)).block, (ad.add (k * 12)).off + 11, none⟩ = some (.int .i64 m.m.b) := by
  obtain ⟨ad, e, _, hc⟩ := (hA.below hb).at_ (by rintro rfl; simp at hm)
  have y0 := hc k m hm 0 _ rfl
  have y1 := hc k m hm 1 _ rfl
  have y2 := hc k m hm 2 _ rfl
  have y3 := hc k m hm 3 _ rfl
  have y4 := hc k m hm 4 _ rfl
  have y5 := hc k m hm 5 _ rfl
  have y6 := hc k m hm 6 _ rfl
  have y7 := hc k m hm 7 _ rfl
  have y8 := hc k m hm 8 _ rfl
  have y9 := hc k m hm 9 _ rfl
  have y10 := hc k m hm 10 _ rfl
  have y11 := hc k m hm 11 _ rfl
  rw [ha_none] at y0
  rw [ha_add _ _ (by decide)] at y1 y2 y3 y4 y5 y6 y7 y8 y9 y10 y11
  exact ⟨ad, e, y0, y1, y2, y3, y4, y5, y6, y7, y8, y9, y10, y11⟩
theorem ma_cells {w : World} {g : Nat} {m : MaM} (h : BlkR 41 w g (maCells m)) : w.cell? ⟨g, 0, none⟩ = some (.int .i64 m.h.kind) ∧ w.cell? ⟨g, 2, none⟩ = some (.int .i64 m.h.at_) ∧ w.cell? ⟨g, 4, none⟩ = some (.slice m.h.A m.h.b.length m.h.cb) ∧ w.cell? ⟨g, 6, none⟩ = some (.int .i64 m.m.t) ∧ w.cell? ⟨g, 7, none⟩ = some (.int .i64 m.m.v) ∧ w.cell? ⟨g, 8, none⟩ = some (.int .i64 m.m.rt) ∧ w.cell? ⟨g, 9, none⟩ = some (.int .i64 m.m.rn) ∧ w.cell? ⟨g, 10, none⟩ = some (.int .i64 m.m.rs) ∧ w.cell? ⟨g, 11, none⟩ = some (.int .i64 m.m.b) :=
  ⟨h.cell rfl, h.cell rfl, h.cell rfl, h.cell rfl, h.cell rfl, h.cell rfl, h.cell rfl, h.cell rfl, h.cell rfl⟩
theorem flat_len {α : Type} (f : α → List Value) (hf : ∀ x, (f x).length = 6) : ∀ l : List α, (l.flatMap f).length = l.length * 6
  | [] => rfl
  | a :: l => by rw [List.flatMap_cons, List.length_append, hf, flat_len f hf l, List.length_cons, Nat.add_mul]; omega
theorem flat_at {α : Type} (f : α → List Value) (hf : ∀ x, (f x).length = 6) : ∀ (l : List α) (k : Nat) (x : α), l[k]? = some x → ∀ j v, (f x)[j]? = some v → (l.flatMap f)[k * 6 + j]? = some v
  | [], k, x, h, j, v, hv => by simp at h
  | a :: l, 0, x, h, j, v, hv => by
    have e : a = x := by simpa using h
    subst e
    have hj := (List.getElem?_eq_some_iff.1 hv).1
    rw [List.flatMap_cons, Nat.zero_mul, Nat.zero_add, List.getElem?_append_left hj]
    exact hv
  | a :: l, k + 1, x, h, j, v, hv => by
    have h' : l[k]? = some x := by simpa using h
    have := flat_at f hf l k x h' j v hv
    rw [List.flatMap_cons, List.getElem?_append_right (by rw [hf]; omega), hf, show (k + 1) * 6 + j - 6 = k * 6 + j by omega]
    exact this
theorem flat_succ {α : Type} (f : α → List Value) {l : List α} {k : Nat} {x : α} (h : l[k]? = some x) : (l.take (k + 1)).flatMap f = (l.take k).flatMap f ++ f x := by
  rw [List.take_add_one, h, Option.toList_some, List.flatMap_append]
  simp
set_option maxRecDepth 100000 in
theorem actInfo : ∃ i z, Tryz.prog.info? 35 = some i ∧ i.zero = some z ∧ i.size = 6 ∧ i.bytes = 80 ∧ z.cells.size = 6 := ⟨_, _, rfl, rfl, by kernel_rfl, by kernel_rfl, by kernel_rfl⟩
/-- a row that the call owns, as calls -/
theorem owns_run {w : World} {base : Nat} {v : Value} {hs : List HaM} (h : w.ownsRow base 35 6 v hs.length (hs.flatMap haCells)) : ∃ A c, v = .slice A hs.length c ∧ RunAt w 6 0 A hs := by
  rcases h.2 with ⟨rfl, h0⟩ | ⟨g, cap, cur, rfl, _⟩
  · have e : hs = [] := List.eq_nil_of_length_eq_zero h0
    subst e
    exact ⟨none, 0, rfl, fun hne => absurd rfl hne⟩
  · refine ⟨some ⟨g, 0, none⟩, cap, rfl, fun _ => ⟨⟨g, 0, none⟩, rfl, fun k m hm j u hu => ?_⟩⟩
    have := h.cells (g := g) rfl (k * 6 + j) u (flat_at haCells haCells_len hs k m hm j u hu)
    rw [Nat.zero_add]
    have e : ((⟨g, 0, none⟩ : Addr).add (k * 6)).add j = (⟨g, 0, none⟩ : Addr).add (k * 6 + j) := by
      unfold Addr.add
      by_cases a : k * 6 = 0
      · by_cases b : j = 0
        · simp [a, b]
        · simp [a, b]
      · by_cases b : j = 0
        · simp [a, b]
        · have : ¬ k * 6 + j = 0 := by omega
          rw [if_neg a, if_neg b, if_neg this]
          simp
    rw [e]
    exact this
theorem owns_run_k {w : World} {base k : Nat} {v : Value} {hs : List HaM} (hk : hs.length = k) (h : w.ownsRow base 35 6 v k (hs.flatMap haCells)) : ∃ A c, v = .slice A k c ∧ RunAt w 6 0 A hs := by
  subst hk
  exact owns_run h
theorem haLong_k (w : World) (A0 : Option Addr) (ms : List HaM) (k c0 : Nat) (hk : ms.length = k) (h : RunAt w 6 0 A0 ms) (hm : k ≤ 9223372036854775807) : Calls Tryz.prog 7 #[.slice A0 k c0] w (HaLongPost ms w) := by
  subst hk
  exact haLong_any w A0 ms c0 h hm
theorem BlkR.add_cell {E : TypeId} {w : World} {g : Nat} {xs : List Value} (h : BlkR E w g xs) {j : Nat} {u : Value} (hu : xs[j]? = some u) : w.cell? ((⟨g, 0, none⟩ : Addr).add j) = some u := by
  have := h.cell hu
  unfold Addr.add
  by_cases a : j = 0
  · subst a; simpa using this
  · rw [if_neg a]; simpa using this
theorem haSave_ops (S : DS) (i : Int) (r : List UInt8) : (Slot.save S i r).1.ops ≤ S.ops + 4 := by
  unfold Slot.save
  split
  · simp
  · split
    · simp
    · split
      · simp
      · unfold Slot.save2
        split
        · have h1 := ops_put1 S (i + ((Slot.first (S.readB i) (S.readB (i + 1)) : Nat) : Int)) (Slot.sect (Slot.topN (S.readB i) (S.readB (i + 1)) + 1) r)
          have h2 := ops_put1 (Slot.put1 S (i + ((Slot.first (S.readB i) (S.readB (i + 1)) : Nat) : Int)) (Slot.sect (Slot.topN (S.readB i) (S.readB (i + 1)) + 1) r)).1 (i + ((1 - Slot.first (S.readB i) (S.readB (i + 1)) : Nat) : Int)) (Slot.sect (Slot.topN (S.readB i) (S.readB (i + 1)) + 1) r)
          omega
        · have h1 := ops_put1 S (i + ((Slot.first (S.readB i) (S.readB (i + 1)) : Nat) : Int)) (Slot.sect (Slot.topN (S.readB i) (S.readB (i + 1)) + 1) r)
          omega
theorem haMeta_ops (S : DS) (i : Int) (m : Mt) : (Mt.save S i m).1.ops ≤ S.ops + 4 := by
  unfold Mt.save
  split
  · exact haSave_ops S i _
  · exact Nat.le_add_right _ _
/-- what holds between two calls -/
structure MsInv (w wr : World) (b c k : Nat) (F G : Nat → Prop) (S : DS) : Prop where
  two : Two DiskAt wr b c F G S
  farF : ∀ x, F x → w.heap.size ≤ x
  farG : ∀ x, G x → w.heap.size ≤ x
  below : Below w.heap.size w wr
  ops : S.ops ≤ 4 * k
section
variable {w wr w2 w4 w9 : World} {b c k : Nat} {F G F' G' : Nat → Prop} {S T : DS}
theorem MsInv.next (h : MsInv w wr b c k F G S) (B : Below wr.heap.size wr w2) (two : Two DiskAt w4 b c F' G' T) (o1 : ∀ k, F' k → F k ∨ w2.heap.size ≤ k) (o2 : ∀ k, G' k → G k ∨ w2.heap.size ≤ k) (fr : Frame (fun k => F k ∨ G k) w2 w4)
    (ho : T.ops ≤ S.ops + 4) (B9 : Below w4.heap.size w4 w9) : MsInv w w9 b c (k + 1) F' G' T := by
  have hs := h.below.size
  have hs2 := B.size
  have B2 := h.below.trans (B.mono hs)
  refine ⟨two.step disks B9, fun x hx => ?_, fun x hx => ?_, ?_, by have := h.ops; omega⟩
  · rcases o1 x hx with y | y
    · exact h.farF x y
    · omega
  · rcases o2 x hx with y | y
    · exact h.farG x y
    · omega
  · exact step_trans (B2.trans (fr.below (fun x hx => hx.elim (h.farF x) (h.farG x)) B2.size)) B9
theorem MsInv.ok (h : MsInv w wr b c k F G S) {m : HaM} (hi : HaIn w w.heap.size m) (lb : m.b.length ≤ 100) (lk : m.keeps.length ≤ 30) : HaOk wr F G m := by
  have hs := h.below.size
  refine ⟨hi.n, lb, lk, (hi.b.below h.below).more hs, (hi.k.below h.below).more hs, hi.cb, hi.ck, fun hne ad e => ?_, fun hne ad e => ?_⟩
  · obtain ⟨ad', e', hb, _⟩ := hi.b hne
    rw [e] at e'
    obtain rfl := Option.some.inj e'
    exact ⟨fun x => by have := h.farF _ x; omega, fun x => by have := h.farG _ x; omega⟩
  · obtain ⟨ad', e', hb, _⟩ := hi.k hne
    rw [e] at e'
    obtain rfl := Option.some.inj e'
    exact ⟨fun x => by have := h.farF _ x; omega, fun x => by have := h.farG _ x; omega⟩
theorem MsInv.tab (h : MsInv w wr b c k F G S) (ht : TabAt w) {X : Nat} {E : TypeId} {xs : List Value} {Sd Sm : DS} (B : Below wr.heap.size wr w2) (M : HaAt DiskAt w2 b c X E xs F G F' G' Sd Sm w4) : TabAt w4 := by
  have hs := h.below.size
  have B2 := h.below.trans (B.mono hs)
  exact ht.below (B2.trans (M.fr.below (fun x hx => hx.elim (h.farF x) (h.farG x)) B2.size)) (Nat.le_refl _)
end
end Go.Proofs.YtebicjblplkdeaaGreatDoor
