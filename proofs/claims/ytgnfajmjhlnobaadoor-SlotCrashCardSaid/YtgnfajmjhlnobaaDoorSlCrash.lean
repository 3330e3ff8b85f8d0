/-
  A Save that may stop, and the crash behind it, at once; saves that came in. Conditions: none.
-/
import Derived.Test.YtgnfajmjhlnobaaDoorSlCrashM
import Derived.Test.YtgnfajmjhlnobaaDoorSlAwake
import Derived.Test.YtgnfajmjhlnobaaDoorDiskAny
namespace Go.Proofs.YtgnfajmjhlnobaaDoor
open Go.RowKit Fix

theorem ops_save (S : DS) (i : Int) (r : List UInt8) : (Slot.save S i r).1.ops ≤ S.ops + 4 := by
  unfold Slot.save
  split
  · simp
  · split
    · simp
    · split
      · simp
      · unfold Slot.save2
        split
        · have h1 := ops_put1 S (i + ((Slot.first (S.readB i) (S.readB (i + 1)) : Nat) : Int)) (Slot.sect (Slot.topN (S.readB i) (S.readB (i + 1)) + 1) r)
          have h2 := ops_put1 (Slot.put1 S (i + ((Slot.first (S.readB i) (S.readB (i + 1)) : Nat) : Int)) (Slot.sect (Slot.topN (S.readB i) (S.readB (i + 1)) + 1) r)).1 (i + ((1 - Slot.first (S.readB i) (S.readB (i + 1)) : Nat) : Int)) (Slot.sect (Slot.topN (S.readB i) (S.readB (i + 1)) + 1) r)
          omega
        · have h1 := ops_put1 S (i + ((Slot.first (S.readB i) (S.readB (i + 1)) : Nat) : Int)) (Slot.sect (Slot.topN (S.readB i) (S.readB (i + 1)) + 1) r)
          omega
namespace Slot
theorem pair_same (N : Nat) (r : List UInt8) (h1 : 1 ≤ N) (h2 : N ≤ 1099511627776) (hr : r.length ≤ 40) : Pair (sect N r) (sect N r) N r := by
  obtain ⟨e1, e2⟩ := topN_same N r h1 h2 hr
  have e3 := sect_again N r hr h2
  exact ⟨sect_length N r hr, sect_length N r hr, e1, e2, by omega, by omega⟩
theorem round_calm {S : DS} (q : S.Quiet) (hn : S.n = 2) {N : Nat} {v : List UInt8} (P : Pair (S.firm 0) (S.firm 1) N v) (hN : N < 1000) (r : List UInt8) (hr : r.length ≤ 40) :
    ∃ T, save S 0 r = (T, 0) ∧ T.Quiet ∧ T.n = 2 ∧ T.ops ≤ S.ops + 4 ∧ Pair (T.firm 0) (T.firm 1) (N + 1) r := by
  obtain ⟨T, h1, h2, h3, h4, h5⟩ := save_quiet q (i := 0) (by omega) r hr (by rw [P.n]; omega)
  have h1' : save S 0 r = (T, 0) := h1
  refine ⟨T, h1', h2, by omega, by omega, ?_⟩
  rw [h5 0, h5 1, if_pos (by omega), if_pos (by omega), P.n]
  exact pair_same (N + 1) r (by omega) (by omega) hr
theorem round_stop {S : DS} (q : S.Quiet) (hn : S.n = 2) {N : Nat} {v : List UInt8} (P : Pair (S.firm 0) (S.firm 1) N v) (hN : N < 1000) (r : List UInt8) (hr : r.length ≤ 40) (k : Nat) (keeps : List Bool) (tear : Int) :
    ∃ T e, save { S with left := some k } 0 r = (T, e) ∧ T.ops ≤ S.ops + 4 ∧ (T.crash keeps tear).Quiet ∧ (T.crash keeps tear).n = 2 ∧ (T.crash keeps tear).ops ≤ S.ops + 4 ∧
      (e = 0 ∧ Pair ((T.crash keeps tear).firm 0) ((T.crash keeps tear).firm 1) (N + 1) r ∨ e = 10 ∧ (Pair ((T.crash keeps tear).firm 0) ((T.crash keeps tear).firm 1) (N + 1) r ∨ Pair ((T.crash keeps tear).firm 0) ((T.crash keeps tear).firm 1) N v)) := by
  obtain ⟨T, e, h1, h2, h3⟩ := save_came { S with left := some k } q.out q.loose hn r hr (by show topN (S.firm 0) (S.firm 1) < _; rw [P.n]; omega)
  have hops : T.ops ≤ S.ops + 4 := by
    have := ops_save { S with left := some k } 0 r
    rw [h1] at this
    exact this
  refine ⟨T, e, h1, hops, ⟨rfl, rfl, rfl⟩, h2, hops, ?_⟩
  have h3 : Came { S with left := some k } (sect (topN (S.firm 0) (S.firm 1) + 1) r) (first (S.firm 0) (S.firm 1)) (1 - first (S.firm 0) (S.firm 1)) T e := h3
  rw [P.n] at h3
  have hff : first (S.firm 0) (S.firm 1) = 0 ∨ first (S.firm 0) (S.firm 1) = 1 := by rw [first_eq]; split <;> (try split) <;> simp
  have hc := came_crash (by omega) h3 keeps tear
  obtain ⟨p1, p2, p3, p4⟩ := pair_next P (by omega) r hr ((T.crash keeps tear).firm (first (S.firm 0) (S.firm 1)))
  obtain ⟨_, _, p5, p6⟩ := pair_next P (by omega) r hr ((T.crash keeps tear).firm (1 - first (S.firm 0) (S.firm 1)))
  rcases hff with hf | hf
  · rw [hf] at hc p1 p2 p3 p4 p5 p6
    simp only [Nat.sub_zero] at hc p5 p6
    rcases hc with ⟨rfl, c1, c2⟩ | ⟨rfl, _, c1, c2⟩ | ⟨rfl, _, c1, c2⟩
    · refine .inl ⟨rfl, ?_⟩
      rw [c1, c2]
      exact pair_same (N + 1) r (by omega) (by omega) hr
    · refine .inr ⟨rfl, ?_⟩
      have c1 : (T.crash keeps tear).firm 1 = S.firm 1 := c1
      rw [c1]
      exact (p1 c2 rfl).symm
    · refine .inr ⟨rfl, .inl ?_⟩
      have := p5 c2
      rw [c1]
      exact this
  · rw [hf] at hc p1 p2 p3 p4 p5 p6
    simp only [Nat.sub_self] at hc p5 p6
    rcases hc with ⟨rfl, c1, c2⟩ | ⟨rfl, _, c1, c2⟩ | ⟨rfl, _, c1, c2⟩
    · refine .inl ⟨rfl, ?_⟩
      rw [c1, c2]
      exact pair_same (N + 1) r (by omega) (by omega) hr
    · refine .inr ⟨rfl, ?_⟩
      have c1 : (T.crash keeps tear).firm 0 = S.firm 0 := c1
      rw [c1]
      exact (p2 c2 rfl).symm
    · refine .inr ⟨rfl, .inl ?_⟩
      have := p6 c2
      rw [c1]
      exact this
theorem load_pair {S : DS} (q : S.Quiet) (hn : S.n = 2) {N : Nat} {v : List UInt8} (P : Pair (S.firm 0) (S.firm 1) N v) : (1 ≤ N → loadE S 0 = 0 ∧ loadB S 0 = v) ∧ (N = 0 → loadE S 0 = 6 ∨ loadE S 0 = 11) := by
  refine ⟨fun h => ?_, fun h => ?_⟩
  · have := load_quiet q (i := 0) (by omega) (by show 0 < topN (S.firm 0) (S.firm 1); rw [P.n]; exact h)
    exact ⟨this.1, this.2.trans P.v⟩
  · exact load_none_ q (i := 0) (by omega) (by show topN (S.firm 0) (S.firm 1) = 0; rw [P.n]; exact h)
theorem pair_fresh : Pair ((DS.fresh 2).firm 0) ((DS.fresh 2).firm 1) 0 [] := ⟨by decide, by decide, by decide, by decide, by decide, by decide⟩
end Slot
/-- a change of a disk's blocks: what it turns, what it has then -/
structure Keep (F : Nat → Prop) (w : World) (F' : Nat → Prop) (w' : World) : Prop where
  fr : Frame F w w'
  own : ∀ k, F' k → F k ∨ w.heap.size ≤ k
theorem Keep.of_below {F : Nat → Prop} {w w' : World} (h : Below w.heap.size w w') : Keep F w F w' := ⟨Frame.of_below h, fun _ hk => .inl hk⟩
theorem Keep.trans {F F1 F2 : Nat → Prop} {w w1 w2 : World} (h : Keep F w F1 w1) (h2 : Keep F1 w1 F2 w2) : Keep F w F2 w2 :=
  ⟨h.fr.trans h2.fr h.own, fun k hk => (h2.own k hk).elim (h.own k) fun x => .inr (Nat.le_trans h.fr.size x)⟩
theorem Keep.below {F F' : Nat → Prop} {w w' : World} {B : Nat} (h : Keep F w F' w') (hF : ∀ k, F k → B ≤ k) (hB : B ≤ w.heap.size) : Below B w w' := h.fr.below hF hB
theorem Keep.far {F F' : Nat → Prop} {w w' : World} {B : Nat} (h : Keep F w F' w') (hF : ∀ k, F k → B ≤ k) (hB : B ≤ w.heap.size) : ∀ k, F' k → B ≤ k := fun k hk => (h.own k hk).elim (hF k) fun x => Nat.le_trans hB x
theorem Keep.blk {E : TypeId} {F F' : Nat → Prop} {w w' : World} {g : Nat} {xs : List Value} (h : Keep F w F' w') (hb : BlkR E w g xs) (hg : ¬ F g) : BlkR E w' g xs := hb.frame h.fr hg
/-- bytes that lie beside a disk -/
def Aside (F : Nat → Prop) (w : World) (A : Option Addr) (l : List UInt8) : Prop := BytesAt w w.heap.size A l ∧ (l ≠ [] → ∀ ad, A = some ad → ad.block < w.heap.size ∧ ¬ F ad.block)
theorem Aside.keep {F F' : Nat → Prop} {w w' : World} {A : Option Addr} {l : List UInt8} (h : Aside F w A l) (k : Keep F w F' w') : Aside F' w' A l :=
  ⟨bytes_frame k.fr h.1 fun hl ad e => (h.2 hl ad e).2, fun hl ad e => ⟨Nat.lt_of_lt_of_le (h.2 hl ad e).1 k.fr.size, fun hx => (k.own _ hx).elim (h.2 hl ad e).2 fun y => by have := (h.2 hl ad e).1; omega⟩⟩
theorem Aside.whole {F : Nat → Prop} {w w' : World} {A : Option Addr} {l : List UInt8} {c : Nat} (h : Whole w' w.heap.size A c l) (hF : ∀ k, F k → k < w.heap.size) : Aside F w' A l :=
  ⟨h.bytes, fun hl ad e => by
    have h1 := h.new ad e hl
    refine ⟨?_, fun hx => by have := hF _ hx; omega⟩
    obtain ⟨ad', e', hb, _⟩ := h.bytes hl
    rw [e] at e'; cases e'; exact hb⟩
/-- a save as it lies in memory -/
structure SaveM where
  b : List UInt8
  A : Option Addr
  cb : Nat
  stop : Int
  keeps : List Bool
  AK : Option Addr
  ck : Nat
  tear : Int
def saveCells (m : SaveM) : List Value := [.slice m.A m.b.length m.cb, .int .i64 m.stop, .slice m.AK m.keeps.length m.ck, .int .i64 m.tear]
/-- the slice at A0 reads as the saves ms, below block B -/
structure SavesAt (w : World) (B : Nat) (A0 : Option Addr) (ms : List SaveM) : Prop where
  at_ : ms ≠ [] → ∃ ad, A0 = some ad ∧ ad.block < B ∧ ∀ k m, ms[k]? = some m → ∀ j v, (saveCells m)[j]? = some v → w.cell? ((ad.add (k * 4)).add j) = some v
  b : ∀ m, m ∈ ms → BytesAt w B m.A m.b
  k : ∀ m, m ∈ ms → RowAt w B m.AK (m.keeps.map Value.bool)
  n : ∀ m, m ∈ ms → -9223372036854775808 ≤ m.stop ∧ m.stop ≤ 9223372036854775807
theorem SavesAt.below {w w' : World} {B : Nat} {A0 : Option Addr} {ms : List SaveM} (h : SavesAt w B A0 ms) (hb : Below B w w') : SavesAt w' B A0 ms :=
  ⟨fun hne => by
    obtain ⟨ad, e, hB, hc⟩ := h.at_ hne
    exact ⟨ad, e, hB, fun k m hm j v hv => (hb.cell (by rw [block_add, block_add]; exact hB)).trans (hc k m hm j v hv)⟩,
   fun m hm => (h.b m hm).below hb, fun m hm => (h.k m hm).below hb, h.n⟩
theorem saveAdd (a : Addr) (n : Nat) (h : n ≠ 0) : a.add n = ⟨a.block, a.off + n, none⟩ := by unfold Addr.add; rw [if_neg h]
def saveZ : List Value := [.slice none 0 0, .int .i64 0, .slice none 0 0, .int .i64 0]
theorem saveTy : RowTy Tryd.prog 52 saveZ := ⟨fun w => by kernel_rfl, by kernel_rfl, _, Tryd.underlying52, rfl⟩
theorem save_one (m : SaveM) : ∀ v ∈ saveCells m, v.oneCell' = true := by
  intro v hv
  simp [saveCells] at hv
  rcases hv with rfl | rfl | rfl | rfl <;> rfl
end Go.Proofs.YtgnfajmjhlnobaaDoor
