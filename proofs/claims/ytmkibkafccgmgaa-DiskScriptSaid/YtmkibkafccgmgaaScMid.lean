/-
  DiskScript: what holds between two calls of a script. Conditions: a disk's methods do what the document says (Disks).
-/
import Derived.Test.YtmkibkafccgmgaaScActs
import Derived.Test.YtmkibkafccgmgaaScAct0
import Derived.Test.YtmkibkafccgmgaaScAct1
import Derived.Test.YtmkibkafccgmgaaScAct2
import Derived.Test.YtmkibkafccgmgaaScAct3
import Derived.Test.YtmkibkafccgmgaaScAct4
import Derived.Test.YtmkibkafccgmgaaScAct5
namespace Go.Proofs.Ytmkibkafccgmgaa
open Go.RowKit

section
variable {At : World → Nat → (Nat → Prop) → DS → Prop}
/-- the pair at block p, and the one at block q, k calls on -/
structure Mid (At : World → Nat → (Nat → Prop) → DS → Prop) (w wr : World) (p q b1 c1 b2 c2 : Nat) (F1 G1 F2 G2 : Nat → Prop) (S1 S2 : DS) (k : Nat) : Prop where
  hp : BlkR 33 wr p [.pointer (some ⟨b1, 0, none⟩), .pointer (some ⟨c1, 0, none⟩)]
  hq : BlkR 33 wr q [.pointer (some ⟨b2, 0, none⟩), .pointer (some ⟨c2, 0, none⟩)]
  a : PairAt At wr b1 c1 F1 G1 S1
  d : PairAt At wr b2 c2 F2 G2 S2
  apart : ∀ j, (F1 j ∨ G1 j) → ¬ (F2 j ∨ G2 j)
  new : ∀ j, (F1 j ∨ G1 j) ∨ (F2 j ∨ G2 j) → w.heap.size ≤ j ∧ j ≠ p ∧ j ≠ q
  np : w.heap.size ≤ p
  nq : w.heap.size ≤ q
  ne : p ≠ q
  o1 : S1.ops ≤ k
  o2 : S2.ops ≤ k
  B : Below w.heap.size w wr
variable (D : Disks Try.prog At) {w wr w' : World} {p q b1 c1 b2 c2 k : Nat} {F1 G1 F2 G2 : Nat → Prop} {S1 S2 : DS}
include D
theorem Mid.step (h : Mid At w wr p q b1 c1 b2 c2 F1 G1 F2 G2 S1 S2 k) (hb : Below wr.heap.size wr w') : Mid At w w' p q b1 c1 b2 c2 F1 G1 F2 G2 S1 S2 k :=
  { h with hp := h.hp.step hb, hq := h.hq.step hb, a := h.a.step D hb, d := h.d.step D hb, B := step_trans h.B hb }
/-- the two, in the other order -/
theorem Mid.swapped (h : Mid At w wr p q b1 c1 b2 c2 F1 G1 F2 G2 S1 S2 k) (hFr : Frame (fun j => j = p ∨ j = q) wr w') (hp : BlkR 33 w' p [.pointer (some ⟨b2, 0, none⟩), .pointer (some ⟨c2, 0, none⟩)]) (hq : BlkR 33 w' q [.pointer (some ⟨b1, 0, none⟩), .pointer (some ⟨c1, 0, none⟩)]) :
    Mid At w w' p q b2 c2 b1 c1 F2 G2 F1 G1 S2 S1 k :=
  ⟨hp, hq, h.d.frame D hFr (fun j hj e => by have := h.new j (.inr (.inl hj)); omega) (fun j hj e => by have := h.new j (.inr (.inr hj)); omega),
   h.a.frame D hFr (fun j hj e => by have := h.new j (.inl (.inl hj)); omega) (fun j hj e => by have := h.new j (.inl (.inr hj)); omega),
   fun j h2 h1 => h.apart j h1 h2, fun j hj => h.new j hj.symm, h.np, h.nq, h.ne, h.o2, h.o1,
   h.B.trans (hFr.below (fun j hj => by rcases hj with rfl | rfl; exact h.np; exact h.nq) h.B.size)⟩
/-- a clone of the first, in the place of the second -/
theorem Mid.cloned (h : Mid At w wr p q b1 c1 b2 c2 F1 G1 F2 G2 S1 S2 k) {w5 : World} {b3 c3 : Nat} {F3 G3 : Nat → Prop} (hB : Below wr.heap.size wr w5) (hc : PairAt At w5 b3 c3 F3 G3 S1) (hn : ∀ j, F3 j ∨ G3 j → wr.heap.size ≤ j)
    (hFr : Frame (fun j => j = q) w5 w') (hq : BlkR 33 w' q [.pointer (some ⟨b3, 0, none⟩), .pointer (some ⟨c3, 0, none⟩)]) : Mid At w w' p q b1 c1 b3 c3 F1 G1 F3 G3 S1 S1 k := by
  have h5 := h.step D hB
  have hpl := h.hp.lt
  have hql := h.hq.lt
  have hF : ∀ j, F1 j → j < wr.heap.size := D.lt _ _ _ _ h.a.d
  have hG : ∀ j, G1 j → j < wr.heap.size := h.a.m.lt
  have hw := h.B.size
  refine ⟨h5.hp.frame hFr h.ne, hq, h5.a.frame D hFr (fun j hj e => (h.new j (.inl (.inl hj))).2.2 e) (fun j hj e => (h.new j (.inl (.inr hj))).2.2 e),
    hc.frame D hFr (fun j hj e => by have := hn j (.inl hj); omega) (fun j hj e => by have := hn j (.inr hj); omega), fun j h1 h3 => ?_, fun j hj => ?_, h.np, h.nq, h.ne, h.o1, h.o1,
    h5.B.trans (hFr.below (fun j hj => by rw [show j = q from hj]; exact h.nq) h5.B.size)⟩
  · have h6 := hn j h3
    rcases h1 with h1 | h1
    · have := hF j h1; omega
    · have := hG j h1; omega
  · rcases hj with hj | hj
    · exact h.new j (.inl hj)
    · have := hn j hj
      exact ⟨by omega, by omega, by omega⟩
/-- a call of the first -/
theorem Mid.acted (h : Mid At w wr p q b1 c1 b2 c2 F1 G1 F2 G2 S1 S2 k) {T : DS} {F3 G3 : Nat → Prop} (hc : PairAt At w' b1 c1 F3 G3 T) (ho : T.ops ≤ S1.ops + 1) (hf : ∀ j, F3 j → F1 j ∨ wr.heap.size ≤ j) (hg : ∀ j, G3 j → G1 j ∨ wr.heap.size ≤ j) (hFr : Frame (fun j => F1 j ∨ G1 j) wr w') :
    Mid At w w' p q b1 c1 b2 c2 F3 G3 F2 G2 T S2 (k + 1) := by
  have hpl := h.hp.lt
  have hql := h.hq.lt
  have hF : ∀ j, F2 j → j < wr.heap.size := D.lt _ _ _ _ h.d.d
  have hG : ∀ j, G2 j → j < wr.heap.size := h.d.m.lt
  have hw := h.B.size
  have hn : ∀ j, F3 j ∨ G3 j → (F1 j ∨ G1 j) ∨ wr.heap.size ≤ j := fun j hj => hj.elim (fun h => (hf j h).imp .inl id) (fun h => (hg j h).imp .inr id)
  have ho1 := h.o1
  refine ⟨h.hp.frame hFr (fun hj => (h.new p (.inl hj)).2.1 rfl), h.hq.frame hFr (fun hj => (h.new q (.inl hj)).2.2 rfl), hc, h.d.frame D hFr (fun j hj e => h.apart j e (.inl hj)) (fun j hj e => h.apart j e (.inr hj)), fun j h3 h2 => ?_, fun j hj => ?_, h.np, h.nq, h.ne, by omega, Nat.le_succ_of_le h.o2,
    h.B.trans (hFr.below (fun j hj => (h.new j (.inl hj)).1) h.B.size)⟩
  · rcases hn j h3 with h1 | h1
    · exact h.apart j h1 h2
    · rcases h2 with h2 | h2
      · have := hF j h2; omega
      · have := hG j h2; omega
  · rcases hj with hj | hj
    · rcases hn j hj with h1 | h1
      · exact h.new j (.inl h1)
      · exact ⟨by omega, by omega, by omega⟩
    · exact h.new j (.inr hj)
theorem act_any (w : World) (b c : Nat) (F G : Nat → Prop) (S : DS) (x : ActL) (A : Option Addr) (cb : Nat) (AK : Option Addr) (ck : Nat) (h : PairAt At w b c F G S) (ho : S.ops ≤ 1000000) (hx : ActOk w F G x A cb AK ck) :
    Calls Try.prog 15 #[pairV b c, actV x A cb AK ck] w (ActPost At S b c F G w) := by
  by_cases h0 : x.kind = 0
  · exact act_write D w b c F G S x A cb AK ck h ho hx h0
  by_cases h1 : x.kind = 1
  · exact act_flush D w b c F G S x A cb AK ck h ho hx h1
  by_cases h2 : x.kind = 2
  · exact act_read D w b c F G S x A cb AK ck h ho hx h2
  by_cases h3 : x.kind = 3
  · exact act_crash D w b c F G S x A cb AK ck h ho hx h3
  by_cases h4 : x.kind = 4
  · exact act_turn D w b c F G S x A cb AK ck h ho hx h4
  by_cases h5 : x.kind = 5
  · exact act_fuse D w b c F G S x A cb AK ck h ho hx h5
  exact act_none D w b c F G S x A cb AK ck h ho hx ⟨h0, h1, h2, h3, h4, h5⟩
end
end Go.Proofs.Ytmkibkafccgmgaa
