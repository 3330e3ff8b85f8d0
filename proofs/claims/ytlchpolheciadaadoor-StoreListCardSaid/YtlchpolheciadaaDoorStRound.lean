/-
  What lies beside a store in a round of a statement's loop. Conditions: none.
-/
import Derived.Test.YtlchpolheciadaaDoorStHas
import Derived.Test.YtlchpolheciadaaDoorStAwake
import Derived.Test.YtlchpolheciadaaDoorBa
namespace Go.Proofs.YtlchpolheciadaaDoor
open Go.RowKit Fix

def vN9 : Value → Nat
  | .int _ q => q.toNat
  | _ => 0
/-- what lies in a round beside the store: the Put's own variable at X, the list at q -/
structure R9 (w : World) (X q n : Nat) (m : P9M) (H : Nat → Prop) (w' : World) (f : Nat → List UInt8) : Prop where
  far : ∀ x, H x → w.heap.size ≤ x
  below : Below w.heap.size w w'
  x : BlkR 57 w' X (p9Cells m)
  nx : ¬ H X
  xq : X ≠ q
  gq : w.heap.size ≤ q
  has : HasAt H w' q n f
section
variable {w w' w2 : World} {X q n k c : Nat} {m : P9M} {H H' : Nat → Prop} {f f2 : Nat → List UInt8} {A : Option Addr} {d : List UInt8}
theorem R9.keep (r : R9 w X q n m H w' f) (K : Keep H w' H' w2) : R9 w X q n m H' w2 f :=
  ⟨K.far r.far r.below.size, r.below.trans (K.below r.far r.below.size), K.blk r.x r.nx, fun x => (K.own X x).elim r.nx fun y => by have := r.x.lt; omega, r.xq, r.gq, r.has.keep K⟩
theorem R9.step (r : R9 w X q n m H w' f) (hb : Below w'.heap.size w' w2) : R9 w X q n m H w2 f := r.keep (Keep.of_below hb)
theorem R9.congr (r : R9 w X q n m H w' f) (e : ∀ k, k < n → f k = f2 k) : R9 w X q n m H w' f2 := ⟨r.far, r.below, r.x, r.nx, r.xq, r.gq, r.has.congr e⟩
/-- the list's element k set -/
theorem R9.set (r : R9 w X q n m H w' f) (hk : k < n) (ha : Aside H w' A d) (hA : d ≠ [] → ∀ ad, A = some ad → ad.block < w.heap.size) {vs : List Value} (hv : BlkR 22 w' q vs) (hb : BlkR 22 w2 q (vs.set k (.slice A d.length c))) (B : Below q w' w2) (hs : w2.heap.size = w'.heap.size) (ho : ∀ j, j ≠ q → w2.heap[j]? = w'.heap[j]?) : R9 w X q n m H w2 (DS.upd f k d) :=
  ⟨r.far, r.below.trans (B.mono r.gq), (ho X r.xq).trans r.x, r.nx, r.xq, r.gq, r.has.set hk ha (fun hd ad e => by have := hA hd ad e; have := r.gq; omega) hv hb hs ho⟩
end
/-- bytes that came in lie beside all that is new -/
theorem aside_arg {w w' : World} {H : Nat → Prop} {A : Option Addr} {d : List UInt8} (h : BytesAt w w.heap.size A d) (B : Below w.heap.size w w') (far : ∀ x, H x → w.heap.size ≤ x) : Aside H w' A d := by
  refine ⟨(h.below B).more B.size, fun hl ad e => ?_⟩
  obtain ⟨ad', e', hb, _⟩ := h hl
  rw [e] at e'; cases e'
  exact ⟨Nat.lt_of_lt_of_le hb B.size, fun x => by have := far _ x; omega⟩
theorem arg_low {w : World} {A : Option Addr} {d : List UInt8} (h : BytesAt w w.heap.size A d) : d ≠ [] → ∀ ad, A = some ad → ad.block < w.heap.size := fun hl ad e => by
  obtain ⟨ad', e', hb, _⟩ := h hl
  rw [e] at e'; cases e'
  exact hb
theorem asideK_arg {w w' : World} {H : Nat → Prop} {A : Option Addr} {d : List Bool} (h : RowAt w w.heap.size A (d.map Value.bool)) (B : Below w.heap.size w w') (far : ∀ x, H x → w.heap.size ≤ x) : AsideK H w' A d := by
  refine ⟨(h.below B).more B.size, fun hl ad e => ?_⟩
  obtain ⟨ad', e', hb, _⟩ := h (by simpa using hl)
  rw [e] at e'; cases e'
  exact ⟨Nat.lt_of_lt_of_le hb B.size, fun x => by have := far _ x; omega⟩
/-- what holds between two Puts -/
structure K9 (At : World → Nat → (Nat → Prop) → DS → Prop) (SAt : World → Nat → (Nat → Prop) → Nat → StM → Prop) (w wr : World) (b g q n N : Nat) (H : Nat → Prop) (S : DS) (f : Nat → List UInt8) (k : Nat) : Prop where
  duo : Duo At SAt wr b g H S ⟨0, n, N, false⟩
  calm : St.Calm S n N f
  has : HasAt H wr q n f
  Nk : N ≤ k + 1
  ops : S.ops ≤ 100 + 20 * k
  far : ∀ x, H x → w.heap.size ≤ x
  gq : w.heap.size ≤ q
  below : Below w.heap.size w wr
end Go.Proofs.YtlchpolheciadaaDoor
