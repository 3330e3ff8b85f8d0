/-
  A round of steps over a disk and a map: what lies there, what each call does. Conditions: the table of crc lies as the program's text lays it; at most so many changes.
-/
import Derived.Test.YtcahpodmcklnbaaDoorDyStep
namespace Go.Proofs.YtcahpodmcklnbaaDoor
open Go.RowKit Fix

/-- within a round: the disk, the map, the step's own variable at X -/
structure DkAt (w : World) (b g s : Nat) (F : Nat → Prop) (S : DS) (X : Nat) (m : D10M) (u : World) : Prop where
  duo : MpDuo u w.heap.size b F S g s
  x : BlkR 54 u X (d10Cells m)
  nx : ¬ F X
  ng : X ≠ g
  hX : w.heap.size ≤ X
  below : Below w.heap.size w u
section
variable {w u u' : World} {b g s X : Nat} {F : Nat → Prop} {S : DS} {m : D10M} (h : DkAt w b g s F S X m u)
include h
theorem DkAt.step (B : Below u.heap.size u u') : DkAt w b g s F S X m u' := ⟨h.duo.step B, h.x.step B, h.nx, h.ng, h.hX, step_trans h.below B⟩
theorem DkAt.chg {F' : Nat → Prop} {T : DS} {n : Nat} (c : DuoChg w.heap.size b g F u F' T n u') : DkAt w b g n F' T X m u' :=
  ⟨c.d, h.x.frame c.fr fun hx => hx.elim h.nx h.ng, fun hx => (c.own _ hx).elim h.nx fun y => by have := h.x.lt; omega, h.ng, h.hX, h.below.trans c.low⟩
theorem DkAt.cells : u.cell? ⟨X, 0, none⟩ = some (.int .i64 m.k) ∧ u.cell? ⟨X, 1, none⟩ = some (.int .i64 m.n) ∧ u.cell? ⟨X, 2, none⟩ = some (.int .i64 m.stop) ∧ u.cell? ⟨X, 3, none⟩ = some (.int .u64 (m.v : Int)) ∧ u.cell? ⟨X, 4, none⟩ = some (.slice m.AK m.keeps.length m.ck) ∧ u.cell? ⟨X, 5, none⟩ = some (.int .i64 m.tear) := d10_cells h.x
theorem DkAt.tab (ht : TabAt w) : TabAt u := ht.below h.below (Nat.le_refl _)
theorem dk_want (v : Nat) (hv : m.v < 2 ^ 64) (hs : v < 2 ^ 64) : Calls Tryd.prog 15 #[.agg (d10Cells m).toArray, .int .u64 (v : Int)] u fun e u' => e = .returned (.int .u64 (Dy.want m.k m.n m.v v : Int)) ∧ DkAt w b g s F S X m u' :=
  (want_any m v u hv hs).mono fun _ _ ⟨e1, B⟩ => ⟨e1, h.step B⟩
theorem dk_ops (ho : S.ops ≤ 990000) : Calls Tryd.prog 17 #[.pointer (some ⟨b, 0, none⟩)] u fun e u' => e = .returned (.int .i64 (S.ops : Int)) ∧ DkAt w b g s F S X m u' :=
  (duo_ops h.duo (by omega)).mono fun _ _ ⟨e1, B⟩ => ⟨e1, h.step B⟩
theorem dk_fuse (n : Int) (h1 : -9223372036854775808 ≤ n) (h2 : n ≤ 9223372036854775807) : Calls Tryd.prog 16 #[.pointer (some ⟨b, 0, none⟩), .int .i64 n] u fun e u' => ∃ F', e = .returned (.int .i64 (S.fuse n).2) ∧ DkAt w b g s F' (S.fuse n).1 X m u' :=
  (duo_fuse h.duo h.below.size n h1 h2).mono fun _ _ ⟨F', e1, c⟩ => ⟨F', e1, h.chg c⟩
theorem dk_crash (keeps : List Bool) (A : Option Addr) (n c : Nat) (tear : Int) (hr : RowAt w w.heap.size A (keeps.map Value.bool)) (hn : keeps.length = n) (hc : n ≤ c) : Calls Tryd.prog 19 #[.pointer (some ⟨b, 0, none⟩), .slice A n c, .int .i64 tear] u fun e u' => ∃ F', e = .returned (.int .i64 0) ∧ DkAt w b g s F' (S.crash keeps tear) X m u' :=
  (duo_crash h.duo h.below.size A keeps n c tear ((hr.below h.below).more h.below.size) hn hc).mono fun _ _ ⟨F', e1, c⟩ => ⟨F', e1, h.chg c⟩
theorem dk_does (hk : m.k = 0 ∨ m.k = 1 ∨ m.k = 2) (hv : m.v < 2 ^ 64) (ht : TabAt w) (ho : S.ops ≤ 990000) :
    Calls Tryd.prog 18 #[.agg (d10Cells m).toArray, .pointer (some ⟨g, 0, none⟩)] u fun e u' => ∃ F', e = .returned (.int .i64 (Dy.step S 0 m.k m.n m.v s).2) ∧ DkAt w b g (Dy.stepS S 0 m.k m.n m.v s) F' (Dy.step S 0 m.k m.n m.v s).1 X m u' :=
  (does_any h.duo h.below.size m hk hv (h.tab ht) ho).mono fun _ _ ⟨F', e1, c⟩ => ⟨F', e1, h.chg c⟩
theorem dk_open (ht : TabAt w) (he : Dy.openE S 0 = 0) : Calls Tryd.prog 7 #[.pointer (some ⟨b, 0, none⟩), .int .i64 0] u fun e u' => ∃ g', e = .returned (.tuple #[.pointer (some ⟨g', 0, none⟩), .int .i64 0]) ∧ DkAt w b g' (Dy.openN S 0) F S X m u' :=
  (duo_open h.duo h.below.size (h.tab ht) he).mono fun _ _ ⟨e1, d, B⟩ => ⟨_, e1, d, h.x.step B, h.nx, by have := h.x.lt; omega, h.hX, step_trans h.below B⟩
theorem dk_bits : Calls Tryd.prog 11 #[.pointer (some ⟨g, 0, none⟩)] u fun e u' => e = .returned (.int .u64 (s : Int)) ∧ u = u' := mpBits_any h.duo.m
end
/-- between two rounds -/
structure DkInv (w wr : World) (b k : Nat) (F : Nat → Prop) (S : DS) (g N s : Nat) : Prop where
  duo : MpDuo wr w.heap.size b F S g s
  below : Below w.heap.size w wr
  inv : Dy.Inv S N s
  ops : S.ops ≤ 4 * k + 4
  few : N ≤ k + 1
theorem DkInv.start {w wr u : World} {b k g N s : Nat} {F : Nat → Prop} {S : DS} {m : D10M} (h : DkInv w wr b k F S g N s) (B : Below wr.heap.size wr u) (x : BlkR 54 u wr.heap.size (d10Cells m)) : DkAt w b g s F S wr.heap.size m u :=
  ⟨h.duo.step B, x, fun hx => Nat.lt_irrefl _ (disks.lt _ _ _ _ h.duo.d _ hx), by have := h.duo.m.blk.lt; omega, h.below.size, step_trans h.below B⟩
theorem DkAt.next {w u : World} {b k g N s X : Nat} {F : Nat → Prop} {S : DS} {m : D10M} (h : DkAt w b g s F S X m u) (i : Dy.Inv S N s) (ho : S.ops ≤ 4 * (k + 1) + 4) (hN : N ≤ k + 1 + 1) : DkInv w u b (k + 1) F S g N s := ⟨h.duo, h.below, i, ho, hN⟩
end Go.Proofs.YtcahpodmcklnbaaDoor
