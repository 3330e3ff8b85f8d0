/-
  Slots on one disk, number by number; slices of slices of bytes. Conditions: none.
-/
import Derived.Test.YtgnfajmjhlnobaaDoorSlCalm
import Derived.Test.YtgnfajmjhlnobaaDoorSlBackWalk
namespace Go.Proofs.YtgnfajmjhlnobaaDoor
open Go.RowKit Fix

namespace Slot
/-- slot k of a disk was saved n times, r last -/
def St (S : DS) (k n : Nat) (r : List UInt8) : Prop := (n = 0 ∧ S.firm (3 * k) = nots ∧ S.firm (3 * k + 1) = nots) ∨ (1 ≤ n ∧ r.length ≤ 40 ∧ S.firm (3 * k) = sect n r ∧ S.firm (3 * k + 1) = sect n r)
theorem St.top {S : DS} {k n : Nat} {r : List UInt8} (h : St S k n r) (hn : n ≤ 1000) : topN (S.firm (3 * k)) (S.firm (3 * k + 1)) = n := by
  rcases h with ⟨rfl, h1, h2⟩ | ⟨h0, hr, h1, h2⟩
  · rw [h1, h2]; decide
  · rw [h1, h2]; exact (topN_same n r h0 (by omega) hr).1
theorem St.save {S : DS} (q : S.Quiet) (hn5 : S.n = 5) {k n : Nat} {r : List UInt8} (hk : k < 2) (h : St S k n r) (hn : n ≤ 1000) (m : List UInt8) (hm : m.length ≤ 40) :
    ∃ T, Slot.save S ((3 * k : Nat) : Int) m = (T, 0) ∧ T.Quiet ∧ T.n = 5 ∧ T.ops = S.ops + 4 ∧ St T k (n + 1) m ∧ ∀ k' n' r', k' < 2 → k' ≠ k → St S k' n' r' → St T k' n' r' := by
  obtain ⟨T, h1, h2, h3, h4, h5⟩ := save_quiet q (i := 3 * k) (by omega) m hm (by rw [h.top hn]; omega)
  rw [h.top hn] at h5
  refine ⟨T, h1, h2, by omega, h4, .inr ⟨by omega, hm, ?_, ?_⟩, fun k' n' r' hk' hne hs => ?_⟩
  · rw [h5, if_pos (.inl rfl)]
  · rw [h5, if_pos (.inr rfl)]
  · unfold St
    rw [h5 (3 * k'), h5 (3 * k' + 1), if_neg (by omega), if_neg (by omega)]
    exact hs
theorem St.fresh (k : Nat) : St (DS.fresh 5) k 0 [] := .inl ⟨rfl, rfl, rfl⟩
end Slot
section
variable {At : World → Nat → (Nat → Prop) → DS → Prop} (D : Disks Tryd.prog At)
include D
set_option maxRecDepth 100000 in
theorem whole_any (w : World) (b : Nat) (F : Nat → Prop) (S : DS) (i : Int) (A : Option Addr) (r : List UInt8) (m c n : Nat) (hm : r.length = m) (ht : TabAt w) (h : At w b F S) (hr : BytesAt w w.heap.size A r) (he : S.readE i = 0) (hb : S.readB i = Slot.sect n r) (h1 : 1 ≤ n) (h2 : n ≤ 1099511627776) (h40 : r.length ≤ 40) :
    Calls Tryd.prog 29 #[.pointer (some ⟨b, 0, none⟩), .int .i64 i, .int .i64 (n : Int), .slice A m c] w fun e w' => e = .returned (.bool true) ∧ Below w.heap.size w w' := by
  have z := D.read w b F S i h
  have hl := Slot.sect_length n r h40
  rw [he, hb, hl] at z
  have zr := fun A c hc w t h => read_yes A n r c hc h1 h2 h40 w t h
  have zs := fun A1 c1 w1 h h' => same_yes A1 r m c1 hm A r m c hm w1 h h' rfl
  rw [hm] at zr
  have e1 : ((n : Int) == (n : Int)) = true := beq_self_eq_true _
  have HL := Lib.hid hl
  clear he hb h1 h2 h40 hm hl h
  go_enter Tryd.func29, Tryd.ntmps29
  go_wp2_with (first
    | (go_at_call 49; refine z.mono ?_; (rintro e w1 ⟨A1, c1, rfl, o1, B1⟩; have r1 := o1.bytes; have hc1 := rdB_cap o1; rw [HL.out] at hc1; have t1 := ht.below B1 (Nat.le_refl _); have x1 := hr.step B1))
    | (go_at_call 14; (with_reducible refine (zr A1 c1 hc1 w1 t1 r1).mono ?_); (rintro e w2 ⟨A2, c2, rfl, r2, B2⟩; have x2 := x1.step B2))
    | (go_at_call 16; (with_reducible refine (zs A2 c2 w2 r2 x2).mono ?_); (rintro e w3 ⟨rfl, rfl⟩)))
  go_ret
  exact ⟨rfl, step_trans B1 B2⟩
end
/-- a slice of bytes as it lies in memory -/
structure RowM where
  b : List UInt8
  A : Option Addr
  cb : Nat
def rowCell (m : RowM) : Value := .slice m.A m.b.length m.cb
/-- the slice at A0 reads as the rows ms, below block B -/
structure RowsAt (w : World) (B : Nat) (A0 : Option Addr) (ms : List RowM) : Prop where
  at_ : RowAt w B A0 (ms.map rowCell)
  b : ∀ m, m ∈ ms → BytesAt w B m.A m.b
theorem RowsAt.below {w w' : World} {B : Nat} {A0 : Option Addr} {ms : List RowM} (h : RowsAt w B A0 ms) (hb : Below B w w') : RowsAt w' B A0 ms := ⟨h.at_.below hb, fun m hm => (h.b m hm).below hb⟩
end Go.Proofs.YtgnfajmjhlnobaaDoor
