/-
  block.Bytes: what it tells. Conditions: the table of crc lies as the program's text lays it; the bytes can be read.
-/
import Derived.Test.YtmbloclkinghnaaDoorBkSec
namespace Go.Proofs.YtmbloclkinghnaaDoor
open Go.RowKit Fix

def BbPost (a n : Int) (r : List UInt8) (w : World) (e : Ending) (w' : World) : Prop :=
  ∃ A c, e = .returned (.tuple #[.slice A (Blk.bytesB a n r).length c, .int .i64 (Blk.bytesE a n r)]) ∧ c ≤ 9223372036854775807 ∧ Whole w' w.heap.size A c (Blk.bytesB a n r) ∧ Below w.heap.size w w'
theorem BbPost.none_ {a n : Int} {r : List UInt8} {x : Int} (h : Blk.bytesE a n r = x) (h0 : x ≠ 0) (w : World) : BbPost a n r w (.returned (.tuple #[.slice none 0 0, .int .i64 x])) w := by
  have e := Blk.bytesB_bad a n r (by rw [h]; exact h0)
  exact ⟨none, 0, by rw [h, e]; rfl, by decide, by rw [e]; exact Whole.none_, Below.refl _ _⟩
set_option maxRecDepth 100000 in
theorem blockBytes_any (a n : Int) (A : Option Addr) (r : List UInt8) (m c : Nat) (hm : r.length = m) (w : World) (ht : TabAt w) (hr : BytesAt w w.heap.size A r) : Calls Tryd.prog 10 #[.int .i64 a, .int .i64 n, .slice A m c] w (BbPost a n r w) := by
  by_cases hx : a < 0 ∨ 64 ≤ a ∨ n < 1 ∨ 1099511627776 < n
  · have hp := Lib.hid (BbPost.none_ (Blk.bytesE_range a n r hx) (by decide) w)
    by_cases h1 : a < 0
    · clear hm hr hx
      go_enter Tryd.func10, Tryd.ntmps10
      go_wp2
      go_ret2
      exact hp.out
    · by_cases h2 : 64 ≤ a
      · clear hm hr hx
        go_enter Tryd.func10, Tryd.ntmps10
        go_wp2
        go_ret2
        exact hp.out
      · by_cases h3 : n < 1
        · clear hm hr hx
          go_enter Tryd.func10, Tryd.ntmps10
          go_wp2
          go_ret2
          exact hp.out
        · have h4 : 1099511627776 < n := by omega
          clear hm hr hx
          go_enter Tryd.func10, Tryd.ntmps10
          go_wp2
          go_ret2
          exact hp.out
  · have h1 : ¬ a < 0 := by omega
    have h2 : ¬ 64 ≤ a := by omega
    have h3 : ¬ n < 1 := by omega
    have h4 : decide (1099511627776 < n) = false := by simp; omega
    by_cases hl : r.length = 32
    · obtain ⟨k, rfl⟩ : ∃ k : Nat, n = (k : Int) := ⟨n.toNat, by omega⟩
      obtain ⟨b, rfl⟩ : ∃ b : Nat, a = (b : Int) := ⟨a.toNat, by omega⟩
      have hz : Blk.bytesE (b : Int) (k : Int) r = 0 := (Blk.bytesE_zero _ _ _).2 (by omega)
      have e2 := Blk.bytesB_good b k r hz
      have hse := Blk.sect_length b k r hl
      unfold BbPost
      rw [hz, e2, hse]
      obtain rfl : m = 32 := by omega
      have z0 := bkSector_any b k A r c hl (by omega) (by omega) w ht hr
      unfold BkSecPost at z0
      have hz64 := Lib.hid hse
      have qa := fun g W => cutA_all g W
      clear e2 hx hl hm hr hse hz
      go_enter Tryd.func10, Tryd.ntmps10
      go_wp2_with (first
        | (go_at_call 21; refine z0.mono ?_; (rintro e w1 ⟨rfl, B1⟩))
        | ((with_reducible refine atW w1 ?_); refine wpList_allocA (w := w1) rfl rfl ?_; (intro w2 e2; have b2 : BlkR 40 w2 w1.heap.size (cellsOfBytes zs) := (by rw [e2]; exact BlkR.new w1 _ _); have B2 : Below w1.heap.size w1 w2 := (by rw [e2]; exact (Below.refl _ _).alloc (Nat.le_refl _) _); clear e2))
        | ((with_reducible refine atW w2 ?_); refine wpList_storeA (w := w2) rfl (.tmp 8) (.tmp 29) rfl w1.heap.size (Blk.sect b k r) zs rfl rfl hz64.out (by simp) b2 ?_; (intro w3 b3 B3 s3 _)))
      go_ret2
      exact ⟨some ⟨w1.heap.size, 0, none⟩, 64, rfl, by decide, .inr ⟨w1.heap.size, 0, _, rfl, B1.size, by rw [List.replicate_zero, List.append_nil]; exact b3, by rw [hz64.out]⟩, B1.trans ((B2.trans B3).mono B1.size)⟩
    · have hne : ((m : Int) != 32) = true := by simp; omega
      have hp := Lib.hid (BbPost.none_ (Blk.bytesE_len a n r hx hl) (by decide) w)
      clear hm hr hx hl
      go_enter Tryd.func10, Tryd.ntmps10
      go_wp2
      go_ret2
      exact hp.out
end Go.Proofs.YtmbloclkinghnaaDoor
