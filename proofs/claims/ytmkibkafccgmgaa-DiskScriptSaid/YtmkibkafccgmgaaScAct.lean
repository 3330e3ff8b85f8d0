/-
  What one call of a script does to a disk and to the document's own, side by side: words. Conditions: none.
-/
import Derived.Test.YtmkibkafccgmgaaScPair
namespace Go.Proofs.Ytmkibkafccgmgaa
open Go.RowKit

/-- a call of a script -/
structure ActL where
  kind : Int
  n : Int
  at_ : Int
  mask : UInt8
  b : List UInt8
  keeps : List Bool
abbrev actV (x : ActL) (A : Option Addr) (cb : Nat) (AK : Option Addr) (ck : Nat) : Value :=
  .agg #[.int .i64 x.kind, .int .i64 x.n, .int .i64 x.at_, .int .u8 (x.mask.toNat : Int), .slice A x.b.length cb, .slice AK x.keeps.length ck]
/-- the call's own memory: its bytes and its Bools, and that they are no part of the disks -/
structure ActOk (w : World) (F G : Nat → Prop) (x : ActL) (A : Option Addr) (cb : Nat) (AK : Option Addr) (ck : Nat) : Prop where
  nb : -9223372036854775808 ≤ x.n ∧ x.n ≤ 9223372036854775807
  lb : x.b.length ≤ 100
  lk : x.keeps.length ≤ 1030
  rb : BytesAt w w.heap.size A x.b
  rk : RowAt w w.heap.size AK (bv x.keeps)
  ab : x.b ≠ [] → ∀ ad, A = some ad → ¬ F ad.block ∧ ¬ G ad.block
  ak : bv x.keeps ≠ [] → ∀ ad, AK = some ad → ¬ F ad.block ∧ ¬ G ad.block
def ActPost (At : World → Nat → (Nat → Prop) → DS → Prop) (S : DS) (b c : Nat) (F G : Nat → Prop) (w : World) (e : Ending) (w' : World) : Prop :=
  ∃ T F1 G1, e = .returned (.bool true) ∧ PairAt At w' b c F1 G1 T ∧ T.ops ≤ S.ops + 1 ∧ (∀ k, F1 k → F k ∨ w.heap.size ≤ k) ∧ (∀ k, G1 k → G k ∨ w.heap.size ≤ k) ∧ Frame (fun k => F k ∨ G k) w w'
theorem box_facts (w : World) (ps xs : List Value) : BlkR 33 ((w.alloc (.cells ps.toArray 33)).alloc (.cells xs.toArray 39)) w.heap.size ps ∧
    BlkR 39 ((w.alloc (.cells ps.toArray 33)).alloc (.cells xs.toArray 39)) (w.heap.size + 1) xs ∧ Below w.heap.size w ((w.alloc (.cells ps.toArray 33)).alloc (.cells xs.toArray 39)) ∧
    ((w.alloc (.cells ps.toArray 33)).alloc (.cells xs.toArray 39)).heap.size = w.heap.size + 2 := by
  have hs : (w.alloc (.cells ps.toArray 33)).heap.size = w.heap.size + 1 := by simp
  have h1 := (BlkR.new w ps 33).step ((Below.refl _ _).alloc (Nat.le_refl _) (.cells xs.toArray 39))
  have h2 := BlkR.new (w.alloc (.cells ps.toArray 33)) xs 39
  rw [hs] at h2
  exact ⟨h1, h2, ((Below.refl _ w).alloc (Nat.le_refl _) _).alloc (by simp) _, by simp⟩
set_option maxRecDepth 100000 in
theorem elBool : Elem Try.prog 37 4 (.bool false) 1 := ⟨Try.underlying37, ⟨_, rfl, by kernel_rfl, by kernel_rfl, by kernel_rfl⟩, rfl, rfl⟩
theorem row_frame {w w' : World} {F : Nat → Prop} {A : Option Addr} {xs : List Value} (h : Frame F w w') (hr : RowAt w w.heap.size A xs) (hF : xs ≠ [] → ∀ ad, A = some ad → ¬ F ad.block) : RowAt w' w'.heap.size A xs := fun hne => by
  obtain ⟨ad, e, hb, hc⟩ := hr hne
  refine ⟨ad, e, Nat.lt_of_lt_of_le hb h.size, fun k u hu => ?_⟩
  rw [← hc k u hu]
  exact World.cell?_of_block (w := w) (by rw [block_add]; exact h.block _ hb (hF hne ad e))
theorem bytes_frame {w w' : World} {F : Nat → Prop} {A : Option Addr} {l : List UInt8} (h : Frame F w w') (hr : BytesAt w w.heap.size A l) (hF : l ≠ [] → ∀ ad, A = some ad → ¬ F ad.block) : BytesAt w' w'.heap.size A l := fun hl => by
  have hne : l ≠ [] := by rintro rfl; simp at hl
  exact h.bytes hr (hF hne) hl
/-- a Write of what is no sector -/
theorem mWrite_no (w : World) (b : Nat) (F : Nat → Prop) (S : DS) (i : Int) (A : Option Addr) (l : List UInt8) (n c : Nat) (h : Mir w b F S) (hn : l.length = n) (h64 : n ≠ 64) :
    Calls Try.prog 37 #[.pointer (some ⟨b, 0, none⟩), .int .i64 i, .slice A n c] w (MirPost (S.write i l).2 (S.write i l).1 b F w) := by
  have hM := Lib.hid h
  have zt := fun w1 (h1 : Mir w1 b F S) => mThere w1 b F S i h1
  replace zt := zt w h
  obtain ⟨g0, g1, c0, c1, xs, ys, h⟩ := h
  have x2 := h.cell2
  cases ho : S.out with
  | true =>
    rw [show S.write i l = (S, 10) by simp [DS.write, ho]]
    rw [ho] at x2
    clear h ho zt
    go_enter Try.func37, Try.ntmps37
    go_wp2
    go_ret
    exact ⟨F, rfl, hM.out, fun k hk => .inl hk, Frame.refl _ _⟩
  | false =>
    rw [ho] at x2
    cases ht : S.there i with
    | false =>
      rw [show S.write i l = (S, 5) by simp [DS.write, ho, ht]]
      rw [ht] at zt
      clear h ho ht
      go_enter Try.func37, Try.ntmps37
      go_wp2_with (go_at_call 58; refine zt.mono ?_; (rintro e w2 ⟨rfl, rfl⟩))
      go_ret
      exact ⟨F, rfl, hM.out, fun k hk => .inl hk, Frame.refl _ _⟩
    | true =>
      rw [ht] at zt
      have hne : ((n : Int) != 64) = true := by simp; omega
      rw [show S.write i l = (S, 2) by simp [DS.write, ho, ht, hn, h64]]
      clear h ho ht
      go_enter Try.func37, Try.ntmps37
      go_wp2_with (go_at_call 58; refine zt.mono ?_; (rintro e w2 ⟨rfl, rfl⟩))
      go_ret
      exact ⟨F, rfl, hM.out, fun k hk => .inl hk, Frame.refl _ _⟩
namespace DS
theorem chg_ops {S T : DS} (hc : S.chg = some T) : T.ops = S.ops + 1 := by
  unfold DS.chg at hc
  split at hc
  · cases hc
  · rw [← Option.some.inj hc]
  · rw [← Option.some.inj hc]
theorem write_ops (S : DS) (i : Int) (l : List UInt8) : (S.write i l).1.ops ≤ S.ops + 1 := by
  unfold write
  split
  · exact Nat.le_succ _
  · split
    · exact Nat.le_succ _
    · split
      · exact Nat.le_succ _
      · split
        · exact Nat.le_succ _
        · rename_i T hT
          have := (chg_ops hT)
          show T.ops ≤ _
          omega
theorem flush_ops (S : DS) : S.flush.1.ops ≤ S.ops + 1 := by
  unfold flush
  split
  · exact Nat.le_succ _
  · split
    · exact Nat.le_succ _
    · rename_i T hT
      have := (chg_ops hT)
      show T.ops ≤ _
      omega
theorem turn_ops (S : DS) (i a : Int) (m : UInt8) : (S.turn i a m).1.ops ≤ S.ops + 1 := by
  unfold turn
  split
  · exact Nat.le_succ _
  · exact Nat.le_succ _
theorem fuse_ops (S : DS) (k : Int) : (S.fuse k).1.ops ≤ S.ops + 1 := by
  unfold fuse
  split
  · exact Nat.le_succ _
  · split
    · exact Nat.le_succ _
    · exact Nat.le_succ _
end DS
end Go.Proofs.Ytmkibkafccgmgaa
