/-
  What holds between two calls of a script. Conditions: none.
-/
import Derived.Test.YtcahpodmcklnbaaGreatDoorHk
import Derived.Test.YtcahpodmcklnbaaGreatDoorDiskAny
import Derived.Test.YtcahpodmcklnbaaGreatDoorBa
namespace Go.Proofs.YtcahpodmcklnbaaGreatDoor
open Go.RowKit Fix

def haZ : List Value := [.int .i64 0, .int .i64 0, .int .i64 0, .int .u8 0, .slice none 0 0, .slice none 0 0]
theorem haTy : RowTy Tryz.prog 35 haZ := ⟨fun w => by kernel_rfl, by kernel_rfl, _, Tryz.underlying35, rfl⟩
theorem haSave_ops (S : DS) (i : Int) (r : List UInt8) : (Slot.save S i r).1.ops ≤ S.ops + 4 := by
  unfold Slot.save
  split
  · simp
  · split
    · simp
    · split
      · simp
      · unfold Slot.save2
        split
        · have h1 := ops_put1 S (i + ((Slot.first (S.readB i) (S.readB (i + 1)) : Nat) : Int)) (Slot.sect (Slot.topN (S.readB i) (S.readB (i + 1)) + 1) r)
          have h2 := ops_put1 (Slot.put1 S (i + ((Slot.first (S.readB i) (S.readB (i + 1)) : Nat) : Int)) (Slot.sect (Slot.topN (S.readB i) (S.readB (i + 1)) + 1) r)).1 (i + ((1 - Slot.first (S.readB i) (S.readB (i + 1)) : Nat) : Int)) (Slot.sect (Slot.topN (S.readB i) (S.readB (i + 1)) + 1) r)
          omega
        · have h1 := ops_put1 S (i + ((Slot.first (S.readB i) (S.readB (i + 1)) : Nat) : Int)) (Slot.sect (Slot.topN (S.readB i) (S.readB (i + 1)) + 1) r)
          omega
/-- what holds between two calls -/
structure MsInv (w wr : World) (b c k : Nat) (F G : Nat → Prop) (S : DS) : Prop where
  two : Two DiskAt wr b c F G S
  farF : ∀ x, F x → w.heap.size ≤ x
  farG : ∀ x, G x → w.heap.size ≤ x
  below : Below w.heap.size w wr
  ops : S.ops ≤ 4 * k
section
variable {w wr w2 w4 w9 : World} {b c k : Nat} {F G F' G' : Nat → Prop} {S T : DS}
theorem MsInv.next (h : MsInv w wr b c k F G S) (B : Below wr.heap.size wr w2) (two : Two DiskAt w4 b c F' G' T) (o1 : ∀ k, F' k → F k ∨ w2.heap.size ≤ k) (o2 : ∀ k, G' k → G k ∨ w2.heap.size ≤ k) (fr : Frame (fun k => F k ∨ G k) w2 w4)
    (ho : T.ops ≤ S.ops + 4) (B9 : Below w4.heap.size w4 w9) : MsInv w w9 b c (k + 1) F' G' T := by
  have hs := h.below.size
  have hs2 := B.size
  have B2 := h.below.trans (B.mono hs)
  refine ⟨two.step disks B9, fun x hx => ?_, fun x hx => ?_, ?_, by have := h.ops; omega⟩
  · rcases o1 x hx with y | y
    · exact h.farF x y
    · omega
  · rcases o2 x hx with y | y
    · exact h.farG x y
    · omega
  · exact step_trans (B2.trans (fr.below (fun x hx => hx.elim (h.farF x) (h.farG x)) B2.size)) B9
theorem MsInv.ok (h : MsInv w wr b c k F G S) {m : HaM} (hi : HaIn w w.heap.size m) (lb : m.b.length ≤ 100) (lk : m.keeps.length ≤ 30) : HaOk wr F G m := by
  have hs := h.below.size
  refine ⟨hi.n, lb, lk, (hi.b.below h.below).more hs, (hi.k.below h.below).more hs, hi.cb, hi.ck, fun hne ad e => ?_, fun hne ad e => ?_⟩
  · obtain ⟨ad', e', hb, _⟩ := hi.b hne
    rw [e] at e'
    obtain rfl := Option.some.inj e'
    exact ⟨fun x => by have := h.farF _ x; omega, fun x => by have := h.farG _ x; omega⟩
  · obtain ⟨ad', e', hb, _⟩ := hi.k hne
    rw [e] at e'
    obtain rfl := Option.some.inj e'
    exact ⟨fun x => by have := h.farF _ x; omega, fun x => by have := h.farG _ x; omega⟩
theorem MsInv.tab (h : MsInv w wr b c k F G S) (ht : TabAt w) {X : Nat} {E : TypeId} {xs : List Value} {Sd Sm : DS} (B : Below wr.heap.size wr w2) (M : HaAt DiskAt w2 b c X E xs F G F' G' Sd Sm w4) : TabAt w4 := by
  have hs := h.below.size
  have B2 := h.below.trans (B.mono hs)
  exact ht.below (B2.trans (M.fr.below (fun x hx => hx.elim (h.farF x) (h.farG x)) B2.size)) (Nat.le_refl _)
end
/-- a block that was there, and is no part of both -/
theorem HaAt.blk {At : World → Nat → (Nat → Prop) → DS → Prop} {w1 w' : World} {b c X Y : Nat} {E E2 : TypeId} {xs ys : List Value} {F G F' G' : Nat → Prop} {Sd Sm : DS} (h : HaAt At w1 b c X E xs F G F' G' Sd Sm w') (hb : BlkR E2 w1 Y ys) (n1 : ¬ F Y) (n2 : ¬ G Y) : BlkR E2 w' Y ys :=
  hb.frame h.fr fun hk => hk.elim n1 n2
theorem HaAt.rebase {At : World → Nat → (Nat → Prop) → DS → Prop} {w1 w' : World} {b c X : Nat} {E : TypeId} {xs : List Value} {F G F' G' : Nat → Prop} {Sd Sm : DS} (h : HaAt At w1 b c X E xs F G F' G' Sd Sm w') : HaAt At w' b c X E xs F' G' F' G' Sd Sm w' :=
  ⟨h.d, h.m, h.ap, h.x, h.nx, h.ny, fun _ hk => .inl hk, fun _ hk => .inl hk, Frame.refl _ _⟩
end Go.Proofs.YtcahpodmcklnbaaGreatDoor
