/-
  A disk beside the document's own, through the calls of a script, with a variable that lies beside both. Conditions: a disk's methods do what the document says (Disks).
-/
import Derived.Test.YtkokcdlgfemobaaGreatDoorDiskKit
import Derived.Test.YtkokcdlgfemobaaGreatDoorSlSave
import Derived.Test.YtkokcdlgfemobaaGreatDoorMirCrash
import Derived.Test.YtkokcdlgfemobaaGreatDoorMirTurn
import Derived.Test.YtkokcdlgfemobaaGreatDoorSa
import Derived.Deep.RegionHeld3
namespace Go.Proofs.YtkokcdlgfemobaaGreatDoor
open Go.RowKit

theorem row_frame {w w' : World} {F : Nat → Prop} {A : Option Addr} {xs : List Value} (h : Frame F w w') (hr : RowAt w w.heap.size A xs) (hF : xs ≠ [] → ∀ ad, A = some ad → ¬ F ad.block) : RowAt w' w'.heap.size A xs := fun hne => by
  obtain ⟨ad, e, hb, hc⟩ := hr hne
  refine ⟨ad, e, Nat.lt_of_lt_of_le hb h.size, fun k u hu => ?_⟩
  rw [← hc k u hu]
  exact World.cell?_of_block (w := w) (by rw [block_add]; exact h.block _ hb (hF hne ad e))
/-- a Write of what is no sector -/
theorem mWrite_no (w : World) (b : Nat) (F : Nat → Prop) (S : DS) (i : Int) (A : Option Addr) (l : List UInt8) (n c : Nat) (h : Mir w b F S) (hn : l.length = n) (h64 : n ≠ 64) :
    Calls Tryz.prog 25 #[.pointer (some ⟨b, 0, none⟩), .int .i64 i, .slice A n c] w (MirPost (S.write i l).2 (S.write i l).1 b F w) := by
  have hM := Lib.hid h
  have zt := fun w1 (h1 : Mir w1 b F S) => mThere w1 b F S i h1
  replace zt := zt w h
  obtain ⟨g0, g1, c0, c1, xs, ys, h⟩ := h
  have x2 := h.cell2
  cases ho : S.out with
  | true =>
    rw [show S.write i l = (S, 10) by simp [DS.write, ho]]
    rw [ho] at x2
    clear h ho zt
    go_enter Tryz.func25, Tryz.ntmps25
    go_wp2
    go_ret
    exact ⟨F, rfl, hM.out, fun k hk => .inl hk, Frame.refl _ _⟩
  | false =>
    rw [ho] at x2
    cases ht : S.there i with
    | false =>
      rw [show S.write i l = (S, 5) by simp [DS.write, ho, ht]]
      rw [ht] at zt
      clear h ho ht
      go_enter Tryz.func25, Tryz.ntmps25
      go_wp2_with (go_at_call 48; refine zt.mono ?_; (rintro e w2 ⟨rfl, rfl⟩))
      go_ret
      exact ⟨F, rfl, hM.out, fun k hk => .inl hk, Frame.refl _ _⟩
    | true =>
      rw [ht] at zt
      have hne : ((n : Int) != 64) = true := by simp; omega
      rw [show S.write i l = (S, 2) by simp [DS.write, ho, ht, hn, h64]]
      clear h ho ht
      go_enter Tryz.func25, Tryz.ntmps25
      go_wp2_with (go_at_call 48; refine zt.mono ?_; (rintro e w2 ⟨rfl, rfl⟩))
      go_ret
      exact ⟨F, rfl, hM.out, fun k hk => .inl hk, Frame.refl _ _⟩
/-- a Write, of whatever bytes -/
theorem mWrite_all (w : World) (b : Nat) (F : Nat → Prop) (S : DS) (i : Int) (A : Option Addr) (l : List UInt8) (n c : Nat) (h : Mir w b F S) (ho : S.ops ≤ 1000000) (hr : BytesAt w w.heap.size A l) (hA : l ≠ [] → ∀ ad, A = some ad → ¬ F ad.block) (hn : l.length = n) :
    Calls Tryz.prog 25 #[.pointer (some ⟨b, 0, none⟩), .int .i64 i, .slice A n c] w (MirPost (S.write i l).2 (S.write i l).1 b F w) := by
  by_cases h64 : n = 64
  · exact mWrite w b F S i A l n c h ho hr (hA (by rintro rfl; simp at hn; omega)) hn (by omega)
  · exact mWrite_no w b F S i A l n c h hn h64
theorem ops_turn (S : DS) (i a : Int) (m : UInt8) : (S.turn i a m).1.ops ≤ S.ops + 1 := by
  unfold DS.turn
  split <;> exact Nat.le_succ _
theorem ops_fuse (S : DS) (k : Int) : (S.fuse k).1.ops ≤ S.ops + 1 := by
  unfold DS.fuse
  split
  · exact Nat.le_succ _
  · split <;> exact Nat.le_succ _
/-- a disk at b, in the blocks F, and the document's at c, in the blocks G: both of state S -/
structure Two (At : World → Nat → (Nat → Prop) → DS → Prop) (w : World) (b c : Nat) (F G : Nat → Prop) (S : DS) : Prop where
  d : At w b F S
  m : Mir w c G S
  ap : ∀ k, F k → ¬ G k
/-- what a call of both leaves -/
def TwoPost (At : World → Nat → (Nat → Prop) → DS → Prop) (S : DS) (b c : Nat) (F G : Nat → Prop) (w : World) (e : Ending) (w' : World) : Prop :=
  ∃ T F1 G1, e = .returned (.bool true) ∧ Two At w' b c F1 G1 T ∧ T.ops ≤ S.ops + 4 ∧ (∀ k, F1 k → F k ∨ w.heap.size ≤ k) ∧ (∀ k, G1 k → G k ∨ w.heap.size ≤ k) ∧ Frame (fun k => F k ∨ G k) w w'
/-- within such a call: the variable at X, of type E, lies beside both -/
structure HaAt (At : World → Nat → (Nat → Prop) → DS → Prop) (w1 : World) (b c X : Nat) (E : TypeId) (xs : List Value) (F G F' G' : Nat → Prop) (Sd Sm : DS) (w' : World) : Prop where
  d : At w' b F' Sd
  m : Mir w' c G' Sm
  ap : ∀ k, F' k → ¬ G' k
  x : BlkR E w' X xs
  nx : ¬ F' X
  ny : ¬ G' X
  of_ : ∀ k, F' k → F k ∨ w1.heap.size ≤ k
  og : ∀ k, G' k → G k ∨ w1.heap.size ≤ k
  fr : Frame (fun k => F k ∨ G k) w1 w'
section
variable {At : World → Nat → (Nat → Prop) → DS → Prop} (D : Disks Tryz.prog At)
variable {w w1 w' w2 : World} {b c X : Nat} {E : TypeId} {xs : List Value} {F G F' G' F2 G2 : Nat → Prop} {S Sd Sm S2 : DS}
theorem HaAt.ext (h : HaAt At w1 b c X E xs F G F' G' Sd Sm w') : ∀ k, F' k ∨ G' k → (F k ∨ G k) ∨ w1.heap.size ≤ k := fun k hk => hk.elim (fun x => (h.of_ k x).imp .inl id) fun x => (h.og k x).imp .inr id
/-- bytes that lie beside both -/
theorem HaAt.bytes {A : Option Addr} {l : List UInt8} (h : HaAt At w1 b c X E xs F G F' G' Sd Sm w') (hr : BytesAt w1 w1.heap.size A l) (hn : l ≠ [] → ∀ ad, A = some ad → ¬ F ad.block ∧ ¬ G ad.block) : BytesAt w' w'.heap.size A l ∧ (l ≠ [] → ∀ ad, A = some ad → ¬ F' ad.block ∧ ¬ G' ad.block) := by
  refine ⟨bytes_frame h.fr hr fun hne ad e x => x.elim (hn hne ad e).1 (hn hne ad e).2, fun hne ad e => ?_⟩
  obtain ⟨ad', e', hl, _⟩ := hr hne
  rw [e] at e'; cases e'
  exact ⟨fun x => (h.of_ _ x).elim (hn hne ad e).1 fun y => by omega, fun x => (h.og _ x).elim (hn hne ad e).2 fun y => by omega⟩
theorem HaAt.rows {A : Option Addr} {l : List Value} (h : HaAt At w1 b c X E xs F G F' G' Sd Sm w') (hr : RowAt w1 w1.heap.size A l) (hn : l ≠ [] → ∀ ad, A = some ad → ¬ F ad.block ∧ ¬ G ad.block) : RowAt w' w'.heap.size A l ∧ (l ≠ [] → ∀ ad, A = some ad → ¬ F' ad.block ∧ ¬ G' ad.block) := by
  refine ⟨row_frame h.fr hr fun hne ad e x => x.elim (hn hne ad e).1 (hn hne ad e).2, fun hne ad e => ?_⟩
  obtain ⟨ad', e', hl, _⟩ := hr hne
  rw [e] at e'; cases e'
  exact ⟨fun x => (h.of_ _ x).elim (hn hne ad e).1 fun y => by omega, fun x => (h.og _ x).elim (hn hne ad e).2 fun y => by omega⟩
theorem HaAt.start (h : Two At w1 b c F G S) (hx : BlkR E w1 X xs) (n1 : ¬ F X) (n2 : ¬ G X) : HaAt At w1 b c X E xs F G F G S S w1 := ⟨h.d, h.m, h.ap, hx, n1, n2, fun _ hk => .inl hk, fun _ hk => .inl hk, Frame.refl _ _⟩
include D
theorem Two.step (h : Two At w b c F G S) (hb : Below w.heap.size w w') : Two At w' b c F G S := ⟨At_step D h.d hb, h.m.step hb, h.ap⟩
theorem Two.lt (h : Two At w b c F G S) : (∀ k, F k → k < w.heap.size) ∧ ∀ k, G k → k < w.heap.size := ⟨D.lt _ _ _ _ h.d, h.m.lt⟩
theorem HaAt.step (h : HaAt At w1 b c X E xs F G F' G' Sd Sm w') (B : Below w'.heap.size w' w2) : HaAt At w1 b c X E xs F G F' G' Sd Sm w2 :=
  ⟨At_step D h.d B, h.m.step B, h.ap, h.x.step B, h.nx, h.ny, h.of_, h.og, h.fr.trans (Frame.of_below (F := fun _ => False) B) fun _ hk => hk.elim⟩
omit D in
theorem HaAt.chgD (h : HaAt At w1 b c X E xs F G F' G' Sd Sm w') (d2 : At w2 b F2 S2) (o2 : ∀ k, F2 k → F' k ∨ w'.heap.size ≤ k) (f2 : Frame F' w' w2) : HaAt At w1 b c X E xs F G F2 G' S2 Sm w2 := by
  have hX := h.x.lt
  have hs := h.fr.size
  refine ⟨d2, h.m.frame f2 fun k hk hf => h.ap k hf hk, fun k hk hg => ?_, h.x.frame f2 h.nx, fun hk => ?_, h.ny, fun k hk => ?_, h.og, h.fr.trans f2 fun k hk => h.ext k (.inl hk)⟩
  · rcases o2 k hk with x | x
    · exact h.ap k x hg
    · have := h.m.lt k hg; omega
  · rcases o2 _ hk with x | x
    · exact h.nx x
    · omega
  · rcases o2 k hk with x | x
    · exact h.of_ k x
    · exact .inr (Nat.le_trans hs x)
theorem HaAt.chgM (h : HaAt At w1 b c X E xs F G F' G' Sd Sm w') (m2 : Mir w2 c G2 S2) (o2 : ∀ k, G2 k → G' k ∨ w'.heap.size ≤ k) (f2 : Frame G' w' w2) : HaAt At w1 b c X E xs F G F' G2 Sd S2 w2 := by
  have hX := h.x.lt
  have hs := h.fr.size
  refine ⟨At_frame D h.d f2 fun k hk hg => h.ap k hk hg, m2, fun k hk hg => ?_, h.x.frame f2 h.ny, h.nx, fun hk => ?_, h.of_, fun k hk => ?_, h.fr.trans f2 fun k hk => h.ext k (.inr hk)⟩
  · rcases o2 k hg with x | x
    · exact h.ap k hk x
    · have := D.lt _ _ _ _ h.d k hk; omega
  · rcases o2 _ hk with x | x
    · exact h.ny x
    · omega
  · rcases o2 k hk with x | x
    · exact h.og k x
    · exact .inr (Nat.le_trans hs x)
omit D in
theorem HaAt.post {T : DS} (h : HaAt At w1 b c X E xs F G F' G' T T w') (B : Below w.heap.size w w1) (ho : T.ops ≤ S.ops + 4) : TwoPost At S b c F G w (.returned (.bool true)) w' :=
  ⟨T, F', G', rfl, ⟨h.d, h.m, h.ap⟩, ho, fun k hk => (h.of_ k hk).imp id (Nat.le_trans B.size), fun k hk => (h.og k hk).imp id (Nat.le_trans B.size), (Frame.of_below (F := fun k => F k ∨ G k) B).trans h.fr fun _ hk => .inl hk⟩
end
end Go.Proofs.YtkokcdlgfemobaaGreatDoor
