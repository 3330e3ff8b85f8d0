/-
  tandemref05.Save, over the document's own disk. Conditions: at most so many changes.
-/
import Derived.Test.YtcahpodmcklnbaaGreatDoorSlotLoad
import Derived.Test.YtcahpodmcklnbaaGreatDoorSlSave
namespace Go.Proofs.YtcahpodmcklnbaaGreatDoor
open Go.RowKit Fix

namespace Slot
/-- what a Save has done behind i of its two writes -/
def svN (S : DS) (at_ : Int) (f : Nat) (sc : List UInt8) : Nat → DS × Int
  | 0 => (S, 0)
  | 1 => put1 S (at_ + (f : Int)) sc
  | _ => save2 S at_ f sc
/-- where the write behind these goes -/
def svP (at_ : Int) (f i : Nat) : Int := at_ + ((if i = 0 then f else 1 - f : Nat) : Int)
theorem svN_next {S T : DS} {at_ : Int} {f : Nat} {sc : List UInt8} {i : Nat} (hi : i < 2) (h : svN S at_ f sc i = (T, 0)) : svN S at_ f sc (i + 1) = put1 T (svP at_ f i) sc := by
  rcases (show i = 0 ∨ i = 1 by omega) with rfl | rfl
  · have : S = T := congrArg Prod.fst h
    subst this
    rfl
  · show save2 S at_ f sc = _
    have h : put1 S (at_ + (f : Int)) sc = (T, 0) := h
    unfold save2
    rw [h, if_pos rfl]
    rfl
theorem svN_stop {S T : DS} {at_ : Int} {f : Nat} {sc : List UInt8} {i : Nat} (hi : i < 2) (h : svN S at_ f sc i = (T, 0)) (hx : (put1 T (svP at_ f i) sc).2 ≠ 0) : save2 S at_ f sc = put1 T (svP at_ f i) sc := by
  have hn := svN_next hi h
  rcases (show i = 0 ∨ i = 1 by omega) with rfl | rfl
  · have hn : put1 S (at_ + (f : Int)) sc = put1 T (svP at_ f 0) sc := hn
    unfold save2
    rw [hn, if_neg hx]
  · exact hn
end Slot
/-- between two writes of a Save: the bytes at A are beside the disk -/
structure SvInv (w : World) (b : Nat) (F : Nat → Prop) (S : DS) (at_ : Int) (f : Nat) (sc : List UInt8) (A : Option Addr) (i : Nat) (F' : Nat → Prop) (S' : DS) (wr : World) : Prop where
  m : Mir wr b F' S'
  e : Slot.svN S at_ f sc i = (S', 0)
  own : ∀ k, F' k → F k ∨ w.heap.size ≤ k
  fr : Frame F w wr
  rb : BytesAt wr wr.heap.size A sc
  nb : ∀ ad, A = some ad → ¬ F' ad.block
  ops : S'.ops ≤ S.ops + 2 * i
section
variable {w wr w1 w2 : World} {b : Nat} {F F' F1 F2 : Nat → Prop} {S S' : DS} {at_ : Int} {f : Nat} {sc : List UInt8} {A : Option Addr} {i : Nat} {p : Int}
theorem SvInv.wrote (h : SvInv w b F S at_ f sc A i F' S' wr) (hs : sc ≠ []) (o1 : ∀ k, F1 k → F' k ∨ wr.heap.size ≤ k) (f1 : Frame F' wr w1) :
    (∀ k, F1 k → F k ∨ w.heap.size ≤ k) ∧ Frame F w w1 ∧ BytesAt w1 w1.heap.size A sc ∧ (∀ ad, A = some ad → ¬ F1 ad.block) := by
  refine ⟨fun k hk => ?_, h.fr.trans f1 h.own, bytes_frame f1 h.rb fun _ ad e => h.nb ad e, fun ad e hk => ?_⟩
  · rcases o1 k hk with x | x
    · exact h.own k x
    · exact .inr (Nat.le_trans h.fr.size x)
  · rcases o1 _ hk with x | x
    · exact h.nb ad e x
    · obtain ⟨ad', e', hl, _⟩ := h.rb hs
      rw [e] at e'; cases e'
      omega
theorem SvInv.next (h : SvInv w b F S at_ f sc A i F' S' wr) (hs : sc ≠ []) (hi : i < 2) (hp : p = Slot.svP at_ f i) (hw : (S'.write p sc).2 = 0) (hf : (S'.write p sc).1.flush.2 = 0)
    (o1 : ∀ k, F1 k → F' k ∨ wr.heap.size ≤ k) (f1 : Frame F' wr w1) (m2 : Mir w2 b F2 (S'.write p sc).1.flush.1) (o2 : ∀ k, F2 k → F1 k ∨ w1.heap.size ≤ k) (f2 : Frame F1 w1 w2) : SvInv w b F S at_ f sc A (i + 1) F2 (S'.write p sc).1.flush.1 w2 := by
  obtain ⟨q1, q2, q3, q4⟩ := h.wrote hs o1 f1
  refine ⟨m2, ?_, fun k hk => ?_, q2.trans f2 q1, bytes_frame f2 q3 fun _ ad e => q4 ad e, fun ad e hk => ?_, ?_⟩
  · rw [Slot.svN_next hi h.e, ← hp]
    unfold Slot.put1
    rw [if_pos hw]
    exact Prod.ext rfl hf
  · rcases o2 k hk with x | x
    · exact q1 k x
    · exact .inr (Nat.le_trans q2.size x)
  · rcases o2 _ hk with x | x
    · exact q4 ad e x
    · obtain ⟨ad', e', hl, _⟩ := q3 hs
      rw [e] at e'; cases e'
      omega
  · have h1 := ops_write S' p sc
    have h2 := ops_flush (S'.write p sc).1
    have h3 := h.ops
    omega
theorem SvInv.noFlush (h : SvInv w b F S at_ f sc A i F' S' wr) (hs : sc ≠ []) (hi : i < 2) (hp : p = Slot.svP at_ f i) (hw : (S'.write p sc).2 = 0) (hf : (S'.write p sc).1.flush.2 ≠ 0)
    (o1 : ∀ k, F1 k → F' k ∨ wr.heap.size ≤ k) (f1 : Frame F' wr w1) (m2 : Mir w2 b F2 (S'.write p sc).1.flush.1) (o2 : ∀ k, F2 k → F1 k ∨ w1.heap.size ≤ k) (f2 : Frame F1 w1 w2) : ChgPost Mir b F (Slot.save2 S at_ f sc) w (.returned (.int .i64 (S'.write p sc).1.flush.2)) w2 := by
  obtain ⟨q1, q2, q3, q4⟩ := h.wrote hs o1 f1
  have e : Slot.put1 S' p sc = (S'.write p sc).1.flush := by unfold Slot.put1; rw [if_pos hw]
  have e2 : Slot.save2 S at_ f sc = (S'.write p sc).1.flush := by rw [Slot.svN_stop hi h.e (by rw [← hp, e]; exact hf), ← hp, e]
  rw [e2]
  refine ⟨F2, rfl, m2, fun k hk => ?_, q2.trans f2 q1⟩
  rcases o2 k hk with x | x
  · exact q1 k x
  · exact .inr (Nat.le_trans q2.size x)
theorem SvInv.noWrite (h : SvInv w b F S at_ f sc A i F' S' wr) (hs : sc ≠ []) (hi : i < 2) (hp : p = Slot.svP at_ f i) (hw : (S'.write p sc).2 ≠ 0)
    (o1 : ∀ k, F1 k → F' k ∨ wr.heap.size ≤ k) (f1 : Frame F' wr w1) (m1 : Mir w1 b F1 (S'.write p sc).1) : ChgPost Mir b F (Slot.save2 S at_ f sc) w (.returned (.int .i64 (S'.write p sc).2)) w1 := by
  obtain ⟨q1, q2, q3, q4⟩ := h.wrote hs o1 f1
  have e : Slot.put1 S' p sc = S'.write p sc := by unfold Slot.put1; rw [if_neg hw]
  have e2 : Slot.save2 S at_ f sc = S'.write p sc := by rw [Slot.svN_stop hi h.e (by rw [← hp, e]; exact hw), ← hp, e]
  rw [e2]
  exact ⟨F1, rfl, m1, q1, q2⟩
theorem SvInv.done (h : SvInv w b F S at_ f sc A 2 F' S' wr) : ChgPost Mir b F (Slot.save2 S at_ f sc) w (.returned (.int .i64 0)) wr := by
  have e : Slot.save2 S at_ f sc = (S', 0) := h.e
  rw [e]
  exact ⟨F', rfl, h.m, h.own, h.fr⟩
end
theorem ChgPost.same {b : Nat} {F : Nat → Prop} {S : DS} {x : Int} {w w' : World} (h : Mir w b F S) (hB : Below w.heap.size w w') : ChgPost Mir b F (S, x) w (.returned (.int .i64 x)) w' :=
  ⟨F, rfl, h.step hB, fun _ hk => .inl hk, Frame.of_below hB⟩
def intOs : Value → Int
  | .int _ q => q
  | _ => 0
set_option maxRecDepth 100000 in
set_option maxHeartbeats 8000000 in
theorem mSave (w : World) (b : Nat) (F : Nat → Prop) (S : DS) (at_ : Int) (A : Option Addr) (r : List UInt8) (m c : Nat) (hm : r.length = m) (h : Mir w b F S) (hr : BytesAt w w.heap.size A r) (hops : S.ops ≤ 990000) :
    Calls Tryz.prog 14 #[.pointer (some ⟨b, 0, none⟩), .int .i64 at_, .slice A m c] w (ChgPost Mir b F (Slot.save S at_ r) w) := by
  have hsame := fun x w' (hB : Below w.heap.size w w') => ChgPost.same (x := x) h hB
  unfold Slot.save
  by_cases h40 : 40 < r.length
  · rw [if_pos h40]
    have hi : (40 : Int) < (m : Int) := by omega
    have hp := Lib.hid (hsame 3)
    clear h40 hm hr h hops hsame
    go_enter Tryz.func14, Tryz.ntmps14
    go_wp2
    go_ret
    exact hp.out w (Below.refl _ _)
  rw [if_neg h40]
  have hi : ¬ (40 : Int) < (m : Int) := by omega
  by_cases hx : Slot.lookE S at_ ≠ 0
  · rw [if_pos hx]
    obtain ⟨x, hxe⟩ : ∃ x, x = Slot.lookE S at_ := ⟨_, rfl⟩
    by_cases hr2 : at_ < 0 ∨ 1024 < at_
    · obtain ⟨_, he⟩ := lookE_away S h.ok at_ hr2
      have z := mLook_no w b F S (-2) h (by decide) (by decide) (by rw [he]; exact hx)
      unfold LkPost twoV at z
      rw [he, ← hxe] at z
      rw [← hxe] at hx ⊢
      have hne : (x != 0) = true := by simpa using hx
      have hp := Lib.hid (hsame x)
      clear h40 hm hr h hops hsame he hxe hx
      by_cases h1 : at_ < 0
      · clear hr2
        go_enter Tryz.func14, Tryz.ntmps14
        go_wp2_with (go_at_call 34; refine z.mono ?_; (rintro e w2 ⟨A2, c2, rfl, hc, hb, nw, B2⟩))
        go_ret
        exact hp.out _ (step_trans B2 (two_step w2 _))
      · have h2 : (1024 : Int) < at_ := by omega
        clear hr2
        go_enter Tryz.func14, Tryz.ntmps14
        go_wp2_with (go_at_call 34; refine z.mono ?_; (rintro e w2 ⟨A2, c2, rfl, hc, hb, nw, B2⟩))
        go_ret
        exact hp.out _ (step_trans B2 (two_step w2 _))
    · have h1 : ¬ at_ < 0 := by omega
      have h2 : ¬ (1024 : Int) < at_ := by omega
      have z := mLook_no w b F S at_ h (by omega) (by omega) hx
      unfold LkPost twoV at z
      rw [← hxe] at z hx ⊢
      have hne : (x != 0) = true := by simpa using hx
      have hp := Lib.hid (hsame x)
      clear h40 hm hr h hops hsame hxe hx hr2
      go_enter Tryz.func14, Tryz.ntmps14
      go_wp2_with (go_at_call 34; refine z.mono ?_; (rintro e w2 ⟨A2, c2, rfl, hc, hb, nw, B2⟩))
      go_ret
      exact hp.out _ (step_trans B2 (two_step w2 _))
  rw [if_neg hx]
  have hx : Slot.lookE S at_ = 0 := Decidable.not_not.1 hx
  have hin : ¬ (at_ < 0 ∨ 1024 < at_) := fun hr2 => (lookE_away S h.ok at_ hr2).1 hx
  have h1 : ¬ at_ < 0 := by omega
  have h2 : ¬ (1024 : Int) < at_ := by omega
  have z := mLook_yes w b F S at_ h (by omega) (by omega) hx
  unfold LkPost twoV at z
  obtain ⟨ni, hni⟩ : ∃ x, x = Slot.newestI (S.readB at_) (S.readB (at_ + 1)) := ⟨_, rfl⟩
  obtain ⟨nb, hnb⟩ : ∃ x, x = Slot.noneB (S.readB at_) (S.readB (at_ + 1)) := ⟨_, rfl⟩
  obtain ⟨tb, htb⟩ : ∃ x, x = Slot.topB (S.readB at_) (S.readB (at_ + 1)) := ⟨_, rfl⟩
  obtain ⟨tn, htn⟩ : ∃ x, x = Slot.topN (S.readB at_) (S.readB (at_ + 1)) := ⟨_, rfl⟩
  obtain ⟨f, hf⟩ : ∃ x, x = Slot.first (S.readB at_) (S.readB (at_ + 1)) := ⟨_, rfl⟩
  have hfe : f = if ni = 0 then 1 else 0 := by rw [hf, hni]; rfl
  rw [← hni, ← hnb, ← htb, ← htn] at z
  rw [← htn, ← hf]
  clear hni hnb htb htn hf hin
  by_cases hbig : 1099511627776 ≤ tn
  · rw [if_pos hbig]
    have hbi : (1099511627776 : Int) ≤ (tn : Int) := by omega
    have hp := Lib.hid (hsame 8)
    clear h40 hm hr h hops hsame hx hfe
    go_enter Tryz.func14, Tryz.ntmps14
    go_wp2_with (go_at_call 34; refine z.mono ?_; (rintro e w2 ⟨A2, c2, rfl, hc, hb, nw, B2⟩))
    go_ret
    exact hp.out _ (step_trans B2 (two_step w2 _))
  rw [if_neg hbig]
  have hbi : (decide ((1099511627776 : Int) ≤ (tn : Int))) = false := by simp; omega
  have hw1 : IntKind.i64.wrap ((tn : Int) + 1) = ((tn + 1 : Nat) : Int) := by rw [IntWalk.i64_in _ (by omega)]; omega
  have zB := fun w1 hr1 => refBytes5_any ((tn + 1 : Nat) : Int) A r m c hm w1 hr1
  obtain ⟨g1, g2⟩ := Slot.bytes_good (tn + 1) r h40 (by omega)
  have hsl := Slot.sect_length (tn + 1) r (by omega)
  unfold SbPost at zB
  rw [g1, g2, hsl] at zB
  obtain ⟨Ni, hNi⟩ : ∃ x : Int, x = ((tn + 1 : Nat) : Int) := ⟨_, rfl⟩
  rw [← hNi] at zB hw1
  obtain ⟨sc, hsc⟩ : ∃ sc, sc = Slot.sect (tn + 1) r := ⟨_, rfl⟩
  rw [← hsc] at zB hsl ⊢
  have hne : sc ≠ [] := by rintro rfl; simp at hsl
  have HH := Lib.hid (And.intro h (And.intro hr (And.intro hops (And.intro hne hsl))))
  have ha1 : IntKind.i64.wrap (at_ + 1) = at_ + 1 := IntWalk.i64_in _ (by omega)
  have ha0 : IntKind.i64.wrap at_ = at_ := IntWalk.i64_in _ (by omega)
  clear h40 hm hr h hops hsame hx hsc g1 g2 hsl hne hbig hNi
  by_cases h0 : ni = 0
  · obtain rfl : f = 1 := by rw [hfe]; rw [if_pos h0]
    clear hfe
    subst h0
    go_enter Tryz.func14, Tryz.ntmps14
    go_wp2_with (first
      | (go_at_call 34; refine z.mono ?_; (rintro e w2 ⟨A2, c2, rfl, hc, hb, nw, B2⟩; have C3 := step_trans B2 (two_step w2 #[.int .i64 0, .int .i64 (tn : Int), .slice A2 tb.length c2, .bool nb]); have r3 := HH.out.2.1.step C3))
      | (go_at_call 35; (refine (zB _ r3).mono ?_); (rintro e w4 ⟨A4, c4, rfl, hc4, r4, n4, B4⟩)))
    have I0 : SvInv w b F S at_ 1 sc A4 0 F S w4 := ⟨HH.out.1.step (step_trans C3 B4), rfl, fun _ hk => .inl hk, Frame.of_below (step_trans C3 B4), r4, fun ad e hk => by have q1 := n4 ad e HH.out.2.2.2.1; have q2 := HH.out.1.lt _ hk; have q3 := C3.size; omega, Nat.le_refl _⟩
    replace I0 := Lib.hid I0
    clear r3 B2 B4 C3 r4 n4 hb nw z zB
    go_loopw [12] (fun ix wr => ∃ (i : Nat) (x : Int) (S' : DS) (F' : Nat → Prop), (i = 0 ∧ x = 0 ∨ i = 1 ∧ x = 1 ∨ i = 2 ∧ x = 2) ∧ ix = .int .i64 x ∧ SvInv w b F S at_ 1 sc A4 i F' S' wr) (fun ix _ => 2 - (intOs ix).toNat)
    case atStart => exact ⟨0, 0, S, F, .inl ⟨rfl, rfl⟩, rfl, I0.out⟩
    case round =>
      obtain ⟨i, x, S', F', hix, rfl, inv⟩ := hrel
      clear I0
      rcases hix with ⟨rfl, rfl⟩ | ⟨rfl, rfl⟩ | ⟨rfl, rfl⟩
      · have hp : (at_ + 1) = Slot.svP at_ 1 0 := by unfold Slot.svP; simp
        have zw := mWrite wr b F' S' (at_ + 1) A4 sc 64 c4 inv.m (by have := inv.ops; have := HH.out.2.2.1; omega) inv.rb inv.nb HH.out.2.2.2.2 (by decide)
        have zf := fun w1 F1 h => mFlush w1 b F1 (S'.write (at_ + 1) sc).1 h (by have := ops_write S' (at_ + 1) sc; have := inv.ops; have := HH.out.2.2.1; omega)
        unfold MirPost at zw zf
        obtain ⟨x, hx⟩ : ∃ x, x = (S'.write (at_ + 1) sc).2 := ⟨_, rfl⟩
        obtain ⟨y, hy⟩ : ∃ y, y = (S'.write (at_ + 1) sc).1.flush.2 := ⟨_, rfl⟩
        rw [← hx] at zw
        rw [← hy] at zf
        have HI := Lib.hid (And.intro inv (And.intro hx (And.intro hy hp)))
        clear inv hx hy hp
        by_cases hx0 : x = 0
        · subst hx0
          by_cases hy0 : y = 0
          · subst hy0
            go_wp2_with (first
              | (go_at_call 36; refine zw.mono ?_; (rintro e w1 ⟨F1, rfl, m1, o1, f1⟩))
              | (go_at_call 37; refine (zf w1 F1 m1).mono ?_; (rintro e w5 ⟨F2, rfl, m2, o2, f2⟩)))
            go_roundw
            case rel => exact ⟨1, 1, _, F2, .inr (.inl ⟨rfl, rfl⟩), by first | rfl | go_num, HI.out.1.next HH.out.2.2.2.1 (by decide) HI.out.2.2.2 HI.out.2.1.symm HI.out.2.2.1.symm o1 f1 m2 o2 f2⟩
            case measure => simp [intOs]
          · have hne : (y != 0) = true := by simpa using hy0
            have HY := Lib.hid hy0
            clear hy0
            go_wp2_with (first
              | (go_at_call 36; refine zw.mono ?_; (rintro e w1 ⟨F1, rfl, m1, o1, f1⟩))
              | (go_at_call 37; refine (zf w1 F1 m1).mono ?_; (rintro e w5 ⟨F2, rfl, m2, o2, f2⟩)))
            go_ret
            have hz := HI.out.1.noFlush HH.out.2.2.2.1 (by decide) HI.out.2.2.2 HI.out.2.1.symm (by rw [← HI.out.2.2.1]; exact HY.out) o1 f1 m2 o2 f2
            rw [← HI.out.2.2.1] at hz
            exact hz
        · have hne : (x != 0) = true := by simpa using hx0
          have hne2 : (x == 0) = false := by simpa using hx0
          have HY := Lib.hid hx0
          clear hx0
          go_wp2_with (first
            | (go_at_call 36; refine zw.mono ?_; (rintro e w1 ⟨F1, rfl, m1, o1, f1⟩)))
          go_ret
          have hz := HI.out.1.noWrite HH.out.2.2.2.1 (by decide) HI.out.2.2.2 (by rw [← HI.out.2.1]; exact HY.out) o1 f1 m1
          rw [← HI.out.2.1] at hz
          exact hz
      · have hp : at_ = Slot.svP at_ 1 1 := by unfold Slot.svP; simp
        have zw := mWrite wr b F' S' at_ A4 sc 64 c4 inv.m (by have := inv.ops; have := HH.out.2.2.1; omega) inv.rb inv.nb HH.out.2.2.2.2 (by decide)
        have zf := fun w1 F1 h => mFlush w1 b F1 (S'.write at_ sc).1 h (by have := ops_write S' at_ sc; have := inv.ops; have := HH.out.2.2.1; omega)
        unfold MirPost at zw zf
        obtain ⟨x, hx⟩ : ∃ x, x = (S'.write at_ sc).2 := ⟨_, rfl⟩
        obtain ⟨y, hy⟩ : ∃ y, y = (S'.write at_ sc).1.flush.2 := ⟨_, rfl⟩
        rw [← hx] at zw
        rw [← hy] at zf
        have HI := Lib.hid (And.intro inv (And.intro hx (And.intro hy hp)))
        clear inv hx hy hp
        by_cases hx0 : x = 0
        · subst hx0
          by_cases hy0 : y = 0
          · subst hy0
            go_wp2_with (first
              | (go_at_call 36; refine zw.mono ?_; (rintro e w1 ⟨F1, rfl, m1, o1, f1⟩))
              | (go_at_call 37; refine (zf w1 F1 m1).mono ?_; (rintro e w5 ⟨F2, rfl, m2, o2, f2⟩)))
            go_roundw
            case rel => exact ⟨2, 2, _, F2, .inr (.inr ⟨rfl, rfl⟩), by first | rfl | go_num, HI.out.1.next HH.out.2.2.2.1 (by decide) HI.out.2.2.2 HI.out.2.1.symm HI.out.2.2.1.symm o1 f1 m2 o2 f2⟩
            case measure => simp [intOs]
          · have hne : (y != 0) = true := by simpa using hy0
            have HY := Lib.hid hy0
            clear hy0
            go_wp2_with (first
              | (go_at_call 36; refine zw.mono ?_; (rintro e w1 ⟨F1, rfl, m1, o1, f1⟩))
              | (go_at_call 37; refine (zf w1 F1 m1).mono ?_; (rintro e w5 ⟨F2, rfl, m2, o2, f2⟩)))
            go_ret
            have hz := HI.out.1.noFlush HH.out.2.2.2.1 (by decide) HI.out.2.2.2 HI.out.2.1.symm (by rw [← HI.out.2.2.1]; exact HY.out) o1 f1 m2 o2 f2
            rw [← HI.out.2.2.1] at hz
            exact hz
        · have hne : (x != 0) = true := by simpa using hx0
          have hne2 : (x == 0) = false := by simpa using hx0
          have HY := Lib.hid hx0
          clear hx0
          go_wp2_with (first
            | (go_at_call 36; refine zw.mono ?_; (rintro e w1 ⟨F1, rfl, m1, o1, f1⟩)))
          go_ret
          have hz := HI.out.1.noWrite HH.out.2.2.2.1 (by decide) HI.out.2.2.2 (by rw [← HI.out.2.1]; exact HY.out) o1 f1 m1
          rw [← HI.out.2.1] at hz
          exact hz
      · have HI := Lib.hid inv
        clear inv
        go_wp2
        go_ret
        exact HI.out.done
  · obtain rfl : f = 0 := by rw [hfe]; rw [if_neg h0]
    clear hfe
    have h0' : (ni == 0) = false := by simpa using h0
    go_enter Tryz.func14, Tryz.ntmps14
    go_wp2_with (first
      | (go_at_call 34; refine z.mono ?_; (rintro e w2 ⟨A2, c2, rfl, hc, hb, nw, B2⟩; have C3 := step_trans B2 (two_step w2 #[.int .i64 ni, .int .i64 (tn : Int), .slice A2 tb.length c2, .bool nb]); have r3 := HH.out.2.1.step C3))
      | (go_at_call 35; (refine (zB _ r3).mono ?_); (rintro e w4 ⟨A4, c4, rfl, hc4, r4, n4, B4⟩)))
    have I0 : SvInv w b F S at_ 0 sc A4 0 F S w4 := ⟨HH.out.1.step (step_trans C3 B4), rfl, fun _ hk => .inl hk, Frame.of_below (step_trans C3 B4), r4, fun ad e hk => by have q1 := n4 ad e HH.out.2.2.2.1; have q2 := HH.out.1.lt _ hk; have q3 := C3.size; omega, Nat.le_refl _⟩
    replace I0 := Lib.hid I0
    clear r3 B2 B4 C3 r4 n4 hb nw z zB
    go_loopw [12] (fun ix wr => ∃ (i : Nat) (x : Int) (S' : DS) (F' : Nat → Prop), (i = 0 ∧ x = 0 ∨ i = 1 ∧ x = 1 ∨ i = 2 ∧ x = 2) ∧ ix = .int .i64 x ∧ SvInv w b F S at_ 0 sc A4 i F' S' wr) (fun ix _ => 2 - (intOs ix).toNat)
    case atStart => exact ⟨0, 0, S, F, .inl ⟨rfl, rfl⟩, rfl, I0.out⟩
    case round =>
      obtain ⟨i, x, S', F', hix, rfl, inv⟩ := hrel
      clear I0
      rcases hix with ⟨rfl, rfl⟩ | ⟨rfl, rfl⟩ | ⟨rfl, rfl⟩
      · have hp : at_ = Slot.svP at_ 0 0 := by unfold Slot.svP; simp
        have zw := mWrite wr b F' S' at_ A4 sc 64 c4 inv.m (by have := inv.ops; have := HH.out.2.2.1; omega) inv.rb inv.nb HH.out.2.2.2.2 (by decide)
        have zf := fun w1 F1 h => mFlush w1 b F1 (S'.write at_ sc).1 h (by have := ops_write S' at_ sc; have := inv.ops; have := HH.out.2.2.1; omega)
        unfold MirPost at zw zf
        obtain ⟨x, hx⟩ : ∃ x, x = (S'.write at_ sc).2 := ⟨_, rfl⟩
        obtain ⟨y, hy⟩ : ∃ y, y = (S'.write at_ sc).1.flush.2 := ⟨_, rfl⟩
        rw [← hx] at zw
        rw [← hy] at zf
        have HI := Lib.hid (And.intro inv (And.intro hx (And.intro hy hp)))
        clear inv hx hy hp
        by_cases hx0 : x = 0
        · subst hx0
          by_cases hy0 : y = 0
          · subst hy0
            go_wp2_with (first
              | (go_at_call 36; refine zw.mono ?_; (rintro e w1 ⟨F1, rfl, m1, o1, f1⟩))
              | (go_at_call 37; refine (zf w1 F1 m1).mono ?_; (rintro e w5 ⟨F2, rfl, m2, o2, f2⟩)))
            go_roundw
            case rel => exact ⟨1, 1, _, F2, .inr (.inl ⟨rfl, rfl⟩), by first | rfl | go_num, HI.out.1.next HH.out.2.2.2.1 (by decide) HI.out.2.2.2 HI.out.2.1.symm HI.out.2.2.1.symm o1 f1 m2 o2 f2⟩
            case measure => simp [intOs]
          · have hne : (y != 0) = true := by simpa using hy0
            have HY := Lib.hid hy0
            clear hy0
            go_wp2_with (first
              | (go_at_call 36; refine zw.mono ?_; (rintro e w1 ⟨F1, rfl, m1, o1, f1⟩))
              | (go_at_call 37; refine (zf w1 F1 m1).mono ?_; (rintro e w5 ⟨F2, rfl, m2, o2, f2⟩)))
            go_ret
            have hz := HI.out.1.noFlush HH.out.2.2.2.1 (by decide) HI.out.2.2.2 HI.out.2.1.symm (by rw [← HI.out.2.2.1]; exact HY.out) o1 f1 m2 o2 f2
            rw [← HI.out.2.2.1] at hz
            exact hz
        · have hne : (x != 0) = true := by simpa using hx0
          have hne2 : (x == 0) = false := by simpa using hx0
          have HY := Lib.hid hx0
          clear hx0
          go_wp2_with (first
            | (go_at_call 36; refine zw.mono ?_; (rintro e w1 ⟨F1, rfl, m1, o1, f1⟩)))
          go_ret
          have hz := HI.out.1.noWrite HH.out.2.2.2.1 (by decide) HI.out.2.2.2 (by rw [← HI.out.2.1]; exact HY.out) o1 f1 m1
          rw [← HI.out.2.1] at hz
          exact hz
      · have hp : (at_ + 1) = Slot.svP at_ 0 1 := by unfold Slot.svP; simp
        have zw := mWrite wr b F' S' (at_ + 1) A4 sc 64 c4 inv.m (by have := inv.ops; have := HH.out.2.2.1; omega) inv.rb inv.nb HH.out.2.2.2.2 (by decide)
        have zf := fun w1 F1 h => mFlush w1 b F1 (S'.write (at_ + 1) sc).1 h (by have := ops_write S' (at_ + 1) sc; have := inv.ops; have := HH.out.2.2.1; omega)
        unfold MirPost at zw zf
        obtain ⟨x, hx⟩ : ∃ x, x = (S'.write (at_ + 1) sc).2 := ⟨_, rfl⟩
        obtain ⟨y, hy⟩ : ∃ y, y = (S'.write (at_ + 1) sc).1.flush.2 := ⟨_, rfl⟩
        rw [← hx] at zw
        rw [← hy] at zf
        have HI := Lib.hid (And.intro inv (And.intro hx (And.intro hy hp)))
        clear inv hx hy hp
        by_cases hx0 : x = 0
        · subst hx0
          by_cases hy0 : y = 0
          · subst hy0
            go_wp2_with (first
              | (go_at_call 36; refine zw.mono ?_; (rintro e w1 ⟨F1, rfl, m1, o1, f1⟩))
              | (go_at_call 37; refine (zf w1 F1 m1).mono ?_; (rintro e w5 ⟨F2, rfl, m2, o2, f2⟩)))
            go_roundw
            case rel => exact ⟨2, 2, _, F2, .inr (.inr ⟨rfl, rfl⟩), by first | rfl | go_num, HI.out.1.next HH.out.2.2.2.1 (by decide) HI.out.2.2.2 HI.out.2.1.symm HI.out.2.2.1.symm o1 f1 m2 o2 f2⟩
            case measure => simp [intOs]
          · have hne : (y != 0) = true := by simpa using hy0
            have HY := Lib.hid hy0
            clear hy0
            go_wp2_with (first
              | (go_at_call 36; refine zw.mono ?_; (rintro e w1 ⟨F1, rfl, m1, o1, f1⟩))
              | (go_at_call 37; refine (zf w1 F1 m1).mono ?_; (rintro e w5 ⟨F2, rfl, m2, o2, f2⟩)))
            go_ret
            have hz := HI.out.1.noFlush HH.out.2.2.2.1 (by decide) HI.out.2.2.2 HI.out.2.1.symm (by rw [← HI.out.2.2.1]; exact HY.out) o1 f1 m2 o2 f2
            rw [← HI.out.2.2.1] at hz
            exact hz
        · have hne : (x != 0) = true := by simpa using hx0
          have hne2 : (x == 0) = false := by simpa using hx0
          have HY := Lib.hid hx0
          clear hx0
          go_wp2_with (first
            | (go_at_call 36; refine zw.mono ?_; (rintro e w1 ⟨F1, rfl, m1, o1, f1⟩)))
          go_ret
          have hz := HI.out.1.noWrite HH.out.2.2.2.1 (by decide) HI.out.2.2.2 (by rw [← HI.out.2.1]; exact HY.out) o1 f1 m1
          rw [← HI.out.2.1] at hz
          exact hz
      · have HI := Lib.hid inv
        clear inv
        go_wp2
        go_ret
        exact HI.out.done
end Go.Proofs.YtcahpodmcklnbaaGreatDoor
