/-
  tandemref05.Load, over the document's own disk. Conditions: none.
-/
import Derived.Test.YtcahpodmcklnbaaGreatDoorSlotLook
namespace Go.Proofs.YtcahpodmcklnbaaGreatDoor
open Go.RowKit Fix

theorem readE_away (S : DS) (h : S.Ok) (i : Int) (hi : i < 0 ∨ 1024 ≤ i) : S.readE i ≠ 0 ∧ S.readE i = S.readE (-2) := by
  have h2 := h.n2
  have e1 : S.there i = false := by rw [← Bool.not_eq_true, S.there_iff]; omega
  have e2 : S.there (-2) = false := by rw [← Bool.not_eq_true, S.there_iff]; omega
  unfold DS.readE
  rw [e1, e2]
  split
  · exact ⟨by decide, rfl⟩
  · exact ⟨by decide, rfl⟩
theorem lookE_away (S : DS) (h : S.Ok) (i : Int) (hi : i < 0 ∨ 1024 < i) : Slot.lookE S i ≠ 0 ∧ Slot.lookE S (-2) = Slot.lookE S i := by
  obtain ⟨e1, e2⟩ := readE_away S h i (by omega)
  unfold Slot.lookE
  rw [if_neg e1, if_neg (by rw [← e2]; exact e1)]
  exact ⟨e1, e2.symm⟩
def LdPost (S : DS) (at_ : Int) (w : World) (e : Ending) (w' : World) : Prop :=
  ∃ A c, e = .returned (.tuple #[.slice A (Slot.loadB S at_).length c, .int .i64 (Slot.loadE S at_)]) ∧ (Slot.loadB S at_).length ≤ c ∧ BytesAt w' w'.heap.size A (Slot.loadB S at_) ∧ Below w.heap.size w w'
theorem LdPost.none_ {S : DS} {at_ x : Int} {w w' : World} (hx : Slot.loadE S at_ = x) (h0 : x ≠ 0) (hB : Below w.heap.size w w') : LdPost S at_ w (.returned (.tuple #[.slice none 0 0, .int .i64 x])) w' := by
  have e : Slot.loadB S at_ = [] := by unfold Slot.loadB; rw [if_neg (by rw [hx]; exact h0)]
  exact ⟨none, 0, by rw [e, hx]; rfl, by rw [e]; exact Nat.le_refl _, by rw [e]; exact bytes_nil, hB⟩
theorem loadE_no (S : DS) (at_ : Int) (h : Slot.lookE S at_ ≠ 0) : Slot.loadE S at_ = Slot.lookE S at_ := by unfold Slot.loadE; rw [if_neg h]
theorem two_step (w : World) (v : Array Value) : Below w.heap.size w (w.alloc (.cells v 91)) := (Below.refl _ _).alloc (Nat.le_refl _) _
set_option maxRecDepth 100000 in
set_option maxHeartbeats 2000000 in
theorem mLoad (w : World) (b : Nat) (F : Nat → Prop) (S : DS) (at_ : Int) (h : Mir w b F S) : Calls Tryz.prog 58 #[.pointer (some ⟨b, 0, none⟩), .int .i64 at_] w (LdPost S at_ w) := by
  by_cases hr : at_ < 0 ∨ 1024 < at_
  · obtain ⟨hx, he⟩ := lookE_away S h.ok at_ hr
    have z := mLook_no w b F S (-2) h (by decide) (by decide) (by rw [he]; exact hx)
    unfold LkPost twoV at z
    rw [he] at z
    obtain ⟨x, hxe⟩ : ∃ x, x = Slot.lookE S at_ := ⟨_, rfl⟩
    have hp : ∀ w', Below w.heap.size w w' → LdPost S at_ w (.returned (.tuple #[.slice none 0 0, .int .i64 x])) w' := fun w' hB => LdPost.none_ (by rw [loadE_no S at_ hx, hxe]) (by rw [hxe]; exact hx) hB
    rw [← hxe] at z hx
    have hne : (x != 0) = true := by simpa using hx
    replace hp := Lib.hid hp
    clear h he hxe hx
    by_cases h1 : at_ < 0
    · clear hr
      go_enter Tryz.func58, Tryz.ntmps58
      go_wp2_with (go_at_call 34; refine z.mono ?_; (rintro e w2 ⟨A, c, rfl, hc, hb, nw, B2⟩))
      go_ret2
      exact hp.out _ (step_trans B2 (two_step w2 _))
    · have h2 : (1024 : Int) < at_ := by omega
      clear hr
      go_enter Tryz.func58, Tryz.ntmps58
      go_wp2_with (go_at_call 34; refine z.mono ?_; (rintro e w2 ⟨A, c, rfl, hc, hb, nw, B2⟩))
      go_ret2
      exact hp.out _ (step_trans B2 (two_step w2 _))
  · have h1 : ¬ at_ < 0 := by omega
    have h2 : ¬ (1024 : Int) < at_ := by omega
    by_cases hx : Slot.lookE S at_ = 0
    · have z := mLook_yes w b F S at_ h (by omega) (by omega) hx
      unfold LkPost twoV at z
      obtain ⟨ni, hni⟩ : ∃ x, x = Slot.newestI (S.readB at_) (S.readB (at_ + 1)) := ⟨_, rfl⟩
      obtain ⟨nb, hnb⟩ : ∃ x, x = Slot.noneB (S.readB at_) (S.readB (at_ + 1)) := ⟨_, rfl⟩
      obtain ⟨tb, htb⟩ : ∃ x, x = Slot.topB (S.readB at_) (S.readB (at_ + 1)) := ⟨_, rfl⟩
      obtain ⟨tn, htn⟩ : ∃ x, x = Slot.topN (S.readB at_) (S.readB (at_ + 1)) := ⟨_, rfl⟩
      rw [← hni, ← hnb, ← htb, ← htn] at z
      have hl : Slot.loadE S at_ = if nb = true then 6 else if ni < 0 then 11 else 0 := by
        unfold Slot.loadE
        rw [if_pos hx, ← hni, ← hnb]
      cases nb with
      | true =>
        have hp : ∀ w', Below w.heap.size w w' → LdPost S at_ w (.returned (.tuple #[.slice none 0 0, .int .i64 6])) w' := fun w' hB => LdPost.none_ (by rw [hl]; rfl) (by decide) hB
        replace hp := Lib.hid hp
        clear h hr hx hni hnb htb htn hl
        go_enter Tryz.func58, Tryz.ntmps58
        go_wp2_with (go_at_call 34; refine z.mono ?_; (rintro e w2 ⟨A, c, rfl, hc, hb, nw, B2⟩))
        go_ret2
        exact hp.out _ (step_trans B2 (two_step w2 _))
      | false =>
        by_cases h0 : ni < 0
        · have hp : ∀ w', Below w.heap.size w w' → LdPost S at_ w (.returned (.tuple #[.slice none 0 0, .int .i64 11])) w' := fun w' hB => LdPost.none_ (by rw [hl, if_neg (by decide), if_pos h0]) (by decide) hB
          replace hp := Lib.hid hp
          clear h hr hx hni hnb htb htn hl
          go_enter Tryz.func58, Tryz.ntmps58
          go_wp2_with (go_at_call 34; refine z.mono ?_; (rintro e w2 ⟨A, c, rfl, hc, hb, nw, B2⟩))
          go_ret2
          exact hp.out _ (step_trans B2 (two_step w2 _))
        · have hl0 : Slot.loadE S at_ = 0 := by rw [hl, if_neg (by decide), if_neg h0]
          have hlb : Slot.loadB S at_ = tb := by unfold Slot.loadB; rw [if_pos hl0, htb]
          have hp : ∀ A c w', tb.length ≤ c → BytesAt w' w'.heap.size A tb → Below w.heap.size w w' → LdPost S at_ w (.returned (.tuple #[.slice A tb.length c, .int .i64 0])) w' := fun A c w' q1 q2 q3 => ⟨A, c, by rw [hlb, hl0], by rw [hlb]; exact q1, by rw [hlb]; exact q2, q3⟩
          replace hp := Lib.hid hp
          clear h hr hx hni hnb htb htn hl hl0 hlb
          go_enter Tryz.func58, Tryz.ntmps58
          go_wp2_with (go_at_call 34; refine z.mono ?_; (rintro e w2 ⟨A, c, rfl, hc, hb, nw, B2⟩))
          go_ret2
          exact hp.out _ _ _ hc (hb.step (two_step w2 _)) (step_trans B2 (two_step w2 _))
    · have z := mLook_no w b F S at_ h (by omega) (by omega) hx
      unfold LkPost twoV at z
      obtain ⟨x, hxe⟩ : ∃ x, x = Slot.lookE S at_ := ⟨_, rfl⟩
      have hp : ∀ w', Below w.heap.size w w' → LdPost S at_ w (.returned (.tuple #[.slice none 0 0, .int .i64 x])) w' := fun w' hB => LdPost.none_ (by rw [loadE_no S at_ hx, hxe]) (by rw [hxe]; exact hx) hB
      rw [← hxe] at z hx
      have hne : (x != 0) = true := by simpa using hx
      replace hp := Lib.hid hp
      clear h hr hxe hx
      go_enter Tryz.func58, Tryz.ntmps58
      go_wp2_with (go_at_call 34; refine z.mono ?_; (rintro e w2 ⟨A, c, rfl, hc, hb, nw, B2⟩))
      go_ret2
      exact hp.out _ (step_trans B2 (two_step w2 _))
end Go.Proofs.YtcahpodmcklnbaaGreatDoor
