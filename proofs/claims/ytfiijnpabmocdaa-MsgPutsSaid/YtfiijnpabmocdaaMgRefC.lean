/-
  The document's own: Check and Put, each by one contract. Conditions: the bytes can be read.
-/
import Derived.Test.YtfiijnpabmocdaaMgRefChk
import Derived.Test.YtfiijnpabmocdaaMgRefPut
import Derived.Test.YtfiijnpabmocdaaMgTie
namespace Go.Proofs.Ytfiijnpabmocdaa
open Go.RowKit Mg Fix

theorem within_at (m : M) (hp : ∀ p, Part m.kind p m) : withinB m.kind 116 m.term 1099511627776 = true ∧ withinB m.kind 113 m.seq 1099511627776 = true ∧ withinB m.kind 115 m.stamp 1099511627776 = true ∧ withinB m.kind 107 m.block 63 = true ∧ withinB m.kind 114 m.rt 1099511627776 = true ∧ withinB m.kind 114 m.rn 1099511627776 = true ∧ withinB m.kind 114 m.rs 3 = true := by
  refine ⟨(within_part m.kind .term m).2 (hp _), (within_part m.kind .seq m).2 (hp _), (within_part m.kind .stamp m).2 (hp _), (within_part m.kind .block m).2 (hp _), (within_part m.kind .rt m).2 (hp _), (within_part m.kind .rn m).2 (hp _), (within_part m.kind .rs m).2 (hp _)⟩
theorem refCheck_any (m : M) (A : Option Addr) (c : Nat) (w : World) (hr : BytesAt w w.heap.size A m.data) :
    Calls Try.prog 9 #[mVal m A c] w fun e w' => e = .returned (.int .i64 (Mg.putE m)) ∧ Below w.heap.size w w' := by
  have bad : ¬ May m → Calls Try.prog 9 #[mVal m A c] w (fun e w' => e = .returned (.int .i64 2) ∧ Below w.heap.size w w') → Calls Try.prog 9 #[mVal m A c] w fun e w' => e = .returned (.int .i64 (Mg.putE m)) ∧ Below w.heap.size w w' := fun h z => by
    rw [(may_no h).1]; exact z
  cases h0 : (fls m.kind).isEmpty with
  | true =>
    refine bad (fun hM => ?_) ?_
    · exact ((may_iff m).1 hM).1 (List.isEmpty_iff.1 h0)
    · cases hd : hasB m.kind 100 with
      | true => exact chk_0_1_1_1 m A c w hr h0 hd
      | false => exact chk_0_1_1_0 m A c w hr h0 hd
  | false =>
  by_cases h1 : 0 ≤ m.src
  case neg =>
    have h1 : m.src < 0 := by omega
    refine bad (fun hM => ?_) ?_
    · have := ((may_iff m).1 hM).2.1; omega
    · cases hd : hasB m.kind 100 with
      | true => exact chk_1_1_1_1 m A c w hr h0 h1 hd
      | false => exact chk_1_1_1_0 m A c w hr h0 h1 hd
  by_cases h2 : m.src < 3
  case neg =>
    have h2 : 3 ≤ m.src := by omega
    refine bad (fun hM => ?_) ?_
    · have := ((may_iff m).1 hM).2.2.1; omega
    · cases hd : hasB m.kind 100 with
      | true => exact chk_2_1_1_1 m A c w hr h0 h1 h2 hd
      | false => exact chk_2_1_1_0 m A c w hr h0 h1 h2 hd
  cases g0 : withinB m.kind 116 m.term 1099511627776 with
  | false =>
    refine bad (fun hM => ?_) ?_
    · rw [(within_at m ((may_iff m).1 hM).2.2.2).1] at g0; cases g0
    · cases hd : hasB m.kind 100 with
      | true => exact chk_3_1_1_1 m A c w hr h0 h1 h2 g0 hd
      | false => exact chk_3_1_1_0 m A c w hr h0 h1 h2 g0 hd
  | true =>
  cases g1 : withinB m.kind 113 m.seq 1099511627776 with
  | false =>
    refine bad (fun hM => ?_) ?_
    · rw [(within_at m ((may_iff m).1 hM).2.2.2).2.1] at g1; cases g1
    · cases hd : hasB m.kind 100 with
      | true => exact chk_4_1_1_1 m A c w hr h0 h1 h2 g0 g1 hd
      | false => exact chk_4_1_1_0 m A c w hr h0 h1 h2 g0 g1 hd
  | true =>
  cases g2 : withinB m.kind 115 m.stamp 1099511627776 with
  | false =>
    refine bad (fun hM => ?_) ?_
    · rw [(within_at m ((may_iff m).1 hM).2.2.2).2.2.1] at g2; cases g2
    · cases hd : hasB m.kind 100 with
      | true => exact chk_5_1_1_1 m A c w hr h0 h1 h2 g0 g1 g2 hd
      | false => exact chk_5_1_1_0 m A c w hr h0 h1 h2 g0 g1 g2 hd
  | true =>
  cases g3 : withinB m.kind 107 m.block 63 with
  | false =>
    refine bad (fun hM => ?_) ?_
    · rw [(within_at m ((may_iff m).1 hM).2.2.2).2.2.2.1] at g3; cases g3
    · cases hd : hasB m.kind 100 with
      | true => exact chk_6_1_1_1 m A c w hr h0 h1 h2 g0 g1 g2 g3 hd
      | false => exact chk_6_1_1_0 m A c w hr h0 h1 h2 g0 g1 g2 g3 hd
  | true =>
  cases g4 : withinB m.kind 114 m.rt 1099511627776 with
  | false =>
    refine bad (fun hM => ?_) ?_
    · rw [(within_at m ((may_iff m).1 hM).2.2.2).2.2.2.2.1] at g4; cases g4
    · cases hd : hasB m.kind 100 with
      | true => exact chk_7_1_1_1 m A c w hr h0 h1 h2 g0 g1 g2 g3 g4 hd
      | false => exact chk_7_1_1_0 m A c w hr h0 h1 h2 g0 g1 g2 g3 g4 hd
  | true =>
  cases g5 : withinB m.kind 114 m.rn 1099511627776 with
  | false =>
    refine bad (fun hM => ?_) ?_
    · rw [(within_at m ((may_iff m).1 hM).2.2.2).2.2.2.2.2.1] at g5; cases g5
    · cases hd : hasB m.kind 100 with
      | true => exact chk_8_1_1_1 m A c w hr h0 h1 h2 g0 g1 g2 g3 g4 g5 hd
      | false => exact chk_8_1_1_0 m A c w hr h0 h1 h2 g0 g1 g2 g3 g4 g5 hd
  | true =>
  cases g6 : withinB m.kind 114 m.rs 3 with
  | false =>
    refine bad (fun hM => ?_) ?_
    · rw [(within_at m ((may_iff m).1 hM).2.2.2).2.2.2.2.2.2] at g6; cases g6
    · cases hd : hasB m.kind 100 with
      | true => exact chk_9_1_1_1 m A c w hr h0 h1 h2 g0 g1 g2 g3 g4 g5 g6 hd
      | false => exact chk_9_1_1_0 m A c w hr h0 h1 h2 g0 g1 g2 g3 g4 g5 g6 hd
  | true =>
  have hokp := ok_part m.kind m
  have hbip := bits_part m.kind m
  have hdap := data_part m.kind m
  have hw := fun (q : Nt) => within_part m.kind q m
  have parts_ : Part m.kind (.num .ok) m → Part m.kind .bits m → Part m.kind .data m → ∀ p, Part m.kind p m := by
    intro a b d p
    cases p with
    | num q => cases q with
      | term => exact (hw .term).1 g0
      | seq => exact (hw .seq).1 g1
      | stamp => exact (hw .stamp).1 g2
      | block => exact (hw .block).1 g3
      | ok => exact a
      | rt => exact (hw .rt).1 g4
      | rn => exact (hw .rn).1 g5
      | rs => exact (hw .rs).1 g6
    | bits => exact b
    | data => exact d
  have hne : fls m.kind ≠ [] := by
    intro e
    rw [e] at h0
    cases h0
  have good : Part m.kind (.num .ok) m → Part m.kind .bits m → Part m.kind .data m → Mg.putE m = 0 := fun a b d => (may_yes ((may_iff m).2 ⟨hne, h1, by omega, parts_ a b d⟩)).1
  cases ho : hasB m.kind 111 with
  | true =>
    cases hb : hasB m.kind 98 with
    | true =>
      cases hd : hasB m.kind 100 with
      | true =>
        rw [hd] at hdap
        by_cases hq : m.data.length = 32
        · rw [good (hokp.2 (.inl ho)) (hbip.2 (.inl hb)) (hdap.2 hq)]
          exact chk_13_1_1_1 m A c w hr h0 h1 h2 g0 g1 g2 g3 g4 g5 g6 ho hb hd (by rw [beq_iff_eq]; omega)
        · exact bad (fun hM => hq (hdap.1 (((may_iff m).1 hM).2.2.2 .data))) (chk_12_1_1_1 m A c w hr h0 h1 h2 g0 g1 g2 g3 g4 g5 g6 ho hb hd (by rw [beq_eq_false_iff_ne]; omega))
      | false =>
        rw [hd] at hdap
        by_cases hq : m.data.length = 0
        · rw [good (hokp.2 (.inl ho)) (hbip.2 (.inl hb)) (hdap.2 hq)]
          exact chk_13_1_1_0 m A c w hr h0 h1 h2 g0 g1 g2 g3 g4 g5 g6 ho hb hd (by rw [beq_iff_eq]; omega)
        · exact bad (fun hM => hq (hdap.1 (((may_iff m).1 hM).2.2.2 .data))) (chk_12_1_1_0 m A c w hr h0 h1 h2 g0 g1 g2 g3 g4 g5 g6 ho hb hd (by rw [beq_eq_false_iff_ne]; omega))
    | false =>
      by_cases hz : m.bits = 0
      case neg =>
        have hbz : ((m.bits : Int) == 0) = false := by rw [beq_eq_false_iff_ne]; omega
        refine bad (fun hM => ?_) ?_
        · rcases hbip.1 (((may_iff m).1 hM).2.2.2 .bits) with x | x
          · rw [hb] at x; cases x
          · exact hz x
        · cases hd : hasB m.kind 100 with
          | true => exact chk_11_1_0_1 m A c w hr h0 h1 h2 g0 g1 g2 g3 g4 g5 g6 ho hb hbz hd
          | false => exact chk_11_1_0_0 m A c w hr h0 h1 h2 g0 g1 g2 g3 g4 g5 g6 ho hb hbz hd
      have hbz : ((m.bits : Int) == 0) = true := by rw [beq_iff_eq]; omega
      cases hd : hasB m.kind 100 with
      | true =>
        rw [hd] at hdap
        by_cases hq : m.data.length = 32
        · rw [good (hokp.2 (.inl ho)) (hbip.2 (.inr hz)) (hdap.2 hq)]
          exact chk_13_1_0_1 m A c w hr h0 h1 h2 g0 g1 g2 g3 g4 g5 g6 ho hb hbz hd (by rw [beq_iff_eq]; omega)
        · exact bad (fun hM => hq (hdap.1 (((may_iff m).1 hM).2.2.2 .data))) (chk_12_1_0_1 m A c w hr h0 h1 h2 g0 g1 g2 g3 g4 g5 g6 ho hb hbz hd (by rw [beq_eq_false_iff_ne]; omega))
      | false =>
        rw [hd] at hdap
        by_cases hq : m.data.length = 0
        · rw [good (hokp.2 (.inl ho)) (hbip.2 (.inr hz)) (hdap.2 hq)]
          exact chk_13_1_0_0 m A c w hr h0 h1 h2 g0 g1 g2 g3 g4 g5 g6 ho hb hbz hd (by rw [beq_iff_eq]; omega)
        · exact bad (fun hM => hq (hdap.1 (((may_iff m).1 hM).2.2.2 .data))) (chk_12_1_0_0 m A c w hr h0 h1 h2 g0 g1 g2 g3 g4 g5 g6 ho hb hbz hd (by rw [beq_eq_false_iff_ne]; omega))
  | false =>
    cases hok : m.ok with
    | true =>
      refine bad (fun hM => ?_) ?_
      · rcases hokp.1 (((may_iff m).1 hM).2.2.2 (.num .ok)) with x | x
        · rw [ho] at x; cases x
        · rw [hok] at x; cases x
      · cases hd : hasB m.kind 100 with
        | true => exact chk_10_0_1_1 m A c w hr h0 h1 h2 g0 g1 g2 g3 g4 g5 g6 ho hok hd
        | false => exact chk_10_0_1_0 m A c w hr h0 h1 h2 g0 g1 g2 g3 g4 g5 g6 ho hok hd
    | false =>
      cases hb : hasB m.kind 98 with
      | true =>
        cases hd : hasB m.kind 100 with
        | true =>
          rw [hd] at hdap
          by_cases hq : m.data.length = 32
          · rw [good (hokp.2 (.inr hok)) (hbip.2 (.inl hb)) (hdap.2 hq)]
            exact chk_13_0_1_1 m A c w hr h0 h1 h2 g0 g1 g2 g3 g4 g5 g6 ho hok hb hd (by rw [beq_iff_eq]; omega)
          · exact bad (fun hM => hq (hdap.1 (((may_iff m).1 hM).2.2.2 .data))) (chk_12_0_1_1 m A c w hr h0 h1 h2 g0 g1 g2 g3 g4 g5 g6 ho hok hb hd (by rw [beq_eq_false_iff_ne]; omega))
        | false =>
          rw [hd] at hdap
          by_cases hq : m.data.length = 0
          · rw [good (hokp.2 (.inr hok)) (hbip.2 (.inl hb)) (hdap.2 hq)]
            exact chk_13_0_1_0 m A c w hr h0 h1 h2 g0 g1 g2 g3 g4 g5 g6 ho hok hb hd (by rw [beq_iff_eq]; omega)
          · exact bad (fun hM => hq (hdap.1 (((may_iff m).1 hM).2.2.2 .data))) (chk_12_0_1_0 m A c w hr h0 h1 h2 g0 g1 g2 g3 g4 g5 g6 ho hok hb hd (by rw [beq_eq_false_iff_ne]; omega))
      | false =>
        by_cases hz : m.bits = 0
        case neg =>
          have hbz : ((m.bits : Int) == 0) = false := by rw [beq_eq_false_iff_ne]; omega
          refine bad (fun hM => ?_) ?_
          · rcases hbip.1 (((may_iff m).1 hM).2.2.2 .bits) with x | x
            · rw [hb] at x; cases x
            · exact hz x
          · cases hd : hasB m.kind 100 with
            | true => exact chk_11_0_0_1 m A c w hr h0 h1 h2 g0 g1 g2 g3 g4 g5 g6 ho hok hb hbz hd
            | false => exact chk_11_0_0_0 m A c w hr h0 h1 h2 g0 g1 g2 g3 g4 g5 g6 ho hok hb hbz hd
        have hbz : ((m.bits : Int) == 0) = true := by rw [beq_iff_eq]; omega
        cases hd : hasB m.kind 100 with
        | true =>
          rw [hd] at hdap
          by_cases hq : m.data.length = 32
          · rw [good (hokp.2 (.inr hok)) (hbip.2 (.inr hz)) (hdap.2 hq)]
            exact chk_13_0_0_1 m A c w hr h0 h1 h2 g0 g1 g2 g3 g4 g5 g6 ho hok hb hbz hd (by rw [beq_iff_eq]; omega)
          · exact bad (fun hM => hq (hdap.1 (((may_iff m).1 hM).2.2.2 .data))) (chk_12_0_0_1 m A c w hr h0 h1 h2 g0 g1 g2 g3 g4 g5 g6 ho hok hb hbz hd (by rw [beq_eq_false_iff_ne]; omega))
        | false =>
          rw [hd] at hdap
          by_cases hq : m.data.length = 0
          · rw [good (hokp.2 (.inr hok)) (hbip.2 (.inr hz)) (hdap.2 hq)]
            exact chk_13_0_0_0 m A c w hr h0 h1 h2 g0 g1 g2 g3 g4 g5 g6 ho hok hb hbz hd (by rw [beq_iff_eq]; omega)
          · exact bad (fun hM => hq (hdap.1 (((may_iff m).1 hM).2.2.2 .data))) (chk_12_0_0_0 m A c w hr h0 h1 h2 g0 g1 g2 g3 g4 g5 g6 ho hok hb hbz hd (by rw [beq_eq_false_iff_ne]; omega))
theorem refPut_no (m : M) (A : Option Addr) (c : Nat) (w : World) (hr : BytesAt w w.heap.size A m.data) (hE : Mg.putE m = 2) :
    Calls Try.prog 7 #[mVal m A c] w fun e w' => e = .returned (.tuple #[.slice none 0 0, .int .i64 2]) ∧ Below w.heap.size w w' := by
  have z := refCheck_any m A c (w.alloc (mObj m A c)) (hr.stepA _)
  rw [hE] at z
  have S0 := Lib.hid (back_at m A c [] none w hr bytes_nil)
  obtain ⟨⟨a0, a1, a2, a3, a4, a5, a6, a7, a8, a9, a10, a11⟩, _, _, _⟩ := S0.out _ (Below.refl _ _)
  clear hr hE
  go_enter Try.func7, Try.ntmps7
  go_wp2_with (go_at_call 9; refine z.mono ?_; (rintro e w1 ⟨rfl, X⟩; have D := Lib.hid (step_trans (step_alloc (Below.refl _ w) _) X); clear X))
  go_ret2
  exact ⟨rfl, D.out⟩
theorem refPut_v (m : M) (A : Option Addr) (c : Nat) (hb : m.bits < 18446744073709551616) (l : List UInt8) (E : Int) (hl : Mg.putB m = l) (hE : Mg.putE m = E) (n : Nat) (hn : l.length = n) (w : World) (hr : BytesAt w w.heap.size A m.data) :
    Calls Try.prog 7 #[mVal m A c] w fun e w' => ∃ A' c', e = .returned (.tuple #[.slice A' n c', .int .i64 E]) ∧ BytesAt w' w'.heap.size A' l ∧ Below w.heap.size w w' := by
  subst hl hE hn
  by_cases h : May m
  · obtain ⟨e1, e2⟩ := may_yes h
    have hp := ((may_iff m).1 h).2.2.2
    have z := refPut_yes m A c w hr hb (fun f hf p hpf => (hp p).1 (by rw [mem_parts] at hpf; rw [← hpf]; exact hf)) (fun w hr => by
      have z := refCheck_any m A c w hr
      rw [e1] at z
      exact z)
    rw [e1, e2]
    exact z
  · obtain ⟨e1, e2⟩ := may_no h
    rw [e1, e2]
    exact (refPut_no m A c w hr e1).mono fun e w' ⟨he, hB⟩ => ⟨none, 0, he, bytes_nil, hB⟩
end Go.Proofs.Ytfiijnpabmocdaa
