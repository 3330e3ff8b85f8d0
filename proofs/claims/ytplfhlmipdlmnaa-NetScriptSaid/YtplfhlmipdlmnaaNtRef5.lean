/-
  The document's own net: Send. Conditions: how many were lost is a number far from the greatest; the bytes can be read.
-/
import Derived.Test.YtplfhlmipdlmnaaNtRef4
namespace Go.Proofs.Ytplfhlmipdlmnaa
open Go.RowKit Nt

section
variable {w w' w7 : World} {b : Nat} {F G : Nat → Prop} {s s2 : N} {v : Value} {ms : List PkM} {m : PkM}
set_option maxRecDepth 100000 in
theorem rfSend_arg (w : World) (b : Nat) (i j : Int) (P : Option Addr) (n c : Nat) (hl : link i j = false) : Calls Try.prog 27 #[.pointer (some ⟨b, 0, none⟩), .int .i64 i, .int .i64 j, .slice P n c] w fun e w' => e = .returned (.int .i64 2) ∧ w = w' := by
  have zl := rfLink_any i j w
  rw [hl] at zl
  clear hl
  go_enter Try.func27, Try.ntmps27
  go_wp2_with (go_at_call 38; refine zl.mono ?_; (rintro e w2 ⟨rfl, rfl⟩))
  go_ret
  exact ⟨rfl, rfl⟩
set_option maxRecDepth 100000 in
theorem rfSend_long (w : World) (b : Nat) (i j : Int) (P : Option Addr) (n c : Nat) (hl : link i j = true) (hn : 512 < n) : Calls Try.prog 27 #[.pointer (some ⟨b, 0, none⟩), .int .i64 i, .int .i64 j, .slice P n c] w fun e w' => e = .returned (.int .i64 3) ∧ w = w' := by
  have zl := rfLink_any i j w
  rw [hl] at zl
  have hn' : (512 : Int) < (n : Int) := by omega
  clear hl
  go_enter Try.func27, Try.ntmps27
  go_wp2_with (go_at_call 38; refine zl.mono ?_; (rintro e w2 ⟨rfl, rfl⟩))
  go_ret
  exact ⟨rfl, rfl⟩
set_option maxRecDepth 100000 in
set_option maxHeartbeats 1000000 in
theorem rfSend_lost (h : RfAt w b F s) (p q : Nat) (P : Option Addr) (n c : Nat) (hl : link (p : Int) (q : Int) = true) (hn : n ≤ 512) (hd : s.down (3 * p + q) = true ∨ s.way.length = 4096) (ho : s.lost ≤ 4611686018427387904) :
    Calls Try.prog 27 #[.pointer (some ⟨b, 0, none⟩), .int .i64 (p : Int), .int .i64 (q : Int), .slice P n c] w fun e w' => e = .returned (.int .i64 0) ∧ RfTo w b F { s with lost := s.lost + 1 } w' := by
  have zl := rfLink_any (p : Int) (q : Int) w
  rw [hl] at zl
  obtain ⟨_, a2, _, a4, _⟩ := link_iff.1 hl
  have hp : p < 3 := by omega
  have hq : q < 3 := by omega
  obtain ⟨⟨A0, c0, x0, _⟩, x1, c3⟩ := h.cells
  have x := c3 (3 * p + q) (by omega)
  rw [show 1 + (3 * p + q) = 1 + p * 3 + q by omega] at x
  have f1 := h.froz 10
  have hn' : ¬ (512 : Int) < (n : Int) := by omega
  have q1 : IntKind.i64.wrap ((s.lost : Int) + 1) = ((s.lost + 1 : Nat) : Int) := by rw [IntWalk.i64_in _ (by omega)]; omega
  have T := Lib.hid (h.setN (s.lost + 1))
  cases hdd : s.down (3 * p + q) with
  | true =>
    rw [hdd] at x
    obtain ⟨y, hy⟩ : ∃ y, y = s.lost := ⟨_, rfl⟩
    rw [← hy] at x1 q1 T
    obtain ⟨y1, hy1⟩ : ∃ y1, y1 = y + 1 := ⟨_, rfl⟩
    rw [← hy1] at q1 T
    obtain ⟨n0, hn0⟩ : ∃ n0, n0 = s.way.length := ⟨_, rfl⟩
    rw [← hn0] at x0
    have HY := Lib.hid (And.intro hy hy1)
    clear h hl hd hdd ho a2 a4 hy hy1 hn0 c3 hn
    go_enter Try.func27, Try.ntmps27
    go_wp2_with (go_at_call 38; refine zl.mono ?_; (rintro e w2 ⟨rfl, rfl⟩))
    go_ret
    refine ⟨rfl, ?_⟩
    have := T.out
    rw [HY.out.2, HY.out.1] at this
    rw [HY.out.2, HY.out.1]
    exact this
  | false =>
    rw [hdd] at x
    have hfull : s.way.length = 4096 := hd.resolve_left (by rw [hdd]; decide)
    rw [hfull] at x0
    obtain ⟨y, hy⟩ : ∃ y, y = s.lost := ⟨_, rfl⟩
    rw [← hy] at x1 q1 T
    obtain ⟨y1, hy1⟩ : ∃ y1, y1 = y + 1 := ⟨_, rfl⟩
    rw [← hy1] at q1 T
    have HY := Lib.hid (And.intro hy hy1)
    clear h hl hd hdd ho a2 a4 hy hy1 c3 hn hfull
    go_enter Try.func27, Try.ntmps27
    go_wp2_with (go_at_call 38; refine zl.mono ?_; (rintro e w2 ⟨rfl, rfl⟩))
    go_ret
    refine ⟨rfl, ?_⟩
    have := T.out
    rw [HY.out.2, HY.out.1] at this
    rw [HY.out.2, HY.out.1]
    exact this
set_option maxRecDepth 100000 in
set_option maxHeartbeats 2000000 in
theorem rfSend_ok (h : RfAt w b F s) (p q : Nat) (P : Option Addr) (l : List UInt8) (n c : Nat) (hln : l.length = n) (hl : link (p : Int) (q : Int) = true) (hn : n ≤ 512) (hd : s.down (3 * p + q) = false) (hf : s.way.length ≠ 4096) (hr : BytesAt w w.heap.size P l) :
    Calls Try.prog 27 #[.pointer (some ⟨b, 0, none⟩), .int .i64 (p : Int), .int .i64 (q : Int), .slice P n c] w fun e w' => e = .returned (.int .i64 0) ∧ RfTo w b F (s.push ⟨p, q, l⟩) w' := by
  have zl := rfLink_any (p : Int) (q : Int) w
  rw [hl] at zl
  obtain ⟨_, a2, _, a4, _⟩ := link_iff.1 hl
  have hp : p < 3 := by omega
  have hq : q < 3 := by omega
  have hmany := h.ok.many
  obtain ⟨_, _, c3⟩ := h.cells
  have x := c3 (3 * p + q) (by omega)
  rw [show 1 + (3 * p + q) = 1 + p * 3 + q by omega, hd] at x
  have hb := h.blt
  obtain ⟨v, ms, r, hw, hms⟩ := h.mem
  obtain ⟨A0, c0, rfl, hnc, hcm⟩ := way_form hw
  have hml : ms.length = s.way.length := by rw [← hms, List.length_map]
  obtain ⟨x0, _, _⟩ := rf_cells r
  obtain ⟨k, hk⟩ : ∃ k, k = ms.length := ⟨_, rfl⟩
  have hk4 : k < 4096 := by omega
  have hk4' : ¬ (4096 : Int) ≤ (k : Int) := by omega
  have hn' : ¬ (512 : Int) < (n : Int) := by omega
  obtain ⟨we, hwe⟩ : ∃ we, we = (w.alloc (.cells #[] 5)).drew := ⟨_, rfl⟩
  have Be : Below w.heap.size w we := by rw [hwe]; exact (step_alloc (Below.refl _ w) _).drew
  have se : we.heap.size = w.heap.size + 1 := by rw [hwe]; simp
  have OB : OwnB we w.heap.size (.slice (some ⟨w.heap.size, 0, none⟩) 0 0) [] := by
    rw [hwe]
    exact OwnK.of_blk (k := 1) (cur := []) (BlkR.new w [] 5) (Nat.le_refl _) (Nat.le_refl _) (Nat.zero_le _) rfl rfl
  have POST : Hid (∀ w6 A6 c6 w5 w' v', OwnB w6 w.heap.size (.slice A6 n c6) l → n ≤ c6 → Below w.heap.size w w6 → Below w6.heap.size w6 w5 → OwnK 48 3 w' 0 v' (k + 1) (ms.flatMap pkCells ++ pkCells ⟨⟨p, q, l⟩, A6, c6⟩) → w5.grownBy w' (Value.slice A0 k c0).ownBlock → (v'.ownBlock = (Value.slice A0 k c0).ownBlock ∨ v'.ownBlock = some w5.heap.size) →
      w'.frozen? ⟨b, 0, none⟩ = false ∧ w'.cell? ⟨b, 0, none⟩ = some (.slice A0 k c0) ∧ RfTo w b F (s.push ⟨p, q, l⟩) (w'.setCell ⟨b, 0, none⟩ v')) := Lib.hid fun w6 A6 c6 w5 w' v' o6 hc6 B6 B5 k1 k2 k3 => by
    subst hk
    refine rf_push h r hw hms (step_trans B6 B5) ⟨⟨p, q, l⟩, A6, c6⟩ ⟨hp, hq, by show l.length ≤ 512; omega⟩ hf (o6.bytes.step B5) (by show l.length ≤ c6; omega) (fun ad e hne => ?_) k1 k2 k3
    have e : A6 = some ad := e
    subst e
    have h1 : w.heap.size ≤ ad.block := (o6.lt ad.block rfl).1
    refine ⟨.inr h1, fun e2 => ?_⟩
    have := h.lt _ (hw.row _ e2)
    omega
  have OWN : Hid (∀ w5, Below w.heap.size w w5 → OwnK 48 3 w5 0 (.slice A0 k c0) k (ms.flatMap pkCells)) := Lib.hid fun w5 B => by
    subst hk
    exact hw.own.frame fun j hj => B.block j (hw.own.lt j hj).2
  rw [← hk] at x0
  have K := Lib.hid fun w1 (B : Below w.heap.size w w1) => (B.cell (p := ⟨b, 0, none⟩) hb).trans x0
  have x0a := fun o => K.out (w.alloc o) (step_alloc (Below.refl _ w) o)
  obtain ⟨xs, hxs⟩ : ∃ xs, xs = ms.flatMap pkCells := ⟨_, rfl⟩
  rw [← hxs] at OWN POST
  have HN := Lib.hid (And.intro hk4 hn)
  have HL := Lib.hid (And.intro hln (hr.step Be))
  have HE := Lib.hid (And.intro Be (And.intro se OB))
  unfold pkCells at POST
  dsimp only at POST
  rw [hln] at POST
  have HW := Lib.hid hwe
  clear h hl hd hf hb hxs hk hk4 hml hnc hcm hms hw r hmany c3 a2 a4 hln hr Be se OB hn hwe
  go_enter Try.func27, Try.ntmps27
  go_wp2_with (go_at_call 38; refine zl.mono ?_; (rintro e w2 ⟨rfl, rfl⟩))
  go_region_law (first
    | (rw [← HW.out]; refine step_appendB rfl (.tmp 46) (.tmp 47) _ rfl rfl w.heap.size (.slice (some ⟨w.heap.size, 0, none⟩) 0 0) [] (by simp [Act.eval]) HE.out.2.2 P l n c we.heap.size (by simp [Act.eval]) HL.out.1 HL.out.2 (by have := HN.out.2; have := HL.out.1; simp only [List.length_nil]; omega) (by have := HE.out.2.1; omega) ?_; (intro v6 w6 o6 gr6 k6; rw [List.nil_append] at o6; have B6 : Below w.heap.size w w6 := grown_below HE.out.1 gr6 (by have := HE.out.2.1; omega) (fun j e => by cases e; exact Nat.le_refl _); obtain ⟨A6, c6, rfl, hc6⟩ := o6.form; rw [HL.out.1] at o6 hc6 ⊢; have x6 := K.out w6 B6; have x7 := fun o => K.out (w6.alloc o) (step_alloc B6 o); have H6 := Lib.hid (And.intro o6 (And.intro hc6 B6)); clear o6 hc6 B6 gr6 k6))
    | (refine step_appendK rfl (.tmp 43) (.tmp 50) elPk rfl (by simp [Act.eval]) (OWN.out _ (step_alloc H6.out.2.2 _)) ⟨w6.heap.size, 0, none⟩ 1 (by simp [Act.eval]) (ys := [.int .i64 (p : Int), .int .i64 (q : Int), .slice A6 n c6]) (m := 1) rfl (fun j u hu => (by rw [addr_zero_add]; exact (BlkR.new w6 [.int .i64 (p : Int), .int .i64 (q : Int), .slice A6 n c6] 48).cell hu)) (pk3_one _ _ _ _ _) (by have := HN.out.1; unfold maxLen; omega) (by have := HN.out.1; omega) (Nat.zero_le _) ?_; (intro v9 w9 o9 gr9 k9; obtain ⟨f9, x9, T9⟩ := POST.out _ _ _ _ _ _ H6.out.1 H6.out.2.1 H6.out.2.2 (step_alloc (Below.refl _ w6) _) o9 gr9 k9; obtain ⟨A9, c9, rfl, _⟩ := o9.form; have T9 := Lib.hid T9; clear o9 gr9 k9)))
  all_goals (go_wp2; go_ret)
  all_goals exact ⟨rfl, T9.out⟩
theorem rfSend_any (h : RfAt w b F s) (i j : Int) (P : Option Addr) (l : List UInt8) (n c : Nat) (hn : l.length = n) (hr : BytesAt w w.heap.size P l) (hl : s.lost ≤ 4611686018427387904) (E : Int) (s2 : N) (hE : N.sendE i j n = E) (hs : s.send i j l = s2) :
    Calls Try.prog 27 #[.pointer (some ⟨b, 0, none⟩), .int .i64 i, .int .i64 j, .slice P n c] w fun e w' => e = .returned (.int .i64 E) ∧ RfTo w b F s2 w' := by
  subst hn
  unfold N.sendE at hE
  cases hlk : link i j with
  | false =>
    rw [hlk, if_pos rfl] at hE
    subst hE
    refine (rfSend_arg w b i j P l.length c hlk).mono fun e w' ⟨k1, k2⟩ => ⟨k1, ?_⟩
    subst k2
    have e : s.send i j l = s := by
      unfold N.send N.sendE
      rw [hlk, if_pos rfl, if_pos (by decide)]
    rw [← hs, e]
    exact h.same (Below.refl _ _)
  | true =>
    rw [hlk, if_neg (by decide)] at hE
    by_cases h512 : 512 < l.length
    · rw [if_pos h512] at hE
      subst hE
      refine (rfSend_long w b i j P l.length c hlk h512).mono fun e w' ⟨k1, k2⟩ => ⟨k1, ?_⟩
      subst k2
      have h3 : N.sendE i j l.length = 3 := by unfold N.sendE; rw [hlk, if_neg (by decide), if_pos h512]
      have e : s.send i j l = s := by
        unfold N.send
        rw [if_pos (by rw [h3]; decide)]
      rw [← hs, e]
      exact h.same (Below.refl _ _)
    · rw [if_neg h512] at hE
      subst hE
      obtain ⟨a1, a2, a3, a4, _⟩ := link_iff.1 hlk
      obtain ⟨p, rfl⟩ := Int.eq_ofNat_of_zero_le a1
      obtain ⟨q, rfl⟩ := Int.eq_ofNat_of_zero_le a3
      have hz : ¬ N.sendE (p : Int) (q : Int) l.length ≠ 0 := by unfold N.sendE; rw [hlk, if_neg (by decide), if_neg h512]; decide
      by_cases hd : s.down (3 * p + q) = true ∨ s.way.length = 4096
      · have e : s.send (p : Int) (q : Int) l = { s with lost := s.lost + 1 } := by
          unfold N.send
          rw [if_neg hz, show at_ (p : Int) (q : Int) = 3 * p + q from rfl, if_pos hd]
        rw [← hs, e]
        exact rfSend_lost h p q P l.length c hlk (by omega) hd hl
      · simp only [not_or, Bool.not_eq_true] at hd
        have e : s.send (p : Int) (q : Int) l = s.push ⟨p, q, l⟩ := by
          unfold N.send
          rw [if_neg hz, show at_ (p : Int) (q : Int) = 3 * p + q from rfl, if_neg (by simp only [not_or, Bool.not_eq_true]; exact hd)]
          rfl
        rw [← hs, e]
        exact rfSend_ok h p q P l l.length c rfl hlk (by omega) hd.1 hd.2 hr
end
end Go.Proofs.Ytplfhlmipdlmnaa
