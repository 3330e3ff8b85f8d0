/-
  The document's own net (tandemref14) in memory: link, IsCut, Cut, Clear, Look. Conditions: how many were lost is a number far from the greatest.
-/
import Derived.Test.YtplfhlmipdlmnaaNtLaw
namespace Go.Proofs.Ytplfhlmipdlmnaa
open Go.RowKit Nt

theorem link_no {i j : Int} (h : ¬ (0 ≤ i ∧ i < 3 ∧ 0 ≤ j ∧ j < 3 ∧ i ≠ j)) : link i j = false := by
  cases hl : link i j with
  | false => rfl
  | true => exact absurd (link_iff.1 hl) h
set_option maxRecDepth 100000 in
theorem rfLink_any (i j : Int) (w : World) : Calls Try.prog 38 #[.int .i64 i, .int .i64 j] w fun e w' => e = .returned (.bool (link i j)) ∧ w = w' := by
  by_cases h0 : 0 ≤ i
  · by_cases h1 : i < 3
    · by_cases h2 : 0 ≤ j
      · by_cases h3 : j < 3
        · by_cases h4 : i = j
          · rw [link_no fun h => h.2.2.2.2 h4]
            have hb : (i != j) = false := by simp [h4]
            go_enter Try.func38, Try.ntmps38
            go_wp2
            go_ret
            exact ⟨rfl, rfl⟩
          · rw [link_iff.2 ⟨h0, h1, h2, h3, h4⟩]
            have hb : (i != j) = true := by simp [h4]
            go_enter Try.func38, Try.ntmps38
            go_wp2
            go_ret
            exact ⟨rfl, rfl⟩
        · rw [link_no fun h => h3 h.2.2.2.1]
          go_enter Try.func38, Try.ntmps38
          go_wp2
          go_ret
          exact ⟨rfl, rfl⟩
      · rw [link_no fun h => h2 h.2.2.1]
        go_enter Try.func38, Try.ntmps38
        go_wp2
        go_ret
        exact ⟨rfl, rfl⟩
    · rw [link_no fun h => h1 h.2.1]
      go_enter Try.func38, Try.ntmps38
      go_wp2
      go_ret
      exact ⟨rfl, rfl⟩
  · rw [link_no fun h => h0 h.1]
    go_enter Try.func38, Try.ntmps38
    go_wp2
    go_ret
    exact ⟨rfl, rfl⟩
def rfCells (d : Nat → Bool) (v : Value) (lost : Nat) : List Value := v :: (dnC d ++ [.int .i64 (lost : Int)])
/-- the document's net: at b; all else of it lies in blocks of F -/
structure RfAt (w : World) (b : Nat) (F : Nat → Prop) (s : N) : Prop where
  mem : ∃ v ms, BlkR 30 w b (rfCells s.down v s.lost) ∧ WayAt F w v ms ∧ ms.map (·.p) = s.way
  in_ : ¬ F b
  lt : ∀ j, F j → j < w.heap.size
  ok : s.Ok
theorem rf_set0 (d : Nat → Bool) (v v' : Value) (n : Nat) : (rfCells d v n).set 0 v' = rfCells d v' n := rfl
theorem rf_set10 (d : Nat → Bool) (v : Value) (n m : Nat) : (rfCells d v n).set 10 (.int .i64 (m : Int)) = rfCells d v m := by
  unfold rfCells
  rw [List.set_cons_succ, List.set_append_right _ _ (by rw [dnC_len]; decide), dnC_len]; rfl
theorem rf_setD (d : Nat → Bool) (v : Value) (n k : Nat) (x : Bool) (hk : k < 9) : (rfCells d v n).set (1 + k) (.bool x) = rfCells (upd d k x) v n := by
  unfold rfCells
  rw [Nat.add_comm, List.set_cons_succ, List.set_append_left _ _ (by rw [dnC_len]; exact hk), dnC_set]
section
variable {w w' : World} {b : Nat} {F G : Nat → Prop} {s : N} {v : Value} {ms : List PkM} {m : PkM}
theorem RfAt.frame {X : Nat → Prop} (h : RfAt w b F s) (hX : Frame X w w') (hb : ¬ X b) (hk : ∀ j, F j → ¬ X j) : RfAt w' b F s := by
  obtain ⟨v, ms, h1, h2, h3⟩ := h.mem
  exact ⟨⟨v, ms, (hX.block b h1.lt hb).trans h1, h2.frame hX hk, h3⟩, h.in_, fun j hj => Nat.lt_of_lt_of_le (h.lt j hj) hX.size, h.ok⟩
theorem RfAt.blt (h : RfAt w b F s) : b < w.heap.size := by obtain ⟨v, ms, h1, _⟩ := h.mem; exact h1.lt
theorem RfAt.step (h : RfAt w b F s) (hb : Below w.heap.size w w') : RfAt w' b F s := h.frame (X := fun _ => False) (Frame.of_below hb) (fun e => e) fun _ _ e => e
theorem rf_cells {d : Nat → Bool} {n : Nat} (r : BlkR 30 w b (rfCells d v n)) :
    w.cell? ⟨b, 0, none⟩ = some v ∧ w.cell? ⟨b, 10, none⟩ = some (.int .i64 (n : Int)) ∧ ∀ k, k < 9 → w.cell? ⟨b, 1 + k, none⟩ = some (.bool (d k)) := by
  refine ⟨r.cell rfl, r.cell ?_, fun k hk => r.cell ?_⟩
  · unfold rfCells
    rw [List.getElem?_cons_succ, List.getElem?_append_right (by rw [dnC_len]; decide), dnC_len]; rfl
  · unfold rfCells
    rw [Nat.add_comm, List.getElem?_cons_succ, List.getElem?_append_left (by rw [dnC_len]; exact hk), dnC_get _ hk]
theorem RfAt.cells (h : RfAt w b F s) : (∃ A c, w.cell? ⟨b, 0, none⟩ = some (.slice A s.way.length c) ∧ s.way.length ≤ c) ∧ w.cell? ⟨b, 10, none⟩ = some (.int .i64 (s.lost : Int)) ∧ ∀ k, k < 9 → w.cell? ⟨b, 1 + k, none⟩ = some (.bool (s.down k)) := by
  obtain ⟨v, ms, h1, h2, h3⟩ := h.mem
  obtain ⟨c1, c2, c3⟩ := rf_cells h1
  obtain ⟨A, c, rfl, hc, _⟩ := way_form h2
  have hl : ms.length = s.way.length := by rw [← h3, List.length_map]
  rw [hl] at c1 hc
  exact ⟨⟨A, c, c1, hc⟩, c2, c3⟩
theorem RfAt.froz (h : RfAt w b F s) (k : Nat) : w.frozen? ⟨b, k, none⟩ = false := by
  obtain ⟨v, ms, h1, _⟩ := h.mem
  exact h1.frozen k
/-- what a call leaves -/
def RfTo (w : World) (b : Nat) (F : Nat → Prop) (s : N) (w' : World) : Prop := ∃ F', RfAt w' b F' s ∧ (∀ j, F' j → F j ∨ w.heap.size ≤ j) ∧ Frame (fun j => j = b ∨ F j) w w'
theorem RfAt.same (h : RfAt w b F s) (B : Below w.heap.size w w') : RfTo w b F s w' := ⟨F, h.step B, fun _ hj => .inl hj, Frame.of_below B⟩
theorem RfTo.behind {s : N} {w2 w3 : World} (B : Below w.heap.size w w2) (h : RfTo w2 b F s w3) : RfTo w b F s w3 := by
  obtain ⟨F', h1, h2, h3⟩ := h
  exact ⟨F', h1, fun j hj => (h2 j hj).imp id fun x => Nat.le_trans B.size x, (Frame.of_below (F := fun j => j = b ∨ F j) B).trans h3 fun j e => .inl e⟩
set_option maxRecDepth 100000 in
theorem rfIsCut_any (h : RfAt w b F s) (i j : Int) : Calls Try.prog 15 #[.pointer (some ⟨b, 0, none⟩), .int .i64 i, .int .i64 j] w fun e w' => e = .returned (.bool (N.isCut s i j)) ∧ w = w' := by
  obtain ⟨_, _, c3⟩ := h.cells
  have zl := rfLink_any i j w
  unfold N.isCut
  cases hl : link i j with
  | false =>
    rw [hl] at zl
    simp only [Bool.false_and]
    clear h hl c3
    go_enter Try.func15, Try.ntmps15
    go_wp2_with (go_at_call 38; refine zl.mono ?_; (rintro e w2 ⟨rfl, rfl⟩))
    go_ret
    exact ⟨rfl, rfl⟩
  | true =>
    rw [hl] at zl
    simp only [Bool.true_and]
    obtain ⟨a1, a2, a3, a4, _⟩ := link_iff.1 hl
    obtain ⟨p, rfl⟩ := Int.eq_ofNat_of_zero_le a1
    obtain ⟨q, rfl⟩ := Int.eq_ofNat_of_zero_le a3
    have hp : p < 3 := by omega
    have hq : q < 3 := by omega
    have x := c3 (at_ p q) (by unfold at_; simp; omega)
    obtain ⟨y, hy⟩ : ∃ y, y = s.down (at_ p q) := ⟨_, rfl⟩
    rw [← hy] at x ⊢
    rw [show 1 + at_ (p : Int) (q : Int) = 1 + p * 3 + q by unfold at_; simp; omega] at x
    clear h hl c3 hy a1 a2 a3 a4
    go_enter Try.func15, Try.ntmps15
    go_wp2_with (go_at_call 38; refine zl.mono ?_; (rintro e w2 ⟨rfl, rfl⟩))
    go_ret
    exact ⟨rfl, rfl⟩
/-- one cell of the net is stored -/
theorem RfAt.setD (h : RfAt w b F s) (k : Nat) (hk : k < 9) (x : Bool) (ok2 : N.Ok { s with down := upd s.down k x }) : RfTo w b F { s with down := upd s.down k x } (w.setCell ⟨b, 1 + k, none⟩ (.bool x)) := by
  obtain ⟨v, ms, r, hw, hms⟩ := h.mem
  have fr : Frame (fun j => j = b) w (w.setCell ⟨b, 1 + k, none⟩ (.bool x)) := (Frame.refl _ w).setAt ⟨b, 1 + k, none⟩ _ rfl
  have r4 := r.set_ (1 + k) (.bool x)
  rw [rf_setD _ _ _ _ _ hk] at r4
  exact ⟨F, ⟨⟨v, ms, r4, hw.frame fr (fun j hj e => h.in_ (e ▸ hj)), hms⟩, h.in_, fun j hj => Nat.lt_of_lt_of_le (h.lt j hj) fr.size, ok2⟩, fun _ hj => .inl hj, fr.mono fun j e => .inl e⟩
theorem RfAt.setN (h : RfAt w b F s) (n : Nat) : RfTo w b F { s with lost := n } (w.setCell ⟨b, 10, none⟩ (.int .i64 (n : Int))) := by
  obtain ⟨v, ms, r, hw, hms⟩ := h.mem
  have fr : Frame (fun j => j = b) w (w.setCell ⟨b, 10, none⟩ (.int .i64 (n : Int))) := (Frame.refl _ w).setAt ⟨b, 10, none⟩ _ rfl
  have r4 := r.set_ 10 (.int .i64 (n : Int))
  rw [rf_set10] at r4
  exact ⟨F, ⟨⟨v, ms, r4, hw.frame fr (fun j hj e => h.in_ (e ▸ hj)), hms⟩, h.in_, fun j hj => Nat.lt_of_lt_of_le (h.lt j hj) fr.size, h.ok.1, h.ok.2⟩, fun _ hj => .inl hj, fr.mono fun j e => .inl e⟩
theorem RfTo.on {s s2 : N} {w2 w3 : World} (h1 : RfTo w b F s w2) (h2 : ∀ G, RfAt w2 b G s → RfTo w2 b G s2 w3) : RfTo w b F s2 w3 := by
  obtain ⟨F1, a1, a2, a3⟩ := h1
  obtain ⟨F2, c1, c2, c3⟩ := h2 F1 a1
  have hs := a3.size
  exact ⟨F2, c1, fun j hj => (c2 j hj).elim (a2 j) fun x => .inr (by omega), a3.trans c3 fun j e => e.elim (fun e => .inl (.inl e)) fun e => (a2 j e).imp .inr id⟩
set_option maxRecDepth 100000 in
theorem rfCut_any (h : RfAt w b F s) (i j : Int) (is : Bool) (E : Int) (s2 : N) (hE : N.cutE i j = E) (hs : s.cut i j is = s2) :
    Calls Try.prog 34 #[.pointer (some ⟨b, 0, none⟩), .int .i64 i, .int .i64 j, .bool is] w fun e w' => e = .returned (.int .i64 E) ∧ RfTo w b F s2 w' := by
  have zl := rfLink_any i j w
  unfold N.cutE at hE
  have ok2 := cut_ok h.ok i j is
  rw [hs] at ok2
  unfold N.cut at hs
  obtain ⟨_, _, c3⟩ := h.cells
  cases hl : link i j with
  | false =>
    rw [hl] at zl
    rw [hl, if_neg (by decide)] at hE hs
    subst hE; subst hs
    have HH := Lib.hid h
    clear h hl c3 ok2
    go_enter Try.func34, Try.ntmps34
    go_wp2_with (go_at_call 38; refine zl.mono ?_; (rintro e w2 ⟨rfl, rfl⟩))
    go_ret
    exact ⟨rfl, HH.out.same (Below.refl _ _)⟩
  | true =>
    rw [hl] at zl
    rw [hl, if_pos rfl] at hE hs
    subst hE
    obtain ⟨a1, a2, a3, a4, _⟩ := link_iff.1 hl
    obtain ⟨p, rfl⟩ := Int.eq_ofNat_of_zero_le a1
    obtain ⟨q, rfl⟩ := Int.eq_ofNat_of_zero_le a3
    have hp : p < 3 := by omega
    have hq : q < 3 := by omega
    have e9 : at_ (p : Int) (q : Int) = p * 3 + q := by unfold at_; simp; omega
    rw [e9] at hs
    have x := c3 (p * 3 + q) (by omega)
    have y := h.froz (1 + (p * 3 + q))
    have P := h.setD (p * 3 + q) (by omega) is (by rw [hs]; exact ok2)
    rw [hs] at P
    rw [← Nat.add_assoc] at x y P
    have P := Lib.hid P
    clear h hl c3 a1 a2 a3 a4 hs ok2 e9
    go_enter Try.func34, Try.ntmps34
    go_wp2_with (go_at_call 38; refine zl.mono ?_; (rintro e w2 ⟨rfl, rfl⟩))
    go_ret
    exact ⟨rfl, P.out⟩
set_option maxRecDepth 100000 in
theorem rfClear_any (h : RfAt w b F s) (hl : s.lost ≤ 4611686018427387904) (s2 : N) (hs : s.clear = s2) : Calls Try.prog 35 #[.pointer (some ⟨b, 0, none⟩)] w fun e w' => e = .returned (.tuple #[]) ∧ RfTo w b F s2 w' := by
  obtain ⟨⟨A, c, c0, _⟩, c1, _⟩ := h.cells
  have hm := h.ok.many
  have f0 := h.froz 0
  have f1 := h.froz 10
  have q : IntKind.i64.wrap ((s.lost : Int) + (s.way.length : Int)) = ((s.lost + s.way.length : Nat) : Int) := by rw [IntWalk.i64_in _ (by omega)]; omega
  have P : Hid (RfTo w b F s2 (((w.drew.setCell ⟨b, 10, none⟩ (.int .i64 ((s.lost + s.way.length : Nat) : Int)))).setCell ⟨b, 0, none⟩ (.slice none 0 0))) := Lib.hid <| by
    obtain ⟨v, ms, r, hw, hms⟩ := (h.step (Below.refl _ w).drew).mem
    have fr : Frame (fun j => j = b) w (((w.drew.setCell ⟨b, 10, none⟩ (.int .i64 ((s.lost + s.way.length : Nat) : Int)))).setCell ⟨b, 0, none⟩ (.slice none 0 0)) := ((Frame.of_below (F := fun j => j = b) (Below.refl _ w).drew).setAt ⟨b, 10, none⟩ _ rfl).setAt ⟨b, 0, none⟩ _ rfl
    have r4 := (r.set_ 10 (.int .i64 ((s.lost + s.way.length : Nat) : Int))).set_ 0 (.slice none 0 0)
    rw [rf_set10, rf_set0] at r4
    subst hs
    exact ⟨F, ⟨⟨_, [], r4, ⟨OwnK.nil_, (fun j e => by cases e), (fun m h => by cases h)⟩, rfl⟩, h.in_, fun j hj => Nat.lt_of_lt_of_le (h.lt j hj) fr.size, clear_ok s⟩, fun _ hj => .inl hj, fr.mono fun j e => .inl e⟩
  obtain ⟨n, hn⟩ : ∃ n, n = s.way.length := ⟨_, rfl⟩
  obtain ⟨k, hk⟩ : ∃ k, k = s.lost := ⟨_, rfl⟩
  rw [← hn] at c0 q P
  rw [← hk] at c1 q P
  obtain ⟨t, ht⟩ : ∃ t, t = k + n := ⟨_, rfl⟩
  rw [← ht] at q P
  clear h hl hn hk ht hs hm
  go_enter Try.func35, Try.ntmps35
  go_wp2_with fail
  go_region_with fail
  all_goals (go_wp2; go_end0)
  all_goals exact ⟨rfl, P.out⟩
end
end Go.Proofs.Ytplfhlmipdlmnaa
