/-
  tandemkit.LentBools, SameBools, KeptBools: what they return. Conditions: the Bools can be read, and are at most a million.
-/
import Derived.Test.YtmkibkafccgmgaaRow
import Derived.Test.YtmkibkafccgmgaaUndrew
import Derived.Outline
import Derived.WalkKit
import Derived.Lib.Hide
import Derived.BigQuiet
import Derived.Deep.QuietTactic
import Derived.Deep.RegionHeld3
namespace Go.Proofs.Ytmkibkafccgmgaa
open Go.RowKit

/-- Bools as cells -/
def bv (l : List Bool) : List Value := l.map Value.bool
theorem bv_length (l : List Bool) : (bv l).length = l.length := by simp [bv]
theorem bv_get (l : List Bool) (k : Nat) (h : k < l.length) : (bv l)[k]? = some (.bool (l.getD k false)) := by simp [bv, h]
theorem bv_one (l : List Bool) : ∀ u ∈ bv l, u.oneCell' = true := by
  intro v hv
  simp only [bv, List.mem_map] at hv
  obtain ⟨x, _, rfl⟩ := hv
  rfl
theorem bv_set (l : List Bool) (k : Nat) (x : Bool) : (bv l).set k (.bool x) = bv (l.set k x) := by simp [bv, List.map_set]
/-- two lists of Bools, one by one -/
theorem sameB_step {a b : List Bool} {k : Nat} (h : a.take k = b.take k) (ha : k < a.length) (hb : k < b.length) (e : a.getD k false = b.getD k false) : a.take (k + 1) = b.take (k + 1) := by
  rw [List.take_succ_eq_append_getElem ha, List.take_succ_eq_append_getElem hb, h]
  simp [ha, hb] at e
  rw [e]
theorem neB_at {a b : List Bool} {k : Nat} (e : a.getD k false ≠ b.getD k false) : (a == b) = false := by
  rw [beq_eq_false_iff_ne]
  rintro rfl
  exact e rfl
theorem neB_len {a b : List Bool} (e : a.length ≠ b.length) : (a == b) = false := by
  rw [beq_eq_false_iff_ne]
  rintro rfl
  exact e rfl
theorem sameB_len {a b : List Bool} (h : a.take a.length = b.take a.length) (e : a.length = b.length) : (a == b) = true := by
  rw [List.take_length, e, List.take_length] at h
  rw [h]
  exact beq_self_eq_true b
def SameBPost (a b : List Bool) (w : World) (e : Ending) (w' : World) : Prop := e = .returned (.bool (a == b)) ∧ ∃ n, w' = w.drewN n
set_option maxRecDepth 100000 in
theorem sameBools_any (A : Option Addr) (l : List Bool) (n c : Nat) (hn : l.length = n) (A' : Option Addr) (l' : List Bool) (n' c' : Nat) (hn' : l'.length = n') (B : Nat) (w : World) (hr : RowAt w B A (bv l)) (hr' : RowAt w B A' (bv l')) (hm : l.length ≤ 10000000) :
    Calls Try.prog 60 #[.slice A n c, .slice A' n' c'] w (SameBPost l l' w) := by
  subst hn; subst hn'
  by_cases hne : l.length = l'.length
  · obtain ⟨m, hmm⟩ : ∃ m, m = l.length := ⟨_, rfl⟩
    rw [← hne, ← hmm]
    have HM := Lib.hid (And.intro hmm hne)
    clear hmm hne
    have hm1 : m ≤ 10000000 := by rw [HM.out.1]; exact hm
    go_enter Try.func60, Try.ntmps60
    go_wp2
    go_loopw [5] (fun i wr => ∃ k n : Nat, k ≤ m ∧ i = .int .i64 (k : Int) ∧ l.take k = l'.take k ∧ wr = w.drewN n) (fun i _ => m - (intOf i).toNat)
    case atStart => exact ⟨0, 0, Nat.zero_le _, rfl, rfl, rfl⟩
    case round =>
      obtain ⟨k, dn, hk, rfl, htake, rfl⟩ := hrel
      by_cases hlt : k < m
      · have g1 : k < l.length := by rw [← HM.out.1]; exact hlt
        have g2 : k < l'.length := by rw [← HM.out.2]; exact g1
        obtain ⟨ad, rfl, _, hcell⟩ := hr.at_ (bv_get l k g1)
        obtain ⟨ad', rfl, _, hcell'⟩ := hr'.at_ (bv_get l' k g2)
        obtain ⟨x, hx⟩ : ∃ x, x = l.getD k false := ⟨_, rfl⟩
        obtain ⟨y, hy⟩ : ∃ y, y = l'.getD k false := ⟨_, rfl⟩
        rw [← hx] at hcell
        rw [← hy] at hcell'
        have HX := Lib.hid (And.intro htake (And.intro hx (And.intro hy (And.intro g1 g2))))
        clear htake hx hy g1 g2 hr hr' hm
        by_cases hxy : x = y
        · subst hxy
          go_wp2
          go_quiet (fail)
          go_wp2
          go_roundw
          case rel =>
            obtain ⟨htake, hx, hy, g1, g2⟩ := HX.out
            exact ⟨k + 1, _, by omega, by go_num, sameB_step htake g1 g2 (hx.symm.trans hy), rfl⟩
          case measure => simp [intOf]; omega
        · have HY := Lib.hid hxy
          obtain rfl : y = !x := by revert hxy; cases x <;> cases y <;> simp
          clear hxy
          cases x
          all_goals
            go_wp2
            go_quiet (fail)
            go_wp2
            go_ret
            obtain ⟨htake, hx, hy, g1, g2⟩ := HX.out
            exact ⟨by rw [neB_at (a := l) (b := l') (k := k) (fun e => HY.out (hx.trans (e.trans hy.symm)))]; rfl, dn + nq, World.drewN_drewN _ _ _⟩
      · obtain rfl : k = m := by omega
        go_wp2
        go_ret
        exact ⟨by rw [sameB_len (by rw [← HM.out.1]; exact htake) HM.out.2]; rfl, _, rfl⟩
  · have hd : ((l.length : Int) != (l'.length : Int)) = true := by simp; omega
    have HN := Lib.hid hne
    clear hne
    go_enter Try.func60, Try.ntmps60
    go_wp2
    go_ret
    exact ⟨by rw [neB_len HN.out]; rfl, 0, rfl⟩

def markB (n : Nat) (k : Nat) : List Bool := (List.range k).map fun j => decide ((n + j) % 2 = 0)
def lentB3 (l : List Bool) : List Bool := l ++ markB l.length 3
theorem markB_length (n k : Nat) : (markB n k).length = k := by simp [markB]
theorem lentB3_length (l : List Bool) : (lentB3 l).length = l.length + 3 := by simp [lentB3, markB]
def LentB3Post (l : List Bool) (w : World) (e : Ending) (w' : World) : Prop :=
  ∃ g, e = .returned (.slice (some ⟨g, 0, none⟩) l.length (l.length + 3)) ∧ w.heap.size ≤ g ∧ BlkR 4 w' g (bv (lentB3 l)) ∧ Below w.heap.size w w'
theorem splice_lentB3 (l : List Bool) : splice (List.replicate (l.length + 3) (Value.bool false)) 0 (bv l) = bv (l ++ markB l.length 0 ++ List.replicate 3 false) := by
  simp [splice, bv, markB, List.drop_replicate, Nat.add_sub_cancel_left]
theorem marksB_step (l : List Bool) (j : Nat) (hj : j < 3) : (l ++ markB l.length j ++ List.replicate (3 - j) false).set (l.length + j) (decide ((l.length + j) % 2 = 0)) = l ++ markB l.length (j + 1) ++ List.replicate (3 - (j + 1)) false := by
  have e : 3 - j = (3 - (j + 1)) + 1 := by omega
  rw [e, List.replicate_succ, List.append_assoc, List.set_append_right _ _ (by omega), Nat.add_sub_cancel_left, List.set_append_right _ _ (by rw [markB_length]; omega), markB_length, Nat.sub_self, List.set_cons_zero]
  simp [markB, List.range_succ]
theorem marksB_get (l : List Bool) (j : Nat) (hj : j < 3) : (bv (l ++ markB l.length j ++ List.replicate (3 - j) false))[l.length + j]? = some (.bool false) := by
  unfold bv
  rw [List.getElem?_map, List.append_assoc, List.getElem?_append_right (by omega), Nat.add_sub_cancel_left, List.getElem?_append_right (by rw [markB_length]; omega), markB_length, Nat.sub_self, List.getElem?_replicate, if_pos (by omega)]
  rfl

set_option maxRecDepth 100000 in
theorem lentBools_any (A : Option Addr) (l : List Bool) (n c : Nat) (hn : l.length = n) (w : World) (hl : l.length ≤ 1000000) (hr : RowAt w w.heap.size A (bv l)) (el : Elem Try.prog 37 4 (.bool false) 1) :
    Calls Try.prog 43 #[.slice A n c] w (LentB3Post l w) := by
  subst hn
  have hmk := make_row el (l.length + 3) (l.length + 3) (Nat.le_refl _) (by omega) (by unfold maxLen; omega)
  rw [show ((l.length + 3 : Nat) : Int) = (l.length : Int) + 3 by omega] at hmk
  have q1 := run_cut_to (P := Try.prog) (t := 37) Try.underlying37 (fun w => by kernel_rfl) (some ⟨w.heap.size, 0, none⟩) (l.length + 3) (l.length + 3) l.length (by omega)
  go_enter Try.func43, Try.ntmps43
  go_wp2_with (with_reducible refine wpList_copy_splice rfl (.tmp 9) (.tmp 10) 37 37 rfl 4 Try.underlying37 (by kernel_rfl) (some ⟨w.heap.size, 0, none⟩) A (l.length + 3) (l.length + 3) l.length c rfl rfl w.heap.size 0 (List.replicate (l.length + 3) (Value.bool false)) 4 ?h1 (bv l) ?h2 ?h3 ?h4 ?h5 w.heap.size w ?h6 ?h7 ?h8; rotate_left 7; (intro w2 hg2 hb2))
  · have hB : BlkR 4 w2 w.heap.size (bv (l ++ markB l.length 0 ++ List.replicate 3 false)) := by
      unfold BlkR; rw [← splice_lentB3]; exact hg2.out
    have HB := Lib.hid hB
    clear hmk hg2 hB
    go_loopw [4] (fun i wr => ∃ j : Nat, j ≤ 3 ∧ i = .int .i64 ((l.length : Int) + (j : Int)) ∧ BlkR 4 wr w.heap.size (bv (l ++ markB l.length j ++ List.replicate (3 - j) false)) ∧ Below w.heap.size w wr) (fun i _ => l.length + 3 - (intOf i).toNat)
    case atStart => exact ⟨0, by omega, by go_num, HB.out, hb2⟩
    case round =>
      obtain ⟨j, hj, rfl, hblk, hbel⟩ := hrel
      by_cases hj3 : j < 3
      · have hcell := hblk.cell (marksB_get l j hj3)
        have hfr := hblk.frozen (l.length + j)
        have HBL := Lib.hid hblk
        clear hblk HB hb2 q1
        go_wp2
        go_roundw
        case rel =>
          refine ⟨j + 1, by omega, by go_num, ?_, hbel.setCell (Nat.le_refl _) _⟩
          rw [← marksB_step l j hj3, ← bv_set]
          have e : (((l.length : Int) + (j : Int)) % 2 == 0) = decide ((l.length + j) % 2 = 0) := by
            rw [Bool.eq_iff_iff]
            simp
            omega
          rw [e]
          exact HBL.out.set_ _ _
        case measure => simp [intOf]; omega
      · obtain rfl : j = 3 := by omega
        go_wp2
        go_ret
        refine ⟨w.heap.size, rfl, Nat.le_refl _, ?_, hbel⟩
        simpa [lentB3] using hblk
  case h1 => exact heap_alloc_new w _
  case h2 => rw [bv_length]; exact (Nat.min_eq_left (by omega)).symm
  case h3 =>
    intro hpos
    rw [bv_length] at hpos
    obtain ⟨ad, rfl, _, hc⟩ := (hr.alloc (Nat.le_refl _) _ : RowAt (w.alloc _) w.heap.size A (bv l)) (by intro h; have h2 := congrArg List.length h; rw [bv_length, List.length_nil] at h2; omega)
    exact ⟨ad, rfl, hc⟩
  case h4 => rw [bv_length, List.length_replicate]; omega
  case h5 => exact bv_one l
  case h6 => exact (Below.refl _ _).alloc (Nat.le_refl _) _
  case h7 => exact Nat.le_refl _

set_option maxRecDepth 100000 in
theorem keptBools_yes (g : Nat) (l : List Bool) (A : Option Addr) (n c : Nat) (hn : l.length = n) (w : World) (hl : l.length ≤ 1000000) (hb : BlkR 4 w g (bv (lentB3 l))) (hr : RowAt w w.heap.size A (bv l)) (el : Elem Try.prog 37 4 (.bool false) 1) :
    Calls Try.prog 45 #[.slice (some ⟨g, 0, none⟩) n (n + 3), .slice A n c] w fun e w' => e = .returned (.bool true) ∧ Below w.heap.size w w' := by
  subst hn
  have hg := hb.lt
  have q1 : ∀ (g : Nat) (W : World), (Instr.slice 37 (.slice (some ⟨g, 0, none⟩) l.length (l.length + 3)) none (some (.int .i64 ((l.length : Int) + 3))) none).run Try.prog W = .ok (.slice (some ⟨g, 0, none⟩) (l.length + 3) (l.length + 3)) W := fun g W => by
    have := run_cut_to (P := Try.prog) (t := 37) Try.underlying37 (fun w => by kernel_rfl) (some ⟨g, 0, none⟩) l.length (l.length + 3) (l.length + 3) (Nat.le_refl _) W
    rwa [show ((l.length + 3 : Nat) : Int) = (l.length : Int) + 3 by omega] at this
  have HL := Lib.hid (lentB3_length l)
  have e1 : IntKind.i64.wrap ((l.length : Int) + 3) = (l.length : Int) + 3 := IntWalk.i64_in _ (by omega)
  go_enter Try.func45, Try.ntmps45
  go_wp2_with fail
  go_region_held3 (fun w' => Below w.heap.size w w' ∧ BlkR 4 w' g (bv (lentB3 l))) (first | assumption | exact (Below.refl _ _).drew | exact ⟨(Below.refl _ _).drew, hb⟩ | exact ⟨hS1, hS2⟩ | exact ⟨hS3, hS4⟩) (first
    | (go_at_call 43; refine (lentBools_any A l _ c rfl _ hl hr.drew el).mono ?_; (rintro e w2 ⟨g2, rfl, hg2, hb2, hbel2⟩); (have hS1 : Below w.heap.size w w2 := undrewD hbel2); (have hS2 : BlkR 4 w2 g (bv (lentB3 l)) := hb.below hS1 hg))
    | (go_at_call 60; refine (sameBools_any _ (lentB3 l) _ _ HL.out _ (lentB3 l) _ _ HL.out w2.heap.size w2 (hS2.row ⟨[], by simp⟩ hS2.lt) (hb2.row ⟨[], by simp⟩ hb2.lt) (by rw [HL.out]; omega)).mono ?_; (rintro e w3 ⟨rfl, n3, rfl⟩); (have hS3 : Below w.heap.size w (w2.drewN n3) := belowDN hS1 n3); (have hS4 : BlkR 4 (w2.drewN n3) g (bv (lentB3 l)) := hS2)))
  go_wp2
  go_ret
  exact ⟨by simp, hS3⟩
end Go.Proofs.Ytmkibkafccgmgaa
