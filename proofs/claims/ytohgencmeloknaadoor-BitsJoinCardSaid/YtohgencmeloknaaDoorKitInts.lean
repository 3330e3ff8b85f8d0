/-
  tandemkit.LentInts, SameInts, KeptInts: what they return. Conditions: the numbers can be read, and are at most a million.
-/
import Derived.Test.YtohgencmeloknaaDoorRow
import Derived.Test.YtohgencmeloknaaDoorUndrew
import Derived.Outline
import Derived.WalkKit
import Derived.Lib.Hide
import Derived.BigQuiet
import Derived.Deep.QuietTactic
import Derived.Deep.RegionHeld3
namespace Go.Proofs.YtohgencmeloknaaDoor
open Go.RowKit

/-- two lists of numbers, one by one -/
theorem same_step {a b : List Int} {k : Nat} (h : a.take k = b.take k) (ha : k < a.length) (hb : k < b.length) (e : a.getD k 0 = b.getD k 0) : a.take (k + 1) = b.take (k + 1) := by
  rw [List.take_succ_eq_append_getElem ha, List.take_succ_eq_append_getElem hb, h]
  simp [ha, hb] at e
  rw [e]
theorem ne_at {a b : List Int} {k : Nat} (e : a.getD k 0 ≠ b.getD k 0) : (a == b) = false := by
  rw [beq_eq_false_iff_ne]
  rintro rfl
  exact e rfl
theorem ne_len {a b : List Int} (e : a.length ≠ b.length) : (a == b) = false := by
  rw [beq_eq_false_iff_ne]
  rintro rfl
  exact e rfl
theorem same_len {a b : List Int} (h : a.take a.length = b.take a.length) (e : a.length = b.length) : (a == b) = true := by
  rw [List.take_length, e, List.take_length] at h
  rw [h]
  exact beq_self_eq_true b
def SamePost (a b : List Int) (w : World) (e : Ending) (w' : World) : Prop := e = .returned (.bool (a == b)) ∧ ∃ n, w' = w.drewN n
theorem sameInts_any (A : Option Addr) (l : List Int) (n c : Nat) (hn : l.length = n) (A' : Option Addr) (l' : List Int) (n' c' : Nat) (hn' : l'.length = n') (B : Nat) (w : World) (hr : RowAt w B A (iv l)) (hr' : RowAt w B A' (iv l')) (hm : l.length ≤ 10000000) :
    Calls Tryd.prog 16 #[.slice A n c, .slice A' n' c'] w (SamePost l l' w) := by
  subst hn; subst hn'
  by_cases hne : l.length = l'.length
  · obtain ⟨m, hmm⟩ : ∃ m, m = l.length := ⟨_, rfl⟩
    rw [← hne, ← hmm]
    have HM := Lib.hid (And.intro hmm hne)
    clear hmm hne
    have hm1 : m ≤ 10000000 := by rw [HM.out.1]; exact hm
    go_enter Tryd.func16, Tryd.ntmps16
    go_wp2
    go_loopw [5] (fun i wr => ∃ k n : Nat, k ≤ m ∧ i = .int .i64 (k : Int) ∧ l.take k = l'.take k ∧ wr = w.drewN n) (fun i _ => m - (intOf i).toNat)
    case atStart => exact ⟨0, 0, Nat.zero_le _, rfl, rfl, rfl⟩
    case round =>
      obtain ⟨k, dn, hk, rfl, htake, rfl⟩ := hrel
      by_cases hlt : k < m
      · have g1 : k < l.length := by rw [← HM.out.1]; exact hlt
        have g2 : k < l'.length := by rw [← HM.out.2]; exact g1
        obtain ⟨ad, rfl, _, hcell⟩ := hr.at_ (iv_get l k g1)
        obtain ⟨ad', rfl, _, hcell'⟩ := hr'.at_ (iv_get l' k g2)
        obtain ⟨x, hx⟩ : ∃ x, x = l.getD k 0 := ⟨_, rfl⟩
        obtain ⟨y, hy⟩ : ∃ y, y = l'.getD k 0 := ⟨_, rfl⟩
        rw [← hx] at hcell
        rw [← hy] at hcell'
        have HX := Lib.hid (And.intro htake (And.intro hx (And.intro hy (And.intro g1 g2))))
        clear htake hx hy g1 g2 hr hr' hm
        by_cases hxy : x = y
        · subst hxy
          go_wp2
          go_quiet (fail)
          go_wp2
          go_roundw
          case rel =>
            obtain ⟨htake, hx, hy, g1, g2⟩ := HX.out
            exact ⟨k + 1, _, by omega, by go_num, same_step htake g1 g2 (hx.symm.trans hy), rfl⟩
          case measure => simp [intOf]; omega
        · have hb : (x != y) = true := by simpa using hxy
          have HY := Lib.hid hxy
          clear hxy
          go_wp2
          go_quiet (fail)
          go_wp2
          go_ret
          obtain ⟨htake, hx, hy, g1, g2⟩ := HX.out
          exact ⟨by rw [ne_at (a := l) (b := l') (k := k) (fun e => HY.out (by rw [hx, hy]; exact e))]; rfl, dn + nq, World.drewN_drewN _ _ _⟩
      · obtain rfl : k = m := by omega
        go_wp2
        go_ret
        exact ⟨by rw [same_len (by rw [← HM.out.1]; exact htake) HM.out.2]; rfl, _, rfl⟩
  · have hd : ((l.length : Int) != (l'.length : Int)) = true := by simp; omega
    have HN := Lib.hid hne
    clear hne
    go_enter Tryd.func16, Tryd.ntmps16
    go_wp2
    go_ret
    exact ⟨by rw [ne_len HN.out]; rfl, 0, rfl⟩

def mark3 (n : Nat) (k : Nat) : List Int := (List.range k).map fun j => -77 - ((n + j : Nat) : Int)
def lentI (l : List Int) : List Int := l ++ mark3 l.length 3
theorem mark3_length (n k : Nat) : (mark3 n k).length = k := by simp [mark3]
theorem lentI_length (l : List Int) : (lentI l).length = l.length + 3 := by simp [lentI, mark3]
def LentIPost (l : List Int) (w : World) (e : Ending) (w' : World) : Prop :=
  ∃ g, e = .returned (.slice (some ⟨g, 0, none⟩) l.length (l.length + 3)) ∧ w.heap.size ≤ g ∧ BlkR 3 w' g (iv (lentI l)) ∧ Below w.heap.size w w'
theorem splice_lentI (l : List Int) : splice (List.replicate (l.length + 3) (Value.int .i64 0)) 0 (iv l) = iv (l ++ mark3 l.length 0 ++ List.replicate 3 0) := by
  simp [splice, iv, mark3, List.drop_replicate, Nat.add_sub_cancel_left]
theorem marks3_step (l : List Int) (j : Nat) (hj : j < 3) : (l ++ mark3 l.length j ++ List.replicate (3 - j) 0).set (l.length + j) (-77 - ((l.length + j : Nat) : Int)) = l ++ mark3 l.length (j + 1) ++ List.replicate (3 - (j + 1)) 0 := by
  have e : 3 - j = (3 - (j + 1)) + 1 := by omega
  rw [e, List.replicate_succ, List.append_assoc, List.set_append_right _ _ (by omega), Nat.add_sub_cancel_left, List.set_append_right _ _ (by rw [mark3_length]; omega), mark3_length, Nat.sub_self, List.set_cons_zero]
  simp [mark3, List.range_succ]
theorem marks3_get (l : List Int) (j : Nat) (hj : j < 3) : (iv (l ++ mark3 l.length j ++ List.replicate (3 - j) 0))[l.length + j]? = some (.int .i64 0) := by
  unfold iv
  rw [List.getElem?_map, List.append_assoc, List.getElem?_append_right (by omega), Nat.add_sub_cancel_left, List.getElem?_append_right (by rw [mark3_length]; omega), mark3_length, Nat.sub_self, List.getElem?_replicate, if_pos (by omega)]
  rfl

theorem lentInts_any (A : Option Addr) (l : List Int) (n c : Nat) (hn : l.length = n) (w : World) (hl : l.length ≤ 1000000) (hr : RowAt w w.heap.size A (iv l)) (el : Elem Tryd.prog 28 3 (.int .i64 0) 8) :
    Calls Tryd.prog 23 #[.slice A n c] w (LentIPost l w) := by
  subst hn
  have hmk := make_row el (l.length + 3) (l.length + 3) (Nat.le_refl _) (by omega) (by unfold maxLen; omega)
  rw [show ((l.length + 3 : Nat) : Int) = (l.length : Int) + 3 by omega] at hmk
  have q1 := run_cut_to (P := Tryd.prog) (t := 28) Tryd.underlying28 (fun w => by kernel_rfl) (some ⟨w.heap.size, 0, none⟩) (l.length + 3) (l.length + 3) l.length (by omega)
  go_enter Tryd.func23, Tryd.ntmps23
  go_wp2_with (with_reducible refine wpList_copy_splice rfl (.tmp 9) (.tmp 10) 28 28 rfl 3 Tryd.underlying28 (by kernel_rfl) (some ⟨w.heap.size, 0, none⟩) A (l.length + 3) (l.length + 3) l.length c rfl rfl w.heap.size 0 (List.replicate (l.length + 3) (Value.int .i64 0)) 3 ?h1 (iv l) ?h2 ?h3 ?h4 ?h5 w.heap.size w ?h6 ?h7 ?h8; rotate_left 7; (intro w2 hg2 hb2))
  · have hB : BlkR 3 w2 w.heap.size (iv (l ++ mark3 l.length 0 ++ List.replicate 3 0)) := by
      unfold BlkR; rw [← splice_lentI]; exact hg2.out
    have HB := Lib.hid hB
    clear hmk hg2 hB
    go_loopw [4] (fun i wr => ∃ j : Nat, j ≤ 3 ∧ i = .int .i64 ((l.length : Int) + (j : Int)) ∧ BlkR 3 wr w.heap.size (iv (l ++ mark3 l.length j ++ List.replicate (3 - j) 0)) ∧ Below w.heap.size w wr) (fun i _ => l.length + 3 - (intOf i).toNat)
    case atStart => exact ⟨0, by omega, by go_num, HB.out, hb2⟩
    case round =>
      obtain ⟨j, hj, rfl, hblk, hbel⟩ := hrel
      by_cases hj3 : j < 3
      · have hcell := hblk.cell (marks3_get l j hj3)
        have hfr := hblk.frozen (l.length + j)
        have HBL := Lib.hid hblk
        clear hblk HB hb2 q1
        go_wp2
        go_roundw
        case rel =>
          refine ⟨j + 1, by omega, by go_num, ?_, hbel.setCell (Nat.le_refl _) _⟩
          rw [← marks3_step l j hj3, ← iv_set]
          have e : (-77 : Int) - ((l.length : Int) + (j : Int)) = -77 - ((l.length + j : Nat) : Int) := by omega
          rw [e]
          exact HBL.out.set_ _ _
        case measure => simp [intOf]; omega
      · obtain rfl : j = 3 := by omega
        go_wp2
        go_ret
        refine ⟨w.heap.size, rfl, Nat.le_refl _, ?_, hbel⟩
        simpa [lentI] using hblk
  case h1 => exact heap_alloc_new w _
  case h2 => rw [iv_length]; exact (Nat.min_eq_left (by omega)).symm
  case h3 =>
    intro hpos
    rw [iv_length] at hpos
    obtain ⟨ad, rfl, _, hc⟩ := (hr.alloc (Nat.le_refl _) _ : RowAt (w.alloc _) w.heap.size A (iv l)) (by intro h; have h2 := congrArg List.length h; rw [iv_length, List.length_nil] at h2; omega)
    exact ⟨ad, rfl, hc⟩
  case h4 => rw [iv_length, List.length_replicate]; omega
  case h5 => exact iv_one l
  case h6 => exact (Below.refl _ _).alloc (Nat.le_refl _) _
  case h7 => exact Nat.le_refl _

theorem keptInts_yes (g : Nat) (l : List Int) (A : Option Addr) (n c : Nat) (hn : l.length = n) (w : World) (hl : l.length ≤ 1000000) (hb : BlkR 3 w g (iv (lentI l))) (hr : RowAt w w.heap.size A (iv l)) (el : Elem Tryd.prog 28 3 (.int .i64 0) 8) :
    Calls Tryd.prog 28 #[.slice (some ⟨g, 0, none⟩) n (n + 3), .slice A n c] w fun e w' => e = .returned (.bool true) ∧ Below w.heap.size w w' := by
  subst hn
  have hg := hb.lt
  have q1 : ∀ (g : Nat) (W : World), (Instr.slice 28 (.slice (some ⟨g, 0, none⟩) l.length (l.length + 3)) none (some (.int .i64 ((l.length : Int) + 3))) none).run Tryd.prog W = .ok (.slice (some ⟨g, 0, none⟩) (l.length + 3) (l.length + 3)) W := fun g W => by
    have := run_cut_to (P := Tryd.prog) (t := 28) Tryd.underlying28 (fun w => by kernel_rfl) (some ⟨g, 0, none⟩) l.length (l.length + 3) (l.length + 3) (Nat.le_refl _) W
    rwa [show ((l.length + 3 : Nat) : Int) = (l.length : Int) + 3 by omega] at this
  have HL := Lib.hid (lentI_length l)
  have e1 : IntKind.i64.wrap ((l.length : Int) + 3) = (l.length : Int) + 3 := IntWalk.i64_in _ (by omega)
  go_enter Tryd.func28, Tryd.ntmps28
  go_wp2_with fail
  go_region_held3 (fun w' => Below w.heap.size w w' ∧ BlkR 3 w' g (iv (lentI l))) (first | assumption | exact (Below.refl _ _).drew | exact ⟨(Below.refl _ _).drew, hb⟩ | exact ⟨hS1, hS2⟩ | exact ⟨hS3, hS4⟩) (first
    | (go_at_call 23; refine (lentInts_any A l _ c rfl _ hl hr.drew el).mono ?_; (rintro e w2 ⟨g2, rfl, hg2, hb2, hbel2⟩); (have hS1 : Below w.heap.size w w2 := undrewD hbel2); (have hS2 : BlkR 3 w2 g (iv (lentI l)) := hb.below hS1 hg))
    | (go_at_call 16; refine (sameInts_any _ (lentI l) _ _ HL.out _ (lentI l) _ _ HL.out w2.heap.size w2 (hS2.row ⟨[], by simp⟩ hS2.lt) (hb2.row ⟨[], by simp⟩ hb2.lt) (by rw [HL.out]; omega)).mono ?_; (rintro e w3 ⟨rfl, n3, rfl⟩); (have hS3 : Below w.heap.size w (w2.drewN n3) := belowDN hS1 n3); (have hS4 : BlkR 3 (w2.drewN n3) g (iv (lentI l)) := hS2)))
  go_wp2
  go_ret
  exact ⟨by simp, hS3⟩
end Go.Proofs.YtohgencmeloknaaDoor
