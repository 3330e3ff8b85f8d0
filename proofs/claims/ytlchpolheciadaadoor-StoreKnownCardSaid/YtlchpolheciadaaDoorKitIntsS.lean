/-
  tandemkit.SameInts: what it returns. Conditions: the numbers can be read.
-/
import Derived.Test.YtlchpolheciadaaDoorBa
import Derived.Outline
import Derived.WalkKit
import Derived.Lib.Hide
import Derived.BigQuiet
import Derived.Deep.QuietTactic
import Derived.Deep.RegionHeld3
namespace Go.Proofs.YtlchpolheciadaaDoor
open Go.RowKit

/-- two lists of numbers, one by one -/
theorem same_step {a b : List Int} {k : Nat} (h : a.take k = b.take k) (ha : k < a.length) (hb : k < b.length) (e : a.getD k 0 = b.getD k 0) : a.take (k + 1) = b.take (k + 1) := by
  rw [List.take_succ_eq_append_getElem ha, List.take_succ_eq_append_getElem hb, h]
  simp [ha, hb] at e
  rw [e]
theorem ne_at {a b : List Int} {k : Nat} (e : a.getD k 0 ≠ b.getD k 0) : (a == b) = false := by
  rw [beq_eq_false_iff_ne]
  rintro rfl
  exact e rfl
theorem ne_len {a b : List Int} (e : a.length ≠ b.length) : (a == b) = false := by
  rw [beq_eq_false_iff_ne]
  rintro rfl
  exact e rfl
theorem same_len {a b : List Int} (h : a.take a.length = b.take a.length) (e : a.length = b.length) : (a == b) = true := by
  rw [List.take_length, e, List.take_length] at h
  rw [h]
  exact beq_self_eq_true b
def SamePost (a b : List Int) (w : World) (e : Ending) (w' : World) : Prop := e = .returned (.bool (a == b)) ∧ ∃ n, w' = w.drewN n
theorem sameInts_any (A : Option Addr) (l : List Int) (n c : Nat) (hn : l.length = n) (A' : Option Addr) (l' : List Int) (n' c' : Nat) (hn' : l'.length = n') (B : Nat) (w : World) (hr : RowAt w B A (iv l)) (hr' : RowAt w B A' (iv l')) (hm : l.length ≤ 10000000) :
    Calls Tryd.prog 27 #[.slice A n c, .slice A' n' c'] w (SamePost l l' w) := by
  subst hn; subst hn'
  by_cases hne : l.length = l'.length
  · obtain ⟨m, hmm⟩ : ∃ m, m = l.length := ⟨_, rfl⟩
    rw [← hne, ← hmm]
    have HM := Lib.hid (And.intro hmm hne)
    clear hmm hne
    have hm1 : m ≤ 10000000 := by rw [HM.out.1]; exact hm
    go_enter Tryd.func27, Tryd.ntmps27
    go_wp2
    go_loopw [5] (fun i wr => ∃ k n : Nat, k ≤ m ∧ i = .int .i64 (k : Int) ∧ l.take k = l'.take k ∧ wr = w.drewN n) (fun i _ => m - (intOf i).toNat)
    case atStart => exact ⟨0, 0, Nat.zero_le _, rfl, rfl, rfl⟩
    case round =>
      obtain ⟨k, dn, hk, rfl, htake, rfl⟩ := hrel
      by_cases hlt : k < m
      · have g1 : k < l.length := by rw [← HM.out.1]; exact hlt
        have g2 : k < l'.length := by rw [← HM.out.2]; exact g1
        obtain ⟨ad, rfl, _, hcell⟩ := hr.at_ (iv_get l k g1)
        obtain ⟨ad', rfl, _, hcell'⟩ := hr'.at_ (iv_get l' k g2)
        obtain ⟨x, hx⟩ : ∃ x, x = l.getD k 0 := ⟨_, rfl⟩
        obtain ⟨y, hy⟩ : ∃ y, y = l'.getD k 0 := ⟨_, rfl⟩
        rw [← hx] at hcell
        rw [← hy] at hcell'
        have HX := Lib.hid (And.intro htake (And.intro hx (And.intro hy (And.intro g1 g2))))
        clear htake hx hy g1 g2 hr hr' hm
        by_cases hxy : x = y
        · subst hxy
          go_wp2
          go_quiet (fail)
          go_wp2
          go_roundw
          case rel =>
            obtain ⟨htake, hx, hy, g1, g2⟩ := HX.out
            exact ⟨k + 1, _, by omega, by go_num, same_step htake g1 g2 (hx.symm.trans hy), rfl⟩
          case measure => simp [intOf]; omega
        · have hb : (x != y) = true := by simpa using hxy
          have HY := Lib.hid hxy
          clear hxy
          go_wp2
          go_quiet (fail)
          go_wp2
          go_ret
          obtain ⟨htake, hx, hy, g1, g2⟩ := HX.out
          exact ⟨by rw [ne_at (a := l) (b := l') (k := k) (fun e => HY.out (by rw [hx, hy]; exact e))]; rfl, dn + nq, World.drewN_drewN _ _ _⟩
      · obtain rfl : k = m := by omega
        go_wp2
        go_ret
        exact ⟨by rw [same_len (by rw [← HM.out.1]; exact htake) HM.out.2]; rfl, _, rfl⟩
  · have hd : ((l.length : Int) != (l'.length : Int)) = true := by simp; omega
    have HN := Lib.hid hne
    clear hne
    go_enter Tryd.func27, Tryd.ntmps27
    go_wp2
    go_ret
    exact ⟨by rw [ne_len HN.out]; rfl, 0, rfl⟩
end Go.Proofs.YtlchpolheciadaaDoor
