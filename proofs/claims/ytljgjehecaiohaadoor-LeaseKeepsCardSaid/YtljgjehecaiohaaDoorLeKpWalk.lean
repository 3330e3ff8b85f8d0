/-
  The walk of LeaseKeeps. Conditions: the table of bounds lies as the text lays it.
-/
import Derived.Test.YtljgjehecaiohaaDoorLePm
namespace Go.Proofs.YtljgjehecaiohaaDoor
open Go.RowKit Le

set_option maxRecDepth 100000 in
theorem elIn : Elem Tryd.prog 44 3 (.int .i64 0) 8 := ⟨Tryd.underlying44, ⟨_, rfl, by kernel_rfl, by kernel_rfl, by kernel_rfl⟩, rfl, rfl⟩
section
variable {A : Option Addr} {l : List Int} {c : Nat} {w : World}
set_option maxRecDepth 100000 in
theorem lkp_long (hb : BndAt w) (hl : 1000 < l.length) : Calls Tryd.prog 5 #[.slice A l.length c] w (Tlb true w) := by
  obtain ⟨n, hn⟩ : ∃ n, n = l.length := ⟨_, rfl⟩
  rw [← hn] at hl ⊢
  have l0 : (n : Int) > 1000 := by omega
  have za := leAwake_any w hb
  clear hb hl hn
  go_enter Tryd.func5, Tryd.ntmps5
  go_wp2_with (go_at_call 26; (with_reducible refine za.mono ?_); (rintro e w2 ⟨rfl, B2⟩))
  go_ret
  exact ⟨rfl, B2⟩
set_option maxRecDepth 100000 in
theorem lkp_ok (hb : BndAt w) (hl : l.length ≤ 1000) (hr : RowAt w w.heap.size A (iv l)) : Calls Tryd.prog 5 #[.slice A l.length c] w (Tlb true w) := by
  have h0 : ∀ W : World, OwnR 3 (W.alloc (.cells #[] 3)) W.heap.size (.slice (some ⟨W.heap.size, 0, none⟩) 0 0) [] := fun W =>
    ⟨by simp, .inr ⟨W.heap.size, 0, #[], rfl, Nat.le_refl _, heap_alloc_new W _, Nat.le_refl _, Nat.zero_le _, by simp, by simp⟩⟩
  obtain ⟨w1, hw1⟩ : ∃ w1, w1 = w.alloc (.cells #[] 3) := ⟨_, rfl⟩
  have o1 := h0 w
  rw [← hw1] at o1
  have B1 : Below w.heap.size w w1 := by rw [hw1]; exact step_alloc (Below.refl _ w) _
  have s1 : w1.heap.size = w.heap.size + 1 := by rw [hw1]; simp
  have hr1 : RowAt w1 w.heap.size A (iv l) := hr.below B1
  obtain ⟨v2, w2, hrun, ho, hg, hat⟩ := run_appendR elIn o1 (m := l.length) (c := c) (iv_length l) hr1 (iv_one l) (by rw [iv_length]; simp [maxLen]; omega) (by rw [iv_length]; simp; omega) (by omega) 44
  rw [List.nil_append] at ho
  have B2 : Below w.heap.size w w2 := grown_belowR B1 hg (by omega) o1 (Nat.le_refl _)
  obtain ⟨A2, c2, rfl, hc2, _⟩ := ho.form
  have hb2 := hb.grown B2
  have r2 : RowAt w2 w2.heap.size A2 (iv l) := ho.row
  have ra : RowAt w2 w.heap.size A (iv l) := hr.below B2
  have zk := leKeeps_any A2 l c2 _ w2 hb2 r2 (by omega)
  have zr := rfKeeps_any A l c _ w2 ra (by omega)
  have za := fun m => leAwake_any (w2.drewN m) (hb2.grown (belowN (Below.refl _ w2) m))
  obtain ⟨n, hn⟩ : ∃ n, n = l.length := ⟨_, rfl⟩
  obtain ⟨r, hrr⟩ : ∃ r, r = decide (Parts l) := ⟨_, rfl⟩
  rw [iv_length] at hrun
  rw [← hn] at hl zk zr hrun ⊢
  rw [← hrr] at zk zr
  have l0 : ¬ (n : Int) > 1000 := by omega
  have HH := Lib.hid (And.intro r2 (And.intro ra (And.intro hn (And.intro B2 hl))))
  clear hb hr h0 o1 B1 s1 hr1 ho hg hat hc2 hb2 r2 ra hn hrr B2 hl
  go_enter Tryd.func5, Tryd.ntmps5
  go_wp2_with (first
    | (at_builtin; rw [← hw1]; clear hw1; refine wpList_append_runR rfl (.tmp 9) (.tmp 10) 44 rfl rfl rfl hrun ?_; clear hrun)
    | (go_at_call 27; (with_reducible refine zk.mono ?_); (rintro e w3 ⟨rfl, rfl⟩))
    | (go_at_call 28; (with_reducible refine zr.mono ?_); (rintro e w3 ⟨rfl, rfl⟩)))
  go_loopw [4] (fun ix wr => ∃ k m : Nat, k ≤ n ∧ ix = .int .i64 (k : Int) ∧ wr = w2.drewN m) (fun ix _ => n + 1 - vI ix)
  case atStart => exact ⟨0, 0, Nat.zero_le _, rfl, rfl⟩
  case round =>
    obtain ⟨k, m, hk, rfl, rfl⟩ := hrel
    by_cases hkn : k = n
    · have l1 : ¬ (k : Int) < (n : Int) := by omega
      have z := za m
      have B := Lib.hid (step_trans HH.out.2.2.2.1 (belowN (Below.refl _ w2) m))
      clear hk hkn za
      go_wp2_with (go_at_call 26; (with_reducible refine z.mono ?_); (rintro e w3 ⟨rfl, B3⟩))
      go_ret
      exact ⟨rfl, step_trans B.out B3⟩
    · have l1 : (k : Int) < (n : Int) := by omega
      obtain ⟨y, hy⟩ : ∃ y, l[k]? = some y := ⟨_, List.getElem?_eq_getElem (by rw [← HH.out.2.2.1]; omega)⟩
      obtain ⟨ad, rfl, _, hc1⟩ := HH.out.1.at_ (iv_at hy)
      obtain ⟨ad', rfl, _, hc2⟩ := HH.out.2.1.at_ (iv_at hy)
      have hwk : IntKind.i64.wrap ((k : Int) + 1) = (k : Int) + 1 := IntWalk.i64_in _ (by have := HH.out.2.2.2.2; omega)
      have NX := Lib.hid (show k + 1 ≤ n by omega)
      clear hk hkn hy
      go_wp2
      go_quiet (fail)
      go_wp2
      exact ⟨⟨k + 1, _, NX.out, rfl, rfl⟩, by have := NX.out; simp [vI]; omega⟩
theorem lkp_any (hb : BndAt w) (hr : RowAt w w.heap.size A (iv l)) : Calls Tryd.prog 5 #[.slice A l.length c] w (Tlb true w) := by
  by_cases h : l.length ≤ 1000
  · exact lkp_ok hb h hr
  · exact lkp_long hb (by omega)
end
end Go.Proofs.YtljgjehecaiohaaDoor
