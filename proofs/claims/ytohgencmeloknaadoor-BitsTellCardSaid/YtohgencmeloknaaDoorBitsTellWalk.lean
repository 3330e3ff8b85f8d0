/-
  The walk of BitsTell. Conditions: the library's table lies as its text lays it; the set is a word of 64 bits.
-/
import Derived.Test.YtohgencmeloknaaDoorBitsAny
namespace Go.Proofs.YtohgencmeloknaaDoor
open Go.RowKit Bits

theorem tell_any (s : Nat) (hs : s < 2 ^ 64) (b : Int) (w : World) (ht : TzAt w) :
    Calls Tryd.prog 3 #[.int .u64 (s : Int), .int .i64 b] w fun e w' => e = .returned (.bool true) ∧ Below w.heap.size w w' := by
  have hc := cnt_le s
  have hiv : (iv (ints s)).length = cnt s := by rw [iv_length, ints_length]
  have hil := ints_length s
  have HI := Lib.hid (And.intro hil hiv)
  clear hiv hil
  go_enter Tryd.func3, Tryd.ntmps3
  go_wp2_with (first
    | (go_at_call 8; refine (put_any s hs b _).mono ?_; (rintro e w2 ⟨rfl, rfl⟩))
    | (go_at_call 9; refine (refPut_any s hs b _).mono ?_; (rintro e w2 ⟨rfl, rfl⟩))
    | (go_at_call 10; refine (cut_any s hs b _).mono ?_; (rintro e w2 ⟨rfl, rfl⟩))
    | (go_at_call 11; refine (refCut_any s hs b _).mono ?_; (rintro e w2 ⟨rfl, rfl⟩))
    | (go_at_call 12; refine (first_any s hs b _ ht).mono ?_; (rintro e w2 ⟨rfl, rfl⟩))
    | (go_at_call 13; refine (refFirst_any s hs b _).mono ?_; (rintro e w1 ⟨rfl, hb1⟩)))
  have ht1 := ht.below hb1 (Nat.le_refl _)
  refine (list_any s hs _ ht1).mono ?_
  rintro e w2 ⟨A, c, rfl, hlc, hcm, hown, hb2⟩
  go_wp2_with fail
  refine (refList_any s _).mono ?_
  rintro e w3 ⟨A', c', rfl, hlc', hcm', hown', hb3⟩
  have hb03 : Below w.heap.size w w3 := (hb1.trans (hb2.mono hb1.size)).trans (hb3.mono (Nat.le_trans hb1.size hb2.size))
  have ht3 := ht.below hb03 (Nat.le_refl _)
  have hown3 : OwnR 3 w3 w1.heap.size (.slice A (cnt s) c) (iv (ints s)) := hown.below hb3 (Nat.le_refl _)
  have hrow : RowAt w3 w3.heap.size A (iv (ints s)) := hown3.row
  have hrow' : RowAt w3 w3.heap.size A' (iv (ints s)) := hown'.row
  have hlt2 : ∀ g, A = some ⟨g, 0, none⟩ → g < w2.heap.size := fun g hg => by
    have := hown.lt g (by rw [hg]; rfl)
    exact this.2
  go_wp2_with (first
    | (go_at_call 16; refine (sameInts_any A (ints s) _ _ HI.out.1 A' (ints s) _ _ HI.out.1 _ w3 hrow hrow' (by rw [HI.out.1]; omega)).mono ?_; (rintro e w4 ⟨rfl, n4, rfl⟩; rw [beq_self_eq_true]))
    | (go_at_call 17; refine (count_any s hs _).mono ?_; (rintro e w5 ⟨rfl, rfl⟩)))
  have H3 := Lib.hid (And.intro hown' (And.intro hb03 (And.intro hown3 ht)))
  have hs1 := hb1.size
  clear hown hown' hown3 hb03 ht3 hrow hrow' ht ht1 hb1 hb2
  go_loopw [20] (fun i wr => ∃ k : Nat, k ≤ cnt s ∧ i = .int .i64 (k : Int) ∧ (∃ xs, xs.length = cnt s ∧ OwnR 3 wr w1.heap.size (.slice A (cnt s) c) xs) ∧ OwnR 3 wr w2.heap.size (.slice A' (cnt s) c') (iv (ints s)) ∧ Below w.heap.size w wr) (fun i _ => cnt s - (intOf i).toNat)
  case atStart => exact ⟨0, Nat.zero_le _, rfl, ⟨_, HI.out.2, H3.out.2.2.1.drewN n4⟩, H3.out.1.drewN n4, belowDN H3.out.2.1 n4⟩
  case round =>
    obtain ⟨k, hk, rfl, ⟨xs, hxs, ho1⟩, ho2, hbel⟩ := hrel
    by_cases hlt : k < cnt s
    · obtain ⟨g, rfl, hg1, hg2, hnn⟩ := ho1.at_g (by omega)
      obtain ⟨u, hu⟩ : ∃ u, xs[k]? = some u := ⟨_, List.getElem?_eq_getElem (by omega)⟩
      have hcell := ho1.cell hu
      have hfr := ho1.frozen k
      have hgw := hlt2 g rfl
      have HO := Lib.hid (And.intro ho1 (And.intro ho2 (And.intro hbel hxs)))
      clear ho1 ho2 hbel hxs hu hlt2
      go_wp2
      go_roundw
      case rel =>
        obtain ⟨ho1, ho2, hbel, hxs⟩ := HO.out
        exact ⟨k + 1, by omega, by go_num, ⟨_, by rw [List.length_set]; exact hxs, ho1.store k _⟩, ho2.far hgw _, hbel.setCell (Nat.le_trans hs1 hg1) _⟩
      case measure => simp [intOf]; omega
    · obtain rfl : k = cnt s := by omega
      have htr := H3.out.2.2.2.below hbel (Nat.le_refl _)
      have HO := Lib.hid (And.intro ho2 hbel)
      clear ho1 ho2 hbel hlt2
      go_wp2_with (first
        | (go_at_call 18; refine (has_any s hs b _).mono ?_; (rintro e w5 ⟨rfl, rfl⟩))
        | (go_at_call 19; refine (refHas_any s b _).mono ?_; (rintro e w5 ⟨rfl, rfl⟩))
        | (go_at_call 20; refine (within_any s b hs _).mono ?_; (rintro e w5 ⟨rfl, rfl⟩))
        | (go_at_call 21; refine (refWithin_any s b hs _).mono ?_; (rintro e w5 ⟨rfl, hb5⟩)))
      have ht5 := htr.below hb5 (Nat.le_refl _)
      refine (list_any s hs _ ht5).mono ?_
      rintro e w6 ⟨A6, c6, rfl, hlc6, hcm6, hown6, hb6⟩
      have hb56 := hb5.trans (hb6.mono hb5.size)
      have ht6 := htr.below hb56 (Nat.le_refl _)
      have hr6 : RowAt w6 w6.heap.size A6 (iv (ints s)) := hown6.row
      have hr7 : RowAt w6 w6.heap.size A' (iv (ints s)) := (HO.out.1.below hb56 (Nat.le_refl _)).row
      go_wp2_with (first
        | (go_at_call 16; refine (sameInts_any A6 (ints s) _ _ HI.out.1 A' (ints s) _ _ HI.out.1 _ w6 hr6 hr7 (by rw [HI.out.1]; omega)).mono ?_; (rintro e w7 ⟨rfl, n7, rfl⟩; rw [beq_self_eq_true]))
        | (go_at_call 22; refine (awake_any _ (ht6.drewN _)).mono ?_; (rintro e w8 ⟨rfl, rfl⟩)))
      go_ret
      exact ⟨rfl, belowDN (HO.out.2.trans (hb56.mono HO.out.2.size)) n7⟩
theorem tell_all (n : Int) (hn : 0 ≤ n ∧ n ≤ 18446744073709551615) (b : Int) (w : World) (ht : TzAt w) :
    Calls Tryd.prog 3 #[.int .u64 n, .int .i64 b] w fun e w' => e = .returned (.bool true) ∧ Below w.heap.size w w' := by
  obtain ⟨s, rfl⟩ : ∃ s : Nat, n = (s : Int) := ⟨n.toNat, by omega⟩
  exact tell_any s (by omega) b w ht
end Go.Proofs.YtohgencmeloknaaDoor
