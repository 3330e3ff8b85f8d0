/-
  The walk of BitsBack. Conditions: the library's table lies as its text lays it; the set is a word of 64 bits.
-/
import Derived.Test.YtohgencmeloknaaDoorBitsAny
import Derived.Test.YtohgencmeloknaaDoorBitsJoinWalk
namespace Go.Proofs.YtohgencmeloknaaDoor
open Go.RowKit Bits

theorem back_any (s : Nat) (hs : s < 2 ^ 64) (b : Int) (w : World) (ht : TzAt w) :
    Calls Tryd.prog 5 #[.int .u64 (s : Int), .int .i64 b] w fun e w' => e = .returned (.bool true) ∧ Below w.heap.size w w' := by
  have hc := cnt_le s
  have HI := Lib.hid (And.intro (ints_length s) (And.intro (ofl_ints s hs) (ints_ok s)))
  go_enter Tryd.func5, Tryd.ntmps5
  go_wp2_with (go_at_call 22; refine (awake_any _ ht).mono ?_; (rintro e w8 ⟨rfl, rfl⟩))
  refine (list_any s hs _ ht).mono ?_
  rintro e w1 ⟨A, c, rfl, hlc, hcm, hown, hb1⟩
  have ht1 := ht.below hb1 (Nat.le_refl _)
  have hrow : RowAt w1 w1.heap.size A (iv (ints s)) := hown.row
  have HO := Lib.hid (And.intro hown hb1)
  clear hown hb1
  go_wp2_with (first
    | (go_at_call 26; refine (of_good A (ints s) _ c _ HI.out.1 _ (by rw [HI.out.1]; omega) hrow HI.out.2.2).mono ?_; (rintro e w4 ⟨rfl, rfl⟩; rw [HI.out.2.1]))
    | (go_at_call 17; refine (count_any s hs _).mono ?_; (rintro e w5 ⟨rfl, rfl⟩)))
  refine (list_any s hs _ ht1).mono ?_
  rintro e w2 ⟨A2, c2, rfl, hlc2, hcm2, hown2, hb2⟩
  have hb02 := HO.out.2.trans (hb2.mono HO.out.2.size)
  have ht2 := ht.below hb02 (Nat.le_refl _)
  have HB := Lib.hid (And.intro hb02 hown2)
  clear hb02 hown2 hb2 ht1 hrow ht
  go_wp2
  go_loop [8, 9] (fun a m => ∃ n k : Nat, n ≤ 64 ∧ k ≤ cnt s ∧ a = .int .i64 (n : Int) ∧ m = .int .i64 (k : Int) ∧ els (rest s n) = (els s).drop k) (fun _ m => cnt s - (intOf m).toNat)
  case atStart => exact ⟨0, 0, by omega, Nat.zero_le _, rfl, rfl, by rw [rest_zero s hs]; rfl⟩
  case round =>
    obtain ⟨n, k, hn, hk, rfl, rfl, hels⟩ := hrel
    by_cases h0 : rest s n = 0
    · have hk2 : k = cnt s := by
        rw [h0, els_zero] at hels
        have := congrArg List.length hels
        rw [List.length_drop, List.length_nil] at this
        unfold cnt at hk ⊢
        omega
      subst hk2
      have H0 := Lib.hid (show rest s (lo (n : Int)) = 0 by rw [lo_nat n hn]; exact h0)
      clear h0 hels
      go_wp2_with (first
        | (go_at_call 12; refine (first_none s n hs H0.out _).mono ?_; (rintro e w5 ⟨rfl, rfl⟩))
        | (go_at_call 17; refine (count_any s hs _).mono ?_; (rintro e w5 ⟨rfl, rfl⟩))
        | fail)
      by_cases hb : okb b = true
      · obtain ⟨j, rfl⟩ : ∃ j : Nat, b = (j : Int) := ⟨b.toNat, by rw [okb_iff] at hb; omega⟩
        have hj : j < 64 := by rw [okb_iff] at hb; omega
        clear hb
        have hp := put_lt s j hs hj
        have hq := cut_lt s j hs
        have hpb := put_bit s j
        have hqb := fun i => cut_bit s j i hj
        have z1 := put_in s j hs hj
        have z2 := cut_in s j hs hj
        obtain ⟨p, hpp⟩ : ∃ p, p = s ||| 2 ^ j := ⟨_, rfl⟩
        obtain ⟨q, hqq⟩ : ∃ q, q = s &&& (full - 2 ^ j) := ⟨_, rfl⟩
        rw [← hpp] at hp hpb z1
        rw [← hqq] at hq hqb z2
        have HZ := Lib.hid (And.intro hpb (And.intro hqb (And.intro z1 z2)))
        clear hpp hqq hpb hqb z1 z2
        go_wp2_with (first
          | (go_at_call 8; refine (HZ.out.2.2.1 _).mono ?_; (rintro e w5 ⟨rfl, rfl⟩))
          | (go_at_call 10; refine (HZ.out.2.2.2 _).mono ?_; (rintro e w5 ⟨rfl, rfl⟩)))
        go_loop [16] (fun i => ∃ k : Nat, k ≤ 64 ∧ i = .int .i64 (k : Int)) (fun i => 64 - (intOf i).toNat)
        case atStart => exact ⟨0, by omega, rfl⟩
        case round =>
          obtain ⟨k, hk, rfl⟩ := hrel
          by_cases hlt : k < 64
          · have e1 := HZ.out.1 k
            have e2 := HZ.out.2.1 k hlt
            by_cases hjk : j = k
            · subst hjk
              have e1' : p.testBit j = true := by rw [e1]; simp
              have e2' : q.testBit j = false := by rw [e2]; simp
              cases hsb : s.testBit j
              all_goals
                have HS := Lib.hid (And.intro e1' (And.intro e2' hsb))
                clear e1 e2 e1' e2' hsb
                go_wp2_with (first
                  | (go_at_call 18; ((with_reducible refine (has_in p j hp hj _).mono ?_); (rintro e w5 ⟨rfl, rfl⟩; rw [HS.out.1])))
                  | (go_at_call 18; ((with_reducible refine (has_in q j hq hj _).mono ?_); (rintro e w5 ⟨rfl, rfl⟩; rw [HS.out.2.1])))
                  | (go_at_call 18; ((with_reducible refine (has_in s j hs hj _).mono ?_); (rintro e w5 ⟨rfl, rfl⟩; rw [HS.out.2.2]))))
                go_round
                case rel => exact ⟨j + 1, by omega, by go_num⟩
                case measure => simp [intOf]; omega
            · have hne : ((k : Int) == (j : Int)) = false := by simp; omega
              have hne2 : ((k : Int) != (j : Int)) = true := by simp; omega
              have e1' : p.testBit k = s.testBit k := by rw [e1]; simp [hjk]
              have e2' : q.testBit k = s.testBit k := by rw [e2]; simp [hjk]
              cases hsb : s.testBit k
              all_goals
                rw [hsb] at e1' e2'
                have HS := Lib.hid (And.intro e1' (And.intro e2' hsb))
                clear e1 e2 e1' e2' hsb hjk
                go_wp2_with (first
                  | (go_at_call 18; ((with_reducible refine (has_in p k hp hlt _).mono ?_); (rintro e w5 ⟨rfl, rfl⟩; rw [HS.out.1])))
                  | (go_at_call 18; ((with_reducible refine (has_in q k hq hlt _).mono ?_); (rintro e w5 ⟨rfl, rfl⟩; rw [HS.out.2.1])))
                  | (go_at_call 18; ((with_reducible refine (has_in s k hs hlt _).mono ?_); (rintro e w5 ⟨rfl, rfl⟩; rw [HS.out.2.2]))))
                go_round
                case rel => exact ⟨k + 1, by omega, by go_num⟩
                case measure => simp [intOf]; omega
          · obtain rfl : k = 64 := by omega
            go_wp2
            go_ret
            exact ⟨rfl, HB.out.1⟩
      · have hb' : b < 0 ∨ 64 ≤ b := by rw [okb_iff] at hb; omega
        have hd : b < 0 ∨ (¬ b < 0 ∧ 63 < b) := by omega
        have HB' := Lib.hid hb'
        clear hb hb'
        rcases hd with hd | ⟨hd, hd2⟩
        all_goals
          go_wp2_with (first
            | (go_at_call 8; refine (put_out _ b HB'.out _).mono ?_; (rintro e w5 ⟨rfl, rfl⟩))
            | (go_at_call 10; refine (cut_out _ b HB'.out _).mono ?_; (rintro e w5 ⟨rfl, rfl⟩))
            | (go_at_call 18; refine (has_out _ b HB'.out _).mono ?_; (rintro e w5 ⟨rfl, rfl⟩)))
          go_ret
          exact ⟨rfl, HB.out.1⟩
    · have HL := Lib.hid (low_rest_ge s n hs hn h0)
      have HN := Lib.hid (rest_next s n hs hn h0)
      have hl64 := low_lt h0 (rest_lt s n hs)
      have H0 := Lib.hid (show rest s (lo (n : Int)) ≠ 0 by rw [lo_nat n hn]; exact h0)
      obtain ⟨x, hx⟩ : ∃ x, x = low (rest s n) := ⟨_, rfl⟩
      have hxn : n ≤ x := by rw [hx]; exact HL.out.1
      have hx64 : x < 64 := by rw [hx]; exact hl64
      have hx2 : low (rest s (lo (n : Int))) = x := by rw [lo_nat n hn]; exact hx.symm
      have HX := Lib.hid (And.intro hx (And.intro hx2 (And.intro h0 hels)))
      have hxb : s.testBit x = true := by rw [hx]; exact HL.out.2
      have HXB := Lib.hid hxb
      have hxn' : ¬ (x : Int) < (n : Int) := by omega
      clear hx hx2 h0 hels hl64 hxb
      have hk64 : (k : Int) ≤ 64 := by omega
      go_wp2_with (first
        | (go_at_call 12; refine (first_some s n hs H0.out _ ht2).mono ?_; (rintro e w5 ⟨rfl, rfl⟩; rw [HX.out.2.1]))
        | (go_at_call 18; refine (has_in s x hs hx64 _).mono ?_; (rintro e w5 ⟨rfl, rfl⟩; rw [HXB.out])))
      go_round
      case rel =>
        obtain ⟨hx, hx2, h0, hels⟩ := HX.out
        have e1 := els_low h0 (rest_lt s n hs)
        rw [← HN.out, hels, ← hx] at e1
        have hlt : k < cnt s := by
          have := congrArg List.length e1
          rw [List.length_drop, List.length_cons] at this
          unfold cnt
          omega
        refine ⟨x + 1, k + 1, by omega, by omega, by go_num, by go_num, ?_⟩
        have e2 := congrArg List.tail e1
        rw [List.tail_drop, List.tail_cons] at e2
        exact e2.symm
      case measure =>
        obtain ⟨hx, hx2, h0, hels⟩ := HX.out
        have e1 := congrArg List.length (els_low h0 (rest_lt s n hs))
        rw [hels, List.length_drop, List.length_cons] at e1
        simp [intOf]
        unfold cnt at hk ⊢
        omega
theorem back_all (n : Int) (hn : 0 ≤ n ∧ n ≤ 18446744073709551615) (b : Int) (w : World) (ht : TzAt w) :
    Calls Tryd.prog 5 #[.int .u64 n, .int .i64 b] w fun e w' => e = .returned (.bool true) ∧ Below w.heap.size w w' := by
  obtain ⟨s, rfl⟩ : ∃ s : Nat, n = (s : Int) := ⟨n.toNat, by omega⟩
  exact back_any s (by omega) b w ht
end Go.Proofs.YtohgencmeloknaaDoor
