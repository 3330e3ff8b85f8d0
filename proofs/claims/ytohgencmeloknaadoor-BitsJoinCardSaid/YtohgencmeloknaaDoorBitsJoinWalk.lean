/-
  The walk of BitsJoin. Conditions: the library's table lies as its text lays it; sets are words of 64 bits.
-/
import Derived.Test.YtohgencmeloknaaDoorBitsAny
namespace Go.Proofs.YtohgencmeloknaaDoor
open Go.RowKit Bits

theorem lo_nat (k : Nat) (hk : k ≤ 64) : lo (k : Int) = k := by unfold lo; omega
theorem within_num (s : Nat) (f : Int) (hs : s < 2 ^ 64) : (bits .andNot .u64 (s : Int) (ones (lo f) : Int) == 0) = inB s f := by
  rw [u64_andNot_nat s _ hs (ones_lt _ (lo_le f))]
  unfold inB rest full
  rw [Bool.eq_iff_iff]
  simp
theorem join_any (a b : Nat) (ha : a < 2 ^ 64) (hb : b < 2 ^ 64) (n : Int) (w : World) (ht : TzAt w) :
    Calls Tryd.prog 6 #[.int .u64 (a : Int), .int .u64 (b : Int), .int .i64 n] w fun e w' => e = .returned (.bool true) ∧ Below w.heap.size w w' := by
  have hca := cnt_le a
  have hcb := cnt_le b
  have hiv : ∀ s, (iv (ints s)).length = cnt s := fun s => by rw [iv_length, ints_length]
  have hab : a ||| b < 2 ^ 64 := Nat.or_lt_two_pow ha hb
  have hac : a &&& b < 2 ^ 64 := Nat.and_lt_two_pow _ hb
  have q1 : bits .or .u64 (a : Int) (b : Int) = ((a ||| b : Nat) : Int) := u64_or_nat a b ha hb
  have q2 : bits .and .u64 (a : Int) (b : Int) = ((a &&& b : Nat) : Int) := u64_and_nat a b ha hb
  have hj := cnt_join a b
  have hjo := ofl_join a b ha hb
  have hjok : ∀ x ∈ ints a ++ ints b, okb x = true := fun x hx => by
    rcases List.mem_append.1 hx with h | h
    · exact ints_ok a x h
    · exact ints_ok b x h
  obtain ⟨u, hu⟩ : ∃ u, u = a ||| b := ⟨_, rfl⟩
  obtain ⟨v, hv⟩ : ∃ v, v = a &&& b := ⟨_, rfl⟩
  rw [← hu] at hab q1 hj hjo
  rw [← hv] at hac q2 hj
  obtain ⟨cu, hcu⟩ : ∃ x, x = cnt u := ⟨_, rfl⟩
  obtain ⟨cv, hcv⟩ : ∃ x, x = cnt v := ⟨_, rfl⟩
  have hcu1 := cnt_le u
  have hcv1 := cnt_le v
  rw [← hcu] at hj hcu1
  rw [← hcv] at hj hcv1
  have hsum : ((cu : Int) + (cv : Int) != (cnt a : Int) + (cnt b : Int)) = false := by simp; omega
  have HI := Lib.hid (And.intro hiv (And.intro hjok (And.intro hjo (And.intro hcu hcv))))
  clear hiv hjok hjo hu hv hcu hcv hj
  go_enter Tryd.func6, Tryd.ntmps6
  go_wp2_with (go_at_call 22; refine (awake_any _ ht).mono ?_; (rintro e w8 ⟨rfl, rfl⟩))
  refine (list_any a ha _ ht).mono ?_
  rintro e w1 ⟨A, c, rfl, hlc, hcm, hown, hb1⟩
  have ht1 := ht.below hb1 (Nat.le_refl _)
  go_wp2_with fail
  refine (list_any b hb _ ht1).mono ?_
  rintro e w2 ⟨A', c', rfl, hlc', hcm', hown', hb2⟩
  have hown2 := hown.below hb2 (Nat.le_refl _)
  have hrow' : RowAt w2 w2.heap.size A' (iv (ints b)) := hown'.row
  have hb02 := hb1.trans (hb2.mono hb1.size)
  go_wp2_with (at_builtin; refine wpList_appendR rfl (.tmp 15) (.tmp 17) elInts rfl w.heap.size _ (iv (ints a)) rfl hown2 A' (iv (ints b)) _ c' _ rfl (HI.out.1 b) hrow' (iv_one _) ?c2 ?c3 ?c4 ?c5; rotate_left 3; (intro v' w3 ho hg hat))
  · have hb3 : Below w.heap.size w w3 := grown_belowR hb02 hg hb02.size hown2 (Nat.le_refl _)
    rw [← iv_append] at ho
    obtain ⟨A3, c3, rfl, hl3, hm3⟩ := ho.form
    have hrow3 : RowAt w3 w3.heap.size A3 (iv (ints a ++ ints b)) := ho.row
    have hl : (ints a ++ ints b).length ≤ 1000000 := by rw [List.length_append, ints_length, ints_length]; omega
    have HO := Lib.hid (And.intro hown (And.intro hown' (And.intro hown2 (And.intro ho (And.intro hb1 (And.intro hb2 (And.intro hb02 hb3)))))))
    clear hown hown' hown2 ho hb1 hb2 hb02 hb3 hat hg ht1 hrow'
    go_wp2_with fail
    refine (of_good A3 (ints a ++ ints b) _ c3 _ (by rw [iv_length]) _ hl hrow3 HI.out.2.1).mono ?_
    rintro e w4 ⟨rfl, rfl⟩
    rw [HI.out.2.2.1]
    by_cases hn : 0 ≤ n ∧ n ≤ 64
    · obtain ⟨k, rfl⟩ : ∃ k : Nat, n = (k : Int) := ⟨n.toNat, by omega⟩
      have hk : k ≤ 64 := by omega
      have q3 := within_num a (k : Int) ha
      have e1 : cnt (ones (lo (k : Int))) = k := by rw [lo_nat k hk]; exact cnt_ones k hk
      have e2 : inB (ones (lo (k : Int))) (k : Int) = true := by
        unfold inB
        rw [lo_nat k hk, rest_ones k hk]; rfl
      have e3 := ones_lt (lo (k : Int)) (lo_le _)
      have HE := Lib.hid (And.intro e1 e2)
      clear e1 e2 hn
      go_wp2_with (first
        | (go_at_call 17; ((with_reducible refine (count_any u hab _).mono ?_); (rintro e w2 ⟨rfl, rfl⟩; rw [← HI.out.2.2.2.1])))
        | (go_at_call 17; ((with_reducible refine (count_any v hac _).mono ?_); (rintro e w2 ⟨rfl, rfl⟩; rw [← HI.out.2.2.2.2])))
        | (go_at_call 17; ((with_reducible refine (count_any a ha _).mono ?_); (rintro e w2 ⟨rfl, rfl⟩)))
        | (go_at_call 17; ((with_reducible refine (count_any b hb _).mono ?_); (rintro e w2 ⟨rfl, rfl⟩)))
        | (go_at_call 17; ((with_reducible refine (count_any _ e3 _).mono ?_); (rintro e w2 ⟨rfl, rfl⟩; rw [HE.out.1])))
        | (go_at_call 24; refine (all_in _ (by omega) (by omega) _).mono ?_; (rintro e w2 ⟨rfl, rfl⟩))
        | (go_at_call 20; ((with_reducible refine (within_any a _ ha _).mono ?_); (rintro e w2 ⟨rfl, rfl⟩)))
        | (go_at_call 20; ((with_reducible refine (within_any _ _ e3 _).mono ?_); (rintro e w2 ⟨rfl, rfl⟩; rw [HE.out.2]))))
      go_ret
      exact ⟨rfl, HO.out.2.2.2.2.2.2.2⟩
    · have hn' : n < 0 ∨ 64 < n := by omega
      have HN := Lib.hid hn'
      have hd : n < 0 ∨ (¬ n < 0 ∧ 64 < n) := by omega
      clear hn hn'
      rcases hd with hd | ⟨hd, hd2⟩
      all_goals
       go_wp2_with (first
         | (go_at_call 17; ((with_reducible refine (count_any u hab _).mono ?_); (rintro e w2 ⟨rfl, rfl⟩; rw [← HI.out.2.2.2.1])))
         | (go_at_call 17; ((with_reducible refine (count_any v hac _).mono ?_); (rintro e w2 ⟨rfl, rfl⟩; rw [← HI.out.2.2.2.2])))
         | (go_at_call 17; ((with_reducible refine (count_any a ha _).mono ?_); (rintro e w2 ⟨rfl, rfl⟩)))
         | (go_at_call 17; ((with_reducible refine (count_any b hb _).mono ?_); (rintro e w2 ⟨rfl, rfl⟩)))
         | (go_at_call 24; refine (all_out _ HN.out _).mono ?_; (rintro e w2 ⟨rfl, rfl⟩)))
       go_ret
       exact ⟨rfl, HO.out.2.2.2.2.2.2.2⟩
  case c2 => rw [HI.out.1, HI.out.1]; unfold maxLen; omega
  case c3 => rw [HI.out.1, HI.out.1]; omega
  case c4 => exact hb02.size
theorem join_all (m : Int) (hm : 0 ≤ m ∧ m ≤ 18446744073709551615) (k : Int) (hk : 0 ≤ k ∧ k ≤ 18446744073709551615) (n : Int) (w : World) (ht : TzAt w) :
    Calls Tryd.prog 6 #[.int .u64 m, .int .u64 k, .int .i64 n] w fun e w' => e = .returned (.bool true) ∧ Below w.heap.size w w' := by
  obtain ⟨a, rfl⟩ : ∃ a : Nat, m = (a : Int) := ⟨m.toNat, by omega⟩
  obtain ⟨b, rfl⟩ : ∃ b : Nat, k = (b : Int) := ⟨k.toNat, by omega⟩
  exact join_any a b (by omega) (by omega) n w ht
end Go.Proofs.YtohgencmeloknaaDoor
