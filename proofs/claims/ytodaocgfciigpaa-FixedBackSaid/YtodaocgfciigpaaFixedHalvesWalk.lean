/-
  The walk of FixedHalves. Conditions: none.
-/
import Derived.Test.YtodaocgfciigpaaFixAwake
import Derived.Test.YtodaocgfciigpaaKitStep
namespace Go.Proofs.Ytodaocgfciigpaa
open Go.RowKit Fix

/-- Put, as a caller sees it -/
def Puts (n s e : Int) (l : List UInt8) : Prop := ∀ W, Calls Try.prog 8 #[.int .i64 n, .int .i64 s] W fun e' w' =>
  ∃ A c, e' = .returned (.tuple #[.slice A l.length c, .int .i64 e]) ∧ l.length ≤ c ∧ BytesAt w' w'.heap.size A l ∧ Below W.heap.size W w'
theorem puts_of (n s : Int) (hn : n ≤ 9223372036854775807) : Puts n s (putE n s) (putB n s) := fun W => put_any n s W hn
theorem BlkB.own {w : World} {g base : Nat} {l : List UInt8} (h : BlkB w g l) (hg : base ≤ g) (n : Nat) (hn : l.length = n) (hm : n ≤ 1000) : OwnB w base (.slice (some ⟨g, 0, none⟩) n n) l := by
  subst hn
  refine ⟨by rw [cellsOfBytes_length, Nat.mul_one], .inr ⟨g, l.length, (cellsOfBytes l).toArray, rfl, hg, h, Nat.le_refl _, by unfold maxLen; omega, by rw [List.size_toArray, cellsOfBytes_length, Nat.mul_one], ?_⟩⟩
  rw [List.toList_toArray, Nat.mul_one, List.take_of_length_le (by rw [cellsOfBytes_length]; exact Nat.le_refl _)]

theorem halves_bad (L : Nat) (n s m a b : Int) (la lb : List UInt8) (w : World) (hL : L < 18446744073709551616) (P1 : Puts n s a la) (P2 : Puts n m b lb)
    (h : (a = 2 ∨ a = 5) ∨ (a = 0 ∧ b = 2) ∨ (a = 0 ∧ b = 5 ∧ m < s) ∨ (a = 0 ∧ b = 0 ∧ m < s)) :
    Calls Try.prog 6 #[.int .u64 (L : Int), .int .i64 n, .int .i64 s, .int .i64 m] w fun e w' => e = .returned (.bool true) ∧ Below w.heap.size w w' := by
  have e1 : IntKind.u32.wrap (L : Int) = ((L % 4294967296 : Nat) : Int) := by rw [IntKind.wrap_u32]; omega
  have e2 : IntKind.u32.wrap ((L : Int) / 4294967296) = ((L / 4294967296 : Nat) : Int) := by rw [IntKind.wrap_u32]; omega
  have hH := dig_halves L
  obtain ⟨M, hM⟩ : ∃ M, M = L % 4294967296 := ⟨_, rfl⟩
  obtain ⟨H, hHe⟩ : ∃ M, M = L / 4294967296 := ⟨_, rfl⟩
  have hM2 : M < 4294967296 := by omega
  have hH2 : H < 4294967296 := by omega
  rw [← hM] at e1
  rw [← hHe] at e2
  rw [← hM, ← hHe] at hH
  have HH := Lib.hid hH
  clear hM hHe hH
  have hd4 := dig_length M 4
  have hd5 := dig_length H 4
  have hd8 := dig_length L 8
  unfold Puts at P1 P2
  have hA : ∀ w1 w4 w5 w6 w7 : World, Below w.heap.size w w1 → Below w1.heap.size w1 w4 → Below w4.heap.size w4 w5 → Below w5.heap.size w5 w6 → Below w6.heap.size w6 w7 → Below w.heap.size w w7 :=
    fun w1 w4 w5 w6 w7 h1 h4 h5 h6 h7 => step_trans (step_trans (step_trans (step_trans h1 h4) h5) h6) h7
  rcases h with (rfl | rfl) | ⟨rfl, rfl⟩ | ⟨rfl, rfl, hms⟩ | ⟨rfl, rfl, hms⟩
  all_goals
    go_enter Try.func6, Try.ntmps6
    go_wp2_with (first
      | (go_at_call 16; refine (awake_any _).mono ?_; (rintro e w1 ⟨rfl, hB1⟩))
      | (go_at_call 10; first
        | ((with_reducible refine (word_any M hM2 _).mono ?_); (rintro e w2 ⟨g2, rfl, hg2, hb2, hB2⟩))
        | ((with_reducible refine (word_any H hH2 _).mono ?_); (rintro e w3 ⟨g3, rfl, hg3, hb3, hB3⟩)))
      | (at_builtin; refine wpList_appendB rfl (.tmp 18) (.tmp 22) 23 rfl rfl w1.heap.size _ (dig M 4) rfl ((hb2.step hB3).own hg2 4 hd4 (by decide)) (some ⟨g3, 0, none⟩) (dig H 4) 4 4 w3.heap.size rfl hd5 hb3.at_ (by rw [hd4, hd5]; decide) (step_trans hB2 hB3).size ?_; (intro v4 w4 ho4 hg4 hat4; have hB4 : Below w1.heap.size w1 w4 := (step_trans hB2 hB3).grown hg4 (step_trans hB2 hB3).size (fun k hk => Nat.le_trans hg2 (Nat.le_of_eq (Option.some.inj hk))); rw [← HH.out] at ho4; obtain ⟨A4, c4, rfl, _⟩ := ho4.form; rw [hd8] at ho4 ⊢))
      | (go_at_call 11; refine (long_any L _).mono ?_; (rintro e w5 ⟨g5, rfl, _, hb5, hB5⟩; have S5 := same_yes (some ⟨g5, 0, none⟩) (dig L 8) 8 8 hd8 A4 (dig L 8) 8 c4 hd8 w5 hb5.at_ (ho4.bytes.step hB5) rfl))
      | (go_at_call 12; ((with_reducible refine S5.mono ?_); (rintro e w6 ⟨rfl, rfl⟩)))
      | (go_at_call 8; first
        | ((with_reducible refine (P1 _).mono ?_); (rintro e w6 ⟨A6, c6, rfl, hlc6, hb6, hB6⟩))
        | ((with_reducible refine (P2 _).mono ?_); (rintro e w7 ⟨A7, c7, rfl, hlc7, hb7, hB7⟩))))
    go_ret
    exact ⟨rfl, hA _ _ _ _ _ hB1 hB4 hB5 hB6 hB7⟩
theorem hA_ (w w1 w4 w5 w6 w7 : World) (h1 : Below w.heap.size w w1) (h4 : Below w1.heap.size w1 w4) (h5 : Below w4.heap.size w4 w5) (h6 : Below w5.heap.size w5 w6) (h7 : Below w6.heap.size w6 w7) : Below w.heap.size w w7 :=
  step_trans (step_trans (step_trans (step_trans h1 h4) h5) h6) h7
theorem halves_good (L : Nat) (n : Int) (N k j : Nat) (w : World) (hL : L < 18446744073709551616) (hk : k + j ≤ 7) (hN : N < 256 ^ k) (P1 : Puts n (k : Int) 0 (dig N k)) (P2 : Puts n ((k + j : Nat) : Int) 0 (dig N (k + j))) :
    Calls Try.prog 6 #[.int .u64 (L : Int), .int .i64 n, .int .i64 (k : Int), .int .i64 ((k + j : Nat) : Int)] w fun e w' => e = .returned (.bool true) ∧ Below w.heap.size w w' := by
  have e1 : IntKind.u32.wrap (L : Int) = ((L % 4294967296 : Nat) : Int) := by rw [IntKind.wrap_u32]; omega
  have e2 : IntKind.u32.wrap ((L : Int) / 4294967296) = ((L / 4294967296 : Nat) : Int) := by rw [IntKind.wrap_u32]; omega
  have hH := dig_halves L
  obtain ⟨M, hM⟩ : ∃ M, M = L % 4294967296 := ⟨_, rfl⟩
  obtain ⟨H, hHe⟩ : ∃ M, M = L / 4294967296 := ⟨_, rfl⟩
  have hM2 : M < 4294967296 := by omega
  have hH2 : H < 4294967296 := by omega
  rw [← hM] at e1
  rw [← hHe] at e2
  rw [← hM, ← hHe] at hH
  have HH := Lib.hid hH
  clear hM hHe hH
  have hd4 := dig_length M 4
  have hd5 := dig_length H 4
  have hd8 := dig_length L 8
  unfold Puts at P1 P2
  have hda := dig_length N k
  have hdb := dig_length N (k + j)
  have hdt := dig_take N k (k + j) (by omega)
  have hdz := dig_zeros N k j hN
  rw [hda] at P1
  rw [hdb] at P2
  obtain ⟨m, hm⟩ : ∃ m, m = k + j := ⟨_, rfl⟩
  rw [← hm] at P2 hdt hdz hdb ⊢
  have g1 : ¬ (m : Int) < (k : Int) := by omega
  have g2 : (m : Int) - (k : Int) = (j : Int) := by omega
  have hkm : k ≤ m := by omega
  have hmk := make_bytes j (by omega)
  clear hm
  go_enter Try.func6, Try.ntmps6
  go_wp2_with (first
    | (go_at_call 16; refine (awake_any _).mono ?_; (rintro e w1 ⟨rfl, hB1⟩))
    | (go_at_call 10; first
      | ((with_reducible refine (word_any M hM2 _).mono ?_); (rintro e w2 ⟨g2, rfl, hg2, hb2, hB2⟩))
      | ((with_reducible refine (word_any H hH2 _).mono ?_); (rintro e w3 ⟨g3, rfl, hg3, hb3, hB3⟩)))
    | (at_builtin; refine wpList_appendB rfl (.tmp 18) (.tmp 22) 23 rfl rfl w1.heap.size _ (dig M 4) rfl ((hb2.step hB3).own hg2 4 hd4 (by decide)) (some ⟨g3, 0, none⟩) (dig H 4) 4 4 w3.heap.size rfl hd5 hb3.at_ (by rw [hd4, hd5]; decide) (step_trans hB2 hB3).size ?_; (intro v4 w4 ho4 hg4 hat4; have hB4 : Below w1.heap.size w1 w4 := (step_trans hB2 hB3).grown hg4 (step_trans hB2 hB3).size (fun k hk => Nat.le_trans hg2 (Nat.le_of_eq (Option.some.inj hk))); rw [← HH.out] at ho4; obtain ⟨A4, c4, rfl, _⟩ := ho4.form; rw [hd8] at ho4 ⊢))
    | (go_at_call 11; refine (long_any L _).mono ?_; (rintro e w5 ⟨g5, rfl, _, hb5, hB5⟩; have S5 := same_yes (some ⟨g5, 0, none⟩) (dig L 8) 8 8 hd8 A4 (dig L 8) 8 c4 hd8 w5 hb5.at_ (ho4.bytes.step hB5) rfl))
    | (go_at_call 12; ((with_reducible refine S5.mono ?_); (rintro e w6 ⟨rfl, rfl⟩)))
    | (go_at_call 8; first
      | ((with_reducible refine (P1 _).mono ?_); (rintro e w6 ⟨A6, c6, rfl, hlc6, hb6, hB6⟩))
      | ((with_reducible refine (P2 _).mono ?_); (rintro e w7 ⟨A7, c7, rfl, hlc7, hb7, hB7⟩))))
  have hc7 : m ≤ c7 := by omega
  have ej : IntKind.i64.wrap (j : Int) = (j : Int) := IntWalk.i64_in _ (by omega)
  have hmj : m - k = j := by omega
  have q1 := cut_to A7 m c7 k (by omega)
  have q2 := cut_from A7 m c7 k hkm
  rw [hmj] at q2
  have hz7 : (dig N m).drop k = List.replicate j 0 := by rw [hdz, List.drop_left' hda]
  have hr1 : BytesAt w7.drew w7.drew.heap.size A7 (dig N k) := by have := hb7.take k; rwa [hdt] at this
  have hr2 : BytesAt w7.drew w7.drew.heap.size (cutA A7 k c7) (List.replicate j 0) := by have := hb7.drop k c7 (by omega); rwa [hz7] at this
  have hr6 : BytesAt w7.drew w7.drew.heap.size A6 (dig N k) := by have h := hb6.step hB7; exact h
  have S1 := same_yes A7 (dig N k) k c7 hda A6 (dig N k) k c6 hda w7.drew hr1 hr6 rfl
  have hmade : BytesAt (w7.drew.alloc (.cells (List.replicate j (Value.int .u8 0)).toArray 5)) (w7.drew.alloc (.cells (List.replicate j (Value.int .u8 0)).toArray 5)).heap.size (some ⟨w7.heap.size, 0, none⟩) (List.replicate j 0) := by
    have h := bytes_new_at w7.drew (List.replicate j 0) 5 (0, 0) w7.heap.size (w7.drew.heap.size + 1) rfl (Nat.lt_succ_self _)
    have e : cellsOfBytes (List.replicate j 0) = List.replicate j (Value.int .u8 0) := by simp [cellsOfBytes]
    rw [e] at h
    exact h.more (by simp)
  have S2 := same_yes (cutA A7 k c7) (List.replicate j 0) j (c7 - k) List.length_replicate (some ⟨w7.heap.size, 0, none⟩) (List.replicate j 0) j j List.length_replicate (w7.alloc (.cells (List.replicate j (Value.int .u8 0)).toArray 5)).drew (by have h := hr2.stepA (.cells (List.replicate j (Value.int .u8 0)).toArray 5); exact h) (by exact hmade) rfl
  have HB := Lib.hid (hA_ _ _ _ _ _ _ hB1 hB4 hB5 hB6 hB7)
  clear hB1 hB2 hB3 hB4 hB5 hB6 hB7 hb2 hb3 hb5 hb6 hb7 hr1 hr2 hr6 hmade hdt hdz hz7 hda hdb ho4 S5 P1 P2 hmj
  simp only [List.toArray_replicate] at S2
  go_region_held3 (fun w' => Below w7.heap.size w7 w') (first | assumption | exact (Below.refl _ _).drew | exact ((Below.refl _ _).alloc (Nat.le_refl _) _).drew) (first
    | (go_at_call 12; first
      | ((with_reducible refine S1.mono ?_); (rintro e w8 ⟨rfl, rfl⟩))
      | ((with_reducible refine S2.mono ?_); (rintro e w8 ⟨rfl, rfl⟩))))
  go_wp2
  go_ret
  exact ⟨rfl, step_trans HB.out ((Below.refl _ _).alloc (Nat.le_refl _) _).drew⟩
theorem putE_cases (n s : Int) : putE n s = 0 ∧ (isz s = true ∧ fitsB n s = true) ∨ putE n s = 5 ∧ (isz s = true ∧ fitsB n s = false) ∨ putE n s = 2 := by
  unfold putE
  cases isz s <;> cases fitsB n s <;> simp
theorem powInt (k : Nat) : (((256 : Nat) ^ k : Nat) : Int) = (256 : Int) ^ k := by rw [Int.natCast_pow]; rfl
theorem fits_more (n s m : Int) (h : fitsB n s = true) (hs : isz s = true) (hm : s ≤ m) : fitsB n m = true := by
  rw [fitsB_iff] at h ⊢
  rw [isz_iff] at hs
  refine ⟨h.1, ?_⟩
  have h1 : (256 : Nat) ^ s.toNat ≤ 256 ^ m.toNat := Nat.pow_le_pow_right (by decide) (by omega)
  have h2 : (((256 : Nat) ^ s.toNat : Nat) : Int) ≤ (((256 : Nat) ^ m.toNat : Nat) : Int) := Int.ofNat_le.2 h1
  rw [powInt, powInt] at h2
  exact Int.lt_of_lt_of_le h.2 h2
theorem halves_any (L n s m : Int) (hL : 0 ≤ L ∧ L ≤ 18446744073709551615) (hn : n ≤ 9223372036854775807) (w : World) :
    Calls Try.prog 6 #[.int .u64 L, .int .i64 n, .int .i64 s, .int .i64 m] w fun e w' => e = .returned (.bool true) ∧ Below w.heap.size w w' := by
  obtain ⟨l, rfl⟩ : ∃ l : Nat, L = (l : Int) := ⟨L.toNat, by omega⟩
  have P1 := puts_of n s hn
  have P2 := puts_of n m hn
  rcases putE_cases n s with ⟨ha, hs, hf⟩ | ⟨ha, _⟩ | ha
  · rcases putE_cases n m with ⟨hb, hs', _⟩ | ⟨hb, hs', hf'⟩ | hb
    · by_cases hms : m < s
      · exact halves_bad l n s m _ _ _ _ w (by omega) P1 P2 (.inr (.inr (.inr ⟨ha, hb, hms⟩)))
      · have hs1 := (isz_iff s).1 hs
        have hs2 := (isz_iff m).1 hs'
        have hf1 := (fitsB_iff n s).1 hf
        obtain ⟨k, rfl⟩ : ∃ k : Nat, s = (k : Int) := ⟨s.toNat, by omega⟩
        obtain ⟨j, rfl⟩ : ∃ j : Nat, m = ((k + j : Nat) : Int) := ⟨(m - k).toNat, by omega⟩
        obtain ⟨N, rfl⟩ : ∃ N : Nat, n = (N : Int) := ⟨n.toNat, by omega⟩
        have b1 := (putBE_good _ _ hs hf).1
        have b2 := (putBE_good _ _ hs' (fits_more _ _ _ hf hs (by omega))).1
        rw [ha, b1] at P1
        rw [hb, b2] at P2
        simp only [Int.toNat_natCast] at P1 P2 hf1
        exact halves_good l N N k j w (by omega) (by omega) (by have := hf1.2; rw [← powInt] at this; exact Int.ofNat_lt.1 this) P1 P2
    · by_cases hms : m < s
      · exact halves_bad l n s m _ _ _ _ w (by omega) P1 P2 (.inr (.inr (.inl ⟨ha, hb, hms⟩)))
      · have := fits_more n s m hf hs (by omega)
        rw [this] at hf'
        cases hf'
    · exact halves_bad l n s m _ _ _ _ w (by omega) P1 P2 (.inr (.inl ⟨ha, hb⟩))
  · exact halves_bad l n s m _ _ _ _ w (by omega) P1 P2 (.inl (.inr ha))
  · exact halves_bad l n s m _ _ _ _ w (by omega) P1 P2 (.inl (.inl ha))
end Go.Proofs.Ytodaocgfciigpaa
