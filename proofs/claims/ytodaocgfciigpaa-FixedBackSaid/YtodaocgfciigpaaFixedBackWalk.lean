/-
  The walk of FixedBack. Conditions: the bytes can be read, and are at most as many as the form's own reach.
-/
import Derived.Test.YtodaocgfciigpaaFixAwake
import Derived.Test.YtodaocgfciigpaaKitStep
import Derived.Test.YtodaocgfciigpaaKitFault
import Derived.Test.YtodaocgfciigpaaFixedHalvesWalk
namespace Go.Proofs.Ytodaocgfciigpaa
open Go.RowKit Fix

/-- what is put is got, wherever it stands -/
theorem got_put (la lb lz : List UInt8) (k : Nat) (hk : lb.length = k) :
    getN (la ++ lb ++ lz) (la.length : Int) k = le lb ∧ getP (la ++ lb ++ lz).length (la.length : Int) k = (la.length : Int) + k ∧ getE (la ++ lb ++ lz).length (la.length : Int) k = 0 ∧ getA (la ++ lb ++ lz).length (la.length : Int) k = 0 := by
  have hl : (la ++ lb ++ lz).length = la.length + k + lz.length := by simp [hk]; omega
  have h1 : inN (la ++ lb ++ lz).length (la.length : Int) k = true := by rw [inN_iff, hl]; omega
  have h2 : inR (la ++ lb ++ lz).length (la.length : Int) = true := by rw [inR_iff, hl]; omega
  have hd : ((la ++ lb ++ lz).drop la.length).take k = lb := by
    rw [List.append_assoc, List.drop_left, List.take_left' hk]
  unfold getN getP getE getA
  rw [if_pos h1, if_pos h1, if_pos h2, if_pos h2, if_pos h1, if_pos h1, Int.toNat_natCast, hd]
  exact ⟨rfl, rfl, rfl, rfl⟩

/-- CopyBytes, as a caller sees it; the reads of what was put -/
def Got (f : FuncId) (kind : IntKind) (rest : List Value) (l : List UInt8) (n : Nat) (x p e a : Int) : Prop :=
  ∀ (A : Option Addr) (c : Nat) (W : World), n ≤ c → BytesAt W W.heap.size A l → Calls Try.prog f (Value.slice A n c :: rest).toArray W fun e' w' => e' = .returned (.tuple #[.int kind x, .int .i64 p, flt e a]) ∧ Below W.heap.size W w'

theorem got_get (la lb lz : List UInt8) (k n : Nat) (hk : lb.length = k) (hz : isz (k : Int) = true) (hn : (la ++ lb ++ lz).length = n) (hn2 : n ≤ 1000) :
    Got 18 .i64 [.int .i64 (la.length : Int), .int .i64 (k : Int)] (la ++ lb ++ lz) n (le lb : Int) ((la.length : Int) + k) 0 0 := fun A c W hc hr => by
  subst hn
  have h := get_any A (la ++ lb ++ lz) c (la.length : Int) (k : Int) W hc (by omega) hr
  obtain ⟨h1, h2, h3, h4⟩ := got_put la lb lz k hk
  unfold getsN getsP getsE getsA at h
  rw [if_pos hz, if_pos hz, if_pos hz, if_pos hz, Int.toNat_natCast, h1, h2, h3, h4] at h
  exact h
theorem got_word (la lz : List UInt8) (M n : Nat) (hM : M < 4294967296) (hn : (la ++ dig M 4 ++ lz).length = n) (hn2 : n ≤ 1000) :
    Got 20 .u32 [.int .i64 (la.length : Int)] (la ++ dig M 4 ++ lz) n (M : Int) ((la.length : Int) + 4) 0 0 := fun A c W hc hr => by
  subst hn
  have h := getWord_any A (la ++ dig M 4 ++ lz) c (la.length : Int) W hc (by omega) hr
  obtain ⟨h1, h2, h3, h4⟩ := got_put la (dig M 4) lz 4 (dig_length M 4)
  rw [h1, h2, h3, h4, le_dig_self M 4 (by omega)] at h
  exact h
theorem got_long (la lz : List UInt8) (M n : Nat) (hM : M < 18446744073709551616) (hn : (la ++ dig M 8 ++ lz).length = n) (hn2 : n ≤ 1000) :
    Got 22 .u64 [.int .i64 (la.length : Int)] (la ++ dig M 8 ++ lz) n (M : Int) ((la.length : Int) + 8) 0 0 := fun A c W hc hr => by
  subst hn
  have h := getLong_any A (la ++ dig M 8 ++ lz) c (la.length : Int) W hc (by omega) hr
  obtain ⟨h1, h2, h3, h4⟩ := got_put la (dig M 8) lz 8 (dig_length M 8)
  rw [h1, h2, h3, h4, le_dig_self M 8 (by omega)] at h
  exact h

set_option maxRecDepth 100000 in
theorem back_long (n s : Int) (L : Int) (A3 A4 : Option Addr) (la lz : List UInt8) (c3 c4 : Nat) (w : World) (h : 100 < la.length ∨ 100 < lz.length) :
    Calls Try.prog 5 #[.int .i64 n, .int .i64 s, .int .u64 L, .slice A3 la.length c3, .slice A4 lz.length c4] w fun e w' => e = .returned (.bool true) ∧ Below w.heap.size w w' := by
  by_cases h1 : 100 < la.length
  · have g1 : (100 : Int) < (la.length : Int) := by omega
    clear h
    go_enter Try.func5, Try.ntmps5
    go_wp2_with (go_at_call 16; (with_reducible refine (awake_any _).mono ?_); (rintro e w1 ⟨rfl, hB1⟩))
    go_ret
    exact ⟨rfl, hB1⟩
  · have g1 : ¬ (100 : Int) < (la.length : Int) := by omega
    have g2 : (100 : Int) < (lz.length : Int) := by omega
    clear h
    go_enter Try.func5, Try.ntmps5
    go_wp2_with (go_at_call 16; (with_reducible refine (awake_any _).mono ?_); (rintro e w1 ⟨rfl, hB1⟩))
    go_ret
    exact ⟨rfl, hB1⟩

set_option maxRecDepth 100000 in
theorem back_00 (n s : Int) (L : Nat) (A3 A4 : Option Addr) (la lb lz : List UInt8) (c3 c4 : Nat) (w : World) (hL : L < 18446744073709551616) (hla : la.length ≤ 100) (hlz : lz.length ≤ 100) (hra : BytesAt w w.heap.size A3 la) (hrz : BytesAt w w.heap.size A4 lz)
    (e0 : Int) (he0 : (e0 == 0) = false) (P1 : Puts n s e0 lb)
    (X p4 e4 f4 : Int) (he4 : (e4 != 0) = true) (P4 : ∀ (W : World), BytesAt W W.heap.size A4 lz → Calls Try.prog 18 #[.slice A4 lz.length c4, .int .i64 0, .int .i64 s] W fun e' w' => e' = .returned (.tuple #[.int .i64 X, .int .i64 p4, flt e4 f4]) ∧ Below W.heap.size W w') :
    Calls Try.prog 5 #[.int .i64 n, .int .i64 s, .int .u64 (L : Int), .slice A3 la.length c3, .slice A4 lz.length c4] w fun e w' => e = .returned (.bool true) ∧ Below w.heap.size w w' := by
  have e1 : IntKind.u32.wrap (L : Int) = ((L % 4294967296 : Nat) : Int) := by rw [IntKind.wrap_u32]; omega
  obtain ⟨M, hM⟩ : ∃ M, M = L % 4294967296 := ⟨_, rfl⟩
  have hM2 : M < 4294967296 := by omega
  rw [← hM] at e1
  clear hM
  have g1 : ¬ (100 : Int) < (la.length : Int) := by omega
  have g2 : ¬ (100 : Int) < (lz.length : Int) := by omega
  obtain ⟨N2, hN2⟩ : ∃ x, (la ++ dig M 4 ++ lz).length = x := ⟨_, rfl⟩
  obtain ⟨N3, hN3⟩ : ∃ x, (la ++ dig L 8 ++ lz).length = x := ⟨_, rfl⟩
  have hd4 := dig_length M 4
  have hd8 := dig_length L 8
  have G2 := got_word la lz M N2 hM2 hN2 (by rw [← hN2]; simp [hd4]; omega)
  have G3 := got_long la lz L N3 hL hN3 (by rw [← hN3]; simp [hd8]; omega)
  unfold Got at G2 G3
  unfold Puts at P1
  unfold flt at G2 G3 P4
  have j3 : la.length + (dig M 4).length ≤ 100000000 := by omega
  have j4 : (la ++ dig M 4).length + lz.length ≤ 100000000 := by simp [hd4]; omega
  have j5 : la.length + (dig L 8).length ≤ 100000000 := by omega
  have j6 : (la ++ dig L 8).length + lz.length ≤ 100000000 := by simp [hd8]; omega
  have j7 : la.length ≤ 1000000 := by omega
  replace j3 := Lib.hid j3
  replace j4 := Lib.hid j4
  replace j5 := Lib.hid j5
  replace j6 := Lib.hid j6
  replace j7 := Lib.hid j7
  replace hN2 := Lib.hid hN2
  replace hN3 := Lib.hid hN3
  replace hd4 := Lib.hid hd4
  replace hd8 := Lib.hid hd8
  go_enter Try.func5, Try.ntmps5
  go_wp2_with (first
    | (go_at_call 16; (with_reducible refine (awake_any w).mono ?_); (rintro e w1 ⟨rfl, hB1⟩; have ra1 := hra.step hB1; have rz1 := hrz.step hB1))
    | (go_at_call 8; (with_reducible refine (P1 w1).mono ?_); (rintro e w2 ⟨A2, c2, rfl, hlc2, hb2, hB2⟩; have ra2 := ra1.step hB2; have rz2 := rz1.step hB2))
    | (go_at_call 25; (with_reducible refine (copyBytes_any A3 la la.length c3 rfl w2 j7.out ra2).mono ?_); (rintro e w7 ⟨Ac7, cc7, rfl, ho7, hB7⟩))
    | (go_at_call 10; (with_reducible refine (word_any M hM2 w7).mono ?_); (rintro e w8 ⟨g8, rfl, _, hb8, hB8⟩; have ho8 := ho7.below hB8; have hB8' := step_trans hB7 hB8))
    | (at_builtin; refine wpList_appendB rfl (.tmp 85) (.tmp 88) 23 rfl rfl w2.heap.size _ la rfl ho8 (some ⟨g8, 0, none⟩) (dig M 4) 4 4 w8.heap.size rfl hd4.out hb8.at_ j3.out hB8'.size ?_; (intro v9 w9 ho9 hg9 hat9; have hB9 := hB8'.grown hg9 hB8'.size (fun j hj => (ho8.lt j hj).1)))
    | (at_builtin; refine wpList_appendB rfl (.tmp 89) (.tmp 90) 23 rfl rfl w2.heap.size _ (la ++ dig M 4) rfl ho9 A4 lz lz.length c4 w9.heap.size rfl rfl (rz2.step hB9) j4.out hB9.size ?_; (intro v10 w10 ho10 hg10 hat10; have hB10 := hB9.grown hg10 hB9.size (fun j hj => (ho9.lt j hj).1); obtain ⟨A10, c10, rfl, hlc10⟩ := ho10.form; rw [hN2.out] at ho10 hlc10 ⊢))
    | (go_at_call 20; (with_reducible refine (G2 A10 c10 w10 hlc10 ho10.bytes).mono ?_); (rintro e w11 ⟨rfl, hB11⟩; have hT : Below w2.heap.size w2 (w11.alloc (.cells #[.int .i64 0, .int .i64 0] 36)) := step_alloc (step_trans hB10 hB11) _; have raT := ra2.step hT; have rzT := rz2.step hT))
    | (go_at_call 25; (with_reducible refine (copyBytes_any A3 la la.length c3 rfl (w11.alloc (.cells #[.int .i64 0, .int .i64 0] 36)) j7.out raT).mono ?_); (rintro e w12 ⟨Ac12, cc12, rfl, ho12, hB12⟩))
    | (go_at_call 11; (with_reducible refine (long_any L w12).mono ?_); (rintro e w13 ⟨g13, rfl, _, hb13, hB13⟩; have ho13 := ho12.below hB13; have hB13' := step_trans hB12 hB13))
    | (at_builtin; refine wpList_appendB rfl (.tmp 99) (.tmp 101) 23 rfl rfl (w11.alloc (.cells #[.int .i64 0, .int .i64 0] 36)).heap.size _ la rfl ho13 (some ⟨g13, 0, none⟩) (dig L 8) 8 8 w13.heap.size rfl hd8.out hb13.at_ j5.out hB13'.size ?_; (intro v14 w14 ho14 hg14 hat14; have hB14 := hB13'.grown hg14 hB13'.size (fun j hj => (ho13.lt j hj).1)))
    | (at_builtin; refine wpList_appendB rfl (.tmp 102) (.tmp 103) 23 rfl rfl (w11.alloc (.cells #[.int .i64 0, .int .i64 0] 36)).heap.size _ (la ++ dig L 8) rfl ho14 A4 lz lz.length c4 w14.heap.size rfl rfl (rzT.step hB14) j6.out hB14.size ?_; (intro v15 w15 ho15 hg15 hat15; have hB15 := hB14.grown hg15 hB14.size (fun j hj => (ho14.lt j hj).1); obtain ⟨A15, c15, rfl, hlc15⟩ := ho15.form; rw [hN3.out] at ho15 hlc15 ⊢))
    | (go_at_call 22; (with_reducible refine (G3 A15 c15 w15 hlc15 ho15.bytes).mono ?_); (rintro e w16 ⟨rfl, hB16⟩; have hU : Below (w11.alloc (.cells #[.int .i64 0, .int .i64 0] 36)).heap.size (w11.alloc (.cells #[.int .i64 0, .int .i64 0] 36)) (w16.alloc (.cells #[.int .i64 0, .int .i64 0] 36)) := step_alloc (step_trans hB15 hB16) _; have raU := raT.step hU; have rzU := rzT.step hU; have k20 : (w16.alloc (.cells #[.int .i64 0, .int .i64 0] 36)).cell? ⟨w11.heap.size, 0, none⟩ = some (.int .i64 0) := ((FltAt.new w11 0 0).step hU).c0))
    | (go_at_call 18; (with_reducible refine (P4 (w16.alloc (.cells #[.int .i64 0, .int .i64 0] 36)) rzU).mono ?_); (rintro e w17 ⟨rfl, hB17⟩; have hV : Below (w16.alloc (.cells #[.int .i64 0, .int .i64 0] 36)).heap.size (w16.alloc (.cells #[.int .i64 0, .int .i64 0] 36)) (w17.alloc (.cells #[.int .i64 e4, .int .i64 f4] 36)) := step_alloc hB17 _)))
  go_ret
  exact ⟨rfl, step_trans (step_trans (step_trans (step_trans hB1 hB2) hT) hU) hV⟩
set_option maxRecDepth 100000 in
theorem back_01 (n : Int) (k L : Nat) (A3 A4 : Option Addr) (la lb lz : List UInt8) (c3 c4 : Nat) (w : World) (hL : L < 18446744073709551616) (hla : la.length ≤ 100) (hlz : lz.length ≤ 100) (hlc4 : lz.length ≤ c4) (hra : BytesAt w w.heap.size A3 la) (hrz : BytesAt w w.heap.size A4 lz)
    (e0 : Int) (he0 : (e0 == 0) = false) (P1 : Puts n (k : Int) e0 lb)
    (hkz : k ≤ lz.length) (X f4 : Int) (P4 : ∀ (W : World), BytesAt W W.heap.size A4 lz → Calls Try.prog 18 #[.slice A4 lz.length c4, .int .i64 0, .int .i64 (k : Int)] W fun e' w' => e' = .returned (.tuple #[.int .i64 X, .int .i64 (k : Int), flt 0 f4]) ∧ Below W.heap.size W w')
    (P5 : Puts X (k : Int) 0 (lz.take k)) :
    Calls Try.prog 5 #[.int .i64 n, .int .i64 (k : Int), .int .u64 (L : Int), .slice A3 la.length c3, .slice A4 lz.length c4] w fun e w' => e = .returned (.bool true) ∧ Below w.heap.size w w' := by
  have e1 : IntKind.u32.wrap (L : Int) = ((L % 4294967296 : Nat) : Int) := by rw [IntKind.wrap_u32]; omega
  obtain ⟨M, hM⟩ : ∃ M, M = L % 4294967296 := ⟨_, rfl⟩
  have hM2 : M < 4294967296 := by omega
  rw [← hM] at e1
  clear hM
  have g1 : ¬ (100 : Int) < (la.length : Int) := by omega
  have g2 : ¬ (100 : Int) < (lz.length : Int) := by omega
  obtain ⟨N2, hN2⟩ : ∃ x, (la ++ dig M 4 ++ lz).length = x := ⟨_, rfl⟩
  obtain ⟨N3, hN3⟩ : ∃ x, (la ++ dig L 8 ++ lz).length = x := ⟨_, rfl⟩
  have hd4 := dig_length M 4
  have hd8 := dig_length L 8
  have G2 := got_word la lz M N2 hM2 hN2 (by rw [← hN2]; simp [hd4]; omega)
  have G3 := got_long la lz L N3 hL hN3 (by rw [← hN3]; simp [hd8]; omega)
  unfold Got at G2 G3
  unfold Puts at P1 P5
  unfold flt at G2 G3 P4
  have ht5 : (lz.take k).length = k := by rw [List.length_take]; omega
  rw [ht5] at P5
  have q5 := cut_to A4 lz.length c4 k (by omega)
  have j3 : la.length + (dig M 4).length ≤ 100000000 := by omega
  have j4 : (la ++ dig M 4).length + lz.length ≤ 100000000 := by simp [hd4]; omega
  have j5 : la.length + (dig L 8).length ≤ 100000000 := by omega
  have j6 : (la ++ dig L 8).length + lz.length ≤ 100000000 := by simp [hd8]; omega
  have j7 : la.length ≤ 1000000 := by omega
  replace j3 := Lib.hid j3
  replace j4 := Lib.hid j4
  replace j5 := Lib.hid j5
  replace j6 := Lib.hid j6
  replace j7 := Lib.hid j7
  replace hN2 := Lib.hid hN2
  replace hN3 := Lib.hid hN3
  replace hd4 := Lib.hid hd4
  replace hd8 := Lib.hid hd8
  replace ht5 := Lib.hid ht5
  go_enter Try.func5, Try.ntmps5
  go_wp2_with (first
    | (go_at_call 16; (with_reducible refine (awake_any w).mono ?_); (rintro e w1 ⟨rfl, hB1⟩; have ra1 := hra.step hB1; have rz1 := hrz.step hB1))
    | (go_at_call 8; (with_reducible refine (P1 w1).mono ?_); (rintro e w2 ⟨A2, c2, rfl, hlc2, hb2, hB2⟩; have ra2 := ra1.step hB2; have rz2 := rz1.step hB2))
    | (go_at_call 25; (with_reducible refine (copyBytes_any A3 la la.length c3 rfl w2 j7.out ra2).mono ?_); (rintro e w7 ⟨Ac7, cc7, rfl, ho7, hB7⟩))
    | (go_at_call 10; (with_reducible refine (word_any M hM2 w7).mono ?_); (rintro e w8 ⟨g8, rfl, _, hb8, hB8⟩; have ho8 := ho7.below hB8; have hB8' := step_trans hB7 hB8))
    | (at_builtin; refine wpList_appendB rfl (.tmp 85) (.tmp 88) 23 rfl rfl w2.heap.size _ la rfl ho8 (some ⟨g8, 0, none⟩) (dig M 4) 4 4 w8.heap.size rfl hd4.out hb8.at_ j3.out hB8'.size ?_; (intro v9 w9 ho9 hg9 hat9; have hB9 := hB8'.grown hg9 hB8'.size (fun j hj => (ho8.lt j hj).1)))
    | (at_builtin; refine wpList_appendB rfl (.tmp 89) (.tmp 90) 23 rfl rfl w2.heap.size _ (la ++ dig M 4) rfl ho9 A4 lz lz.length c4 w9.heap.size rfl rfl (rz2.step hB9) j4.out hB9.size ?_; (intro v10 w10 ho10 hg10 hat10; have hB10 := hB9.grown hg10 hB9.size (fun j hj => (ho9.lt j hj).1); obtain ⟨A10, c10, rfl, hlc10⟩ := ho10.form; rw [hN2.out] at ho10 hlc10 ⊢))
    | (go_at_call 20; (with_reducible refine (G2 A10 c10 w10 hlc10 ho10.bytes).mono ?_); (rintro e w11 ⟨rfl, hB11⟩; have hT : Below w2.heap.size w2 (w11.alloc (.cells #[.int .i64 0, .int .i64 0] 36)) := step_alloc (step_trans hB10 hB11) _; have raT := ra2.step hT; have rzT := rz2.step hT))
    | (go_at_call 25; (with_reducible refine (copyBytes_any A3 la la.length c3 rfl (w11.alloc (.cells #[.int .i64 0, .int .i64 0] 36)) j7.out raT).mono ?_); (rintro e w12 ⟨Ac12, cc12, rfl, ho12, hB12⟩))
    | (go_at_call 11; (with_reducible refine (long_any L w12).mono ?_); (rintro e w13 ⟨g13, rfl, _, hb13, hB13⟩; have ho13 := ho12.below hB13; have hB13' := step_trans hB12 hB13))
    | (at_builtin; refine wpList_appendB rfl (.tmp 99) (.tmp 101) 23 rfl rfl (w11.alloc (.cells #[.int .i64 0, .int .i64 0] 36)).heap.size _ la rfl ho13 (some ⟨g13, 0, none⟩) (dig L 8) 8 8 w13.heap.size rfl hd8.out hb13.at_ j5.out hB13'.size ?_; (intro v14 w14 ho14 hg14 hat14; have hB14 := hB13'.grown hg14 hB13'.size (fun j hj => (ho13.lt j hj).1)))
    | (at_builtin; refine wpList_appendB rfl (.tmp 102) (.tmp 103) 23 rfl rfl (w11.alloc (.cells #[.int .i64 0, .int .i64 0] 36)).heap.size _ (la ++ dig L 8) rfl ho14 A4 lz lz.length c4 w14.heap.size rfl rfl (rzT.step hB14) j6.out hB14.size ?_; (intro v15 w15 ho15 hg15 hat15; have hB15 := hB14.grown hg15 hB14.size (fun j hj => (ho14.lt j hj).1); obtain ⟨A15, c15, rfl, hlc15⟩ := ho15.form; rw [hN3.out] at ho15 hlc15 ⊢))
    | (go_at_call 22; (with_reducible refine (G3 A15 c15 w15 hlc15 ho15.bytes).mono ?_); (rintro e w16 ⟨rfl, hB16⟩; have hU : Below (w11.alloc (.cells #[.int .i64 0, .int .i64 0] 36)).heap.size (w11.alloc (.cells #[.int .i64 0, .int .i64 0] 36)) (w16.alloc (.cells #[.int .i64 0, .int .i64 0] 36)) := step_alloc (step_trans hB15 hB16) _; have raU := raT.step hU; have rzU := rzT.step hU; have k20 : (w16.alloc (.cells #[.int .i64 0, .int .i64 0] 36)).cell? ⟨w11.heap.size, 0, none⟩ = some (.int .i64 0) := ((FltAt.new w11 0 0).step hU).c0))
    | (go_at_call 18; (with_reducible refine (P4 (w16.alloc (.cells #[.int .i64 0, .int .i64 0] 36)) rzU).mono ?_); (rintro e w17 ⟨rfl, hB17⟩; have hV : Below (w16.alloc (.cells #[.int .i64 0, .int .i64 0] 36)).heap.size (w16.alloc (.cells #[.int .i64 0, .int .i64 0] 36)) (w17.alloc (.cells #[.int .i64 0, .int .i64 f4] 36)) := step_alloc hB17 _; have rzV := rzU.step hV))
    | (go_at_call 8; (with_reducible refine (P5 (w17.alloc (.cells #[.int .i64 0, .int .i64 f4] 36))).mono ?_); (rintro e w18 ⟨A18, c18, rfl, hlc18, hb18, hB18⟩; have S9 := same_yes A18 (lz.take k) k c18 ht5.out A4 (lz.take k) k c4 ht5.out w18 hb18 ((rzV.step hB18).take k) rfl))
    | (go_at_call 12; ((with_reducible refine S9.mono ?_); (rintro e w19 ⟨rfl, rfl⟩))))
  go_ret
  exact ⟨rfl, step_trans (step_trans (step_trans (step_trans (step_trans hB1 hB2) hT) hU) hV) hB18⟩
set_option maxRecDepth 100000 in
theorem back_10 (N k L : Nat) (A3 A4 : Option Addr) (la lb lz : List UInt8) (c3 c4 : Nat) (w : World) (hL : L < 18446744073709551616) (hla : la.length ≤ 100) (hlz : lz.length ≤ 100) (hra : BytesAt w w.heap.size A3 la) (hrz : BytesAt w w.heap.size A4 lz)
    (hz : isz (k : Int) = true) (hlb : lb.length = k) (hle : le lb = N) (P1 : Puts (N : Int) (k : Int) 0 lb)
    (X p4 e4 f4 : Int) (he4 : (e4 != 0) = true) (P4 : ∀ (W : World), BytesAt W W.heap.size A4 lz → Calls Try.prog 18 #[.slice A4 lz.length c4, .int .i64 0, .int .i64 (k : Int)] W fun e' w' => e' = .returned (.tuple #[.int .i64 X, .int .i64 p4, flt e4 f4]) ∧ Below W.heap.size W w') :
    Calls Try.prog 5 #[.int .i64 (N : Int), .int .i64 (k : Int), .int .u64 (L : Int), .slice A3 la.length c3, .slice A4 lz.length c4] w fun e w' => e = .returned (.bool true) ∧ Below w.heap.size w w' := by
  have e1 : IntKind.u32.wrap (L : Int) = ((L % 4294967296 : Nat) : Int) := by rw [IntKind.wrap_u32]; omega
  obtain ⟨M, hM⟩ : ∃ M, M = L % 4294967296 := ⟨_, rfl⟩
  have hM2 : M < 4294967296 := by omega
  rw [← hM] at e1
  clear hM
  have g1 : ¬ (100 : Int) < (la.length : Int) := by omega
  have g2 : ¬ (100 : Int) < (lz.length : Int) := by omega
  have hk7 := (isz_iff (k : Int)).1 hz
  obtain ⟨N1, hN1⟩ : ∃ x, (la ++ lb ++ lz).length = x := ⟨_, rfl⟩
  have G1 := got_get la lb lz k N1 hlb hz hN1 (by rw [← hN1]; simp [hlb]; omega)
  rw [hle] at G1
  obtain ⟨N2, hN2⟩ : ∃ x, (la ++ dig M 4 ++ lz).length = x := ⟨_, rfl⟩
  obtain ⟨N3, hN3⟩ : ∃ x, (la ++ dig L 8 ++ lz).length = x := ⟨_, rfl⟩
  have hd4 := dig_length M 4
  have hd8 := dig_length L 8
  have G2 := got_word la lz M N2 hM2 hN2 (by rw [← hN2]; simp [hd4]; omega)
  have G3 := got_long la lz L N3 hL hN3 (by rw [← hN3]; simp [hd8]; omega)
  unfold Got at G1 G2 G3
  unfold Puts at P1
  unfold flt at G1 G2 G3 P4
  rw [hlb] at P1
  have j1 : la.length + lb.length ≤ 100000000 := by omega
  have j2 : (la ++ lb).length + lz.length ≤ 100000000 := by simp [hlb]; omega
  have j3 : la.length + (dig M 4).length ≤ 100000000 := by omega
  have j4 : (la ++ dig M 4).length + lz.length ≤ 100000000 := by simp [hd4]; omega
  have j5 : la.length + (dig L 8).length ≤ 100000000 := by omega
  have j6 : (la ++ dig L 8).length + lz.length ≤ 100000000 := by simp [hd8]; omega
  have j7 : la.length ≤ 1000000 := by omega
  replace j1 := Lib.hid j1
  replace j2 := Lib.hid j2
  replace j3 := Lib.hid j3
  replace j4 := Lib.hid j4
  replace j5 := Lib.hid j5
  replace j6 := Lib.hid j6
  replace j7 := Lib.hid j7
  replace hN1 := Lib.hid hN1
  replace hN2 := Lib.hid hN2
  replace hN3 := Lib.hid hN3
  replace hd4 := Lib.hid hd4
  replace hd8 := Lib.hid hd8
  replace hlb := Lib.hid hlb
  go_enter Try.func5, Try.ntmps5
  go_wp2_with (first
    | (go_at_call 16; (with_reducible refine (awake_any w).mono ?_); (rintro e w1 ⟨rfl, hB1⟩; have ra1 := hra.step hB1; have rz1 := hrz.step hB1))
    | (go_at_call 8; (with_reducible refine (P1 w1).mono ?_); (rintro e w2 ⟨A2, c2, rfl, hlc2, hb2, hB2⟩; have ra2 := ra1.step hB2; have rz2 := rz1.step hB2))
    | (go_at_call 25; (with_reducible refine (copyBytes_any A3 la la.length c3 rfl w2 j7.out ra2).mono ?_); (rintro e w3 ⟨Ac3, cc3, rfl, ho3, hB3⟩))
    | (at_builtin; refine wpList_appendB rfl (.tmp 51) (.tmp 52) 23 rfl rfl w2.heap.size _ la rfl ho3 A2 lb k c2 w3.heap.size rfl hlb.out (hb2.step hB3) j1.out hB3.size ?_; (intro v4 w4 ho4 hg4 hat4; have hB4 := hB3.grown hg4 hB3.size (fun j hj => (ho3.lt j hj).1)))
    | (at_builtin; refine wpList_appendB rfl (.tmp 53) (.tmp 54) 23 rfl rfl w2.heap.size _ (la ++ lb) rfl ho4 A4 lz lz.length c4 w4.heap.size rfl rfl (rz2.step hB4) j2.out hB4.size ?_; (intro v5 w5 ho5 hg5 hat5; have hB5 := hB4.grown hg5 hB4.size (fun j hj => (ho4.lt j hj).1); obtain ⟨A5, c5, rfl, hlc5⟩ := ho5.form; rw [hN1.out] at ho5 hlc5 ⊢))
    | (go_at_call 18; (with_reducible refine (G1 A5 c5 w5 hlc5 ho5.bytes).mono ?_); (rintro e w6 ⟨rfl, hB6⟩; have hS : Below w2.heap.size w2 (w6.alloc (.cells #[.int .i64 0, .int .i64 0] 36)) := step_alloc (step_trans hB5 hB6) _; have raS := ra2.step hS; have rzS := rz2.step hS))
    | (go_at_call 25; (with_reducible refine (copyBytes_any A3 la la.length c3 rfl (w6.alloc (.cells #[.int .i64 0, .int .i64 0] 36)) j7.out raS).mono ?_); (rintro e w7 ⟨Ac7, cc7, rfl, ho7, hB7⟩))
    | (go_at_call 10; (with_reducible refine (word_any M hM2 w7).mono ?_); (rintro e w8 ⟨g8, rfl, _, hb8, hB8⟩; have ho8 := ho7.below hB8; have hB8' := step_trans hB7 hB8))
    | (at_builtin; refine wpList_appendB rfl (.tmp 85) (.tmp 88) 23 rfl rfl (w6.alloc (.cells #[.int .i64 0, .int .i64 0] 36)).heap.size _ la rfl ho8 (some ⟨g8, 0, none⟩) (dig M 4) 4 4 w8.heap.size rfl hd4.out hb8.at_ j3.out hB8'.size ?_; (intro v9 w9 ho9 hg9 hat9; have hB9 := hB8'.grown hg9 hB8'.size (fun j hj => (ho8.lt j hj).1)))
    | (at_builtin; refine wpList_appendB rfl (.tmp 89) (.tmp 90) 23 rfl rfl (w6.alloc (.cells #[.int .i64 0, .int .i64 0] 36)).heap.size _ (la ++ dig M 4) rfl ho9 A4 lz lz.length c4 w9.heap.size rfl rfl (rzS.step hB9) j4.out hB9.size ?_; (intro v10 w10 ho10 hg10 hat10; have hB10 := hB9.grown hg10 hB9.size (fun j hj => (ho9.lt j hj).1); obtain ⟨A10, c10, rfl, hlc10⟩ := ho10.form; rw [hN2.out] at ho10 hlc10 ⊢))
    | (go_at_call 20; (with_reducible refine (G2 A10 c10 w10 hlc10 ho10.bytes).mono ?_); (rintro e w11 ⟨rfl, hB11⟩; have hT : Below (w6.alloc (.cells #[.int .i64 0, .int .i64 0] 36)).heap.size (w6.alloc (.cells #[.int .i64 0, .int .i64 0] 36)) (w11.alloc (.cells #[.int .i64 0, .int .i64 0] 36)) := step_alloc (step_trans hB10 hB11) _; have raT := raS.step hT; have rzT := rzS.step hT))
    | (go_at_call 25; (with_reducible refine (copyBytes_any A3 la la.length c3 rfl (w11.alloc (.cells #[.int .i64 0, .int .i64 0] 36)) j7.out raT).mono ?_); (rintro e w12 ⟨Ac12, cc12, rfl, ho12, hB12⟩))
    | (go_at_call 11; (with_reducible refine (long_any L w12).mono ?_); (rintro e w13 ⟨g13, rfl, _, hb13, hB13⟩; have ho13 := ho12.below hB13; have hB13' := step_trans hB12 hB13))
    | (at_builtin; refine wpList_appendB rfl (.tmp 99) (.tmp 101) 23 rfl rfl (w11.alloc (.cells #[.int .i64 0, .int .i64 0] 36)).heap.size _ la rfl ho13 (some ⟨g13, 0, none⟩) (dig L 8) 8 8 w13.heap.size rfl hd8.out hb13.at_ j5.out hB13'.size ?_; (intro v14 w14 ho14 hg14 hat14; have hB14 := hB13'.grown hg14 hB13'.size (fun j hj => (ho13.lt j hj).1)))
    | (at_builtin; refine wpList_appendB rfl (.tmp 102) (.tmp 103) 23 rfl rfl (w11.alloc (.cells #[.int .i64 0, .int .i64 0] 36)).heap.size _ (la ++ dig L 8) rfl ho14 A4 lz lz.length c4 w14.heap.size rfl rfl (rzT.step hB14) j6.out hB14.size ?_; (intro v15 w15 ho15 hg15 hat15; have hB15 := hB14.grown hg15 hB14.size (fun j hj => (ho14.lt j hj).1); obtain ⟨A15, c15, rfl, hlc15⟩ := ho15.form; rw [hN3.out] at ho15 hlc15 ⊢))
    | (go_at_call 22; (with_reducible refine (G3 A15 c15 w15 hlc15 ho15.bytes).mono ?_); (rintro e w16 ⟨rfl, hB16⟩; have hU : Below (w11.alloc (.cells #[.int .i64 0, .int .i64 0] 36)).heap.size (w11.alloc (.cells #[.int .i64 0, .int .i64 0] 36)) (w16.alloc (.cells #[.int .i64 0, .int .i64 0] 36)) := step_alloc (step_trans hB15 hB16) _; have raU := raT.step hU; have rzU := rzT.step hU; have k20 : (w16.alloc (.cells #[.int .i64 0, .int .i64 0] 36)).cell? ⟨w11.heap.size, 0, none⟩ = some (.int .i64 0) := ((FltAt.new w11 0 0).step hU).c0))
    | (go_at_call 18; (with_reducible refine (P4 (w16.alloc (.cells #[.int .i64 0, .int .i64 0] 36)) rzU).mono ?_); (rintro e w17 ⟨rfl, hB17⟩; have hV : Below (w16.alloc (.cells #[.int .i64 0, .int .i64 0] 36)).heap.size (w16.alloc (.cells #[.int .i64 0, .int .i64 0] 36)) (w17.alloc (.cells #[.int .i64 e4, .int .i64 f4] 36)) := step_alloc hB17 _)))
  go_ret
  exact ⟨rfl, step_trans (step_trans (step_trans (step_trans (step_trans hB1 hB2) hS) hT) hU) hV⟩
set_option maxRecDepth 100000 in
theorem back_11 (N k L : Nat) (A3 A4 : Option Addr) (la lb lz : List UInt8) (c3 c4 : Nat) (w : World) (hL : L < 18446744073709551616) (hla : la.length ≤ 100) (hlz : lz.length ≤ 100) (hlc4 : lz.length ≤ c4) (hra : BytesAt w w.heap.size A3 la) (hrz : BytesAt w w.heap.size A4 lz)
    (hz : isz (k : Int) = true) (hlb : lb.length = k) (hle : le lb = N) (P1 : Puts (N : Int) (k : Int) 0 lb)
    (hkz : k ≤ lz.length) (X f4 : Int) (P4 : ∀ (W : World), BytesAt W W.heap.size A4 lz → Calls Try.prog 18 #[.slice A4 lz.length c4, .int .i64 0, .int .i64 (k : Int)] W fun e' w' => e' = .returned (.tuple #[.int .i64 X, .int .i64 (k : Int), flt 0 f4]) ∧ Below W.heap.size W w')
    (P5 : Puts X (k : Int) 0 (lz.take k)) :
    Calls Try.prog 5 #[.int .i64 (N : Int), .int .i64 (k : Int), .int .u64 (L : Int), .slice A3 la.length c3, .slice A4 lz.length c4] w fun e w' => e = .returned (.bool true) ∧ Below w.heap.size w w' := by
  have e1 : IntKind.u32.wrap (L : Int) = ((L % 4294967296 : Nat) : Int) := by rw [IntKind.wrap_u32]; omega
  obtain ⟨M, hM⟩ : ∃ M, M = L % 4294967296 := ⟨_, rfl⟩
  have hM2 : M < 4294967296 := by omega
  rw [← hM] at e1
  clear hM
  have g1 : ¬ (100 : Int) < (la.length : Int) := by omega
  have g2 : ¬ (100 : Int) < (lz.length : Int) := by omega
  have hk7 := (isz_iff (k : Int)).1 hz
  obtain ⟨N1, hN1⟩ : ∃ x, (la ++ lb ++ lz).length = x := ⟨_, rfl⟩
  have G1 := got_get la lb lz k N1 hlb hz hN1 (by rw [← hN1]; simp [hlb]; omega)
  rw [hle] at G1
  obtain ⟨N2, hN2⟩ : ∃ x, (la ++ dig M 4 ++ lz).length = x := ⟨_, rfl⟩
  obtain ⟨N3, hN3⟩ : ∃ x, (la ++ dig L 8 ++ lz).length = x := ⟨_, rfl⟩
  have hd4 := dig_length M 4
  have hd8 := dig_length L 8
  have G2 := got_word la lz M N2 hM2 hN2 (by rw [← hN2]; simp [hd4]; omega)
  have G3 := got_long la lz L N3 hL hN3 (by rw [← hN3]; simp [hd8]; omega)
  unfold Got at G1 G2 G3
  unfold Puts at P1 P5
  unfold flt at G1 G2 G3 P4
  rw [hlb] at P1
  have j1 : la.length + lb.length ≤ 100000000 := by omega
  have j2 : (la ++ lb).length + lz.length ≤ 100000000 := by simp [hlb]; omega
  have ht5 : (lz.take k).length = k := by rw [List.length_take]; omega
  rw [ht5] at P5
  have q5 := cut_to A4 lz.length c4 k (by omega)
  have j3 : la.length + (dig M 4).length ≤ 100000000 := by omega
  have j4 : (la ++ dig M 4).length + lz.length ≤ 100000000 := by simp [hd4]; omega
  have j5 : la.length + (dig L 8).length ≤ 100000000 := by omega
  have j6 : (la ++ dig L 8).length + lz.length ≤ 100000000 := by simp [hd8]; omega
  have j7 : la.length ≤ 1000000 := by omega
  replace j1 := Lib.hid j1
  replace j2 := Lib.hid j2
  replace j3 := Lib.hid j3
  replace j4 := Lib.hid j4
  replace j5 := Lib.hid j5
  replace j6 := Lib.hid j6
  replace j7 := Lib.hid j7
  replace hN1 := Lib.hid hN1
  replace hN2 := Lib.hid hN2
  replace hN3 := Lib.hid hN3
  replace hd4 := Lib.hid hd4
  replace hd8 := Lib.hid hd8
  replace hlb := Lib.hid hlb
  replace ht5 := Lib.hid ht5
  go_enter Try.func5, Try.ntmps5
  go_wp2_with (first
    | (go_at_call 16; (with_reducible refine (awake_any w).mono ?_); (rintro e w1 ⟨rfl, hB1⟩; have ra1 := hra.step hB1; have rz1 := hrz.step hB1))
    | (go_at_call 8; (with_reducible refine (P1 w1).mono ?_); (rintro e w2 ⟨A2, c2, rfl, hlc2, hb2, hB2⟩; have ra2 := ra1.step hB2; have rz2 := rz1.step hB2))
    | (go_at_call 25; (with_reducible refine (copyBytes_any A3 la la.length c3 rfl w2 j7.out ra2).mono ?_); (rintro e w3 ⟨Ac3, cc3, rfl, ho3, hB3⟩))
    | (at_builtin; refine wpList_appendB rfl (.tmp 51) (.tmp 52) 23 rfl rfl w2.heap.size _ la rfl ho3 A2 lb k c2 w3.heap.size rfl hlb.out (hb2.step hB3) j1.out hB3.size ?_; (intro v4 w4 ho4 hg4 hat4; have hB4 := hB3.grown hg4 hB3.size (fun j hj => (ho3.lt j hj).1)))
    | (at_builtin; refine wpList_appendB rfl (.tmp 53) (.tmp 54) 23 rfl rfl w2.heap.size _ (la ++ lb) rfl ho4 A4 lz lz.length c4 w4.heap.size rfl rfl (rz2.step hB4) j2.out hB4.size ?_; (intro v5 w5 ho5 hg5 hat5; have hB5 := hB4.grown hg5 hB4.size (fun j hj => (ho4.lt j hj).1); obtain ⟨A5, c5, rfl, hlc5⟩ := ho5.form; rw [hN1.out] at ho5 hlc5 ⊢))
    | (go_at_call 18; (with_reducible refine (G1 A5 c5 w5 hlc5 ho5.bytes).mono ?_); (rintro e w6 ⟨rfl, hB6⟩; have hS : Below w2.heap.size w2 (w6.alloc (.cells #[.int .i64 0, .int .i64 0] 36)) := step_alloc (step_trans hB5 hB6) _; have raS := ra2.step hS; have rzS := rz2.step hS))
    | (go_at_call 25; (with_reducible refine (copyBytes_any A3 la la.length c3 rfl (w6.alloc (.cells #[.int .i64 0, .int .i64 0] 36)) j7.out raS).mono ?_); (rintro e w7 ⟨Ac7, cc7, rfl, ho7, hB7⟩))
    | (go_at_call 10; (with_reducible refine (word_any M hM2 w7).mono ?_); (rintro e w8 ⟨g8, rfl, _, hb8, hB8⟩; have ho8 := ho7.below hB8; have hB8' := step_trans hB7 hB8))
    | (at_builtin; refine wpList_appendB rfl (.tmp 85) (.tmp 88) 23 rfl rfl (w6.alloc (.cells #[.int .i64 0, .int .i64 0] 36)).heap.size _ la rfl ho8 (some ⟨g8, 0, none⟩) (dig M 4) 4 4 w8.heap.size rfl hd4.out hb8.at_ j3.out hB8'.size ?_; (intro v9 w9 ho9 hg9 hat9; have hB9 := hB8'.grown hg9 hB8'.size (fun j hj => (ho8.lt j hj).1)))
    | (at_builtin; refine wpList_appendB rfl (.tmp 89) (.tmp 90) 23 rfl rfl (w6.alloc (.cells #[.int .i64 0, .int .i64 0] 36)).heap.size _ (la ++ dig M 4) rfl ho9 A4 lz lz.length c4 w9.heap.size rfl rfl (rzS.step hB9) j4.out hB9.size ?_; (intro v10 w10 ho10 hg10 hat10; have hB10 := hB9.grown hg10 hB9.size (fun j hj => (ho9.lt j hj).1); obtain ⟨A10, c10, rfl, hlc10⟩ := ho10.form; rw [hN2.out] at ho10 hlc10 ⊢))
    | (go_at_call 20; (with_reducible refine (G2 A10 c10 w10 hlc10 ho10.bytes).mono ?_); (rintro e w11 ⟨rfl, hB11⟩; have hT : Below (w6.alloc (.cells #[.int .i64 0, .int .i64 0] 36)).heap.size (w6.alloc (.cells #[.int .i64 0, .int .i64 0] 36)) (w11.alloc (.cells #[.int .i64 0, .int .i64 0] 36)) := step_alloc (step_trans hB10 hB11) _; have raT := raS.step hT; have rzT := rzS.step hT))
    | (go_at_call 25; (with_reducible refine (copyBytes_any A3 la la.length c3 rfl (w11.alloc (.cells #[.int .i64 0, .int .i64 0] 36)) j7.out raT).mono ?_); (rintro e w12 ⟨Ac12, cc12, rfl, ho12, hB12⟩))
    | (go_at_call 11; (with_reducible refine (long_any L w12).mono ?_); (rintro e w13 ⟨g13, rfl, _, hb13, hB13⟩; have ho13 := ho12.below hB13; have hB13' := step_trans hB12 hB13))
    | (at_builtin; refine wpList_appendB rfl (.tmp 99) (.tmp 101) 23 rfl rfl (w11.alloc (.cells #[.int .i64 0, .int .i64 0] 36)).heap.size _ la rfl ho13 (some ⟨g13, 0, none⟩) (dig L 8) 8 8 w13.heap.size rfl hd8.out hb13.at_ j5.out hB13'.size ?_; (intro v14 w14 ho14 hg14 hat14; have hB14 := hB13'.grown hg14 hB13'.size (fun j hj => (ho13.lt j hj).1)))
    | (at_builtin; refine wpList_appendB rfl (.tmp 102) (.tmp 103) 23 rfl rfl (w11.alloc (.cells #[.int .i64 0, .int .i64 0] 36)).heap.size _ (la ++ dig L 8) rfl ho14 A4 lz lz.length c4 w14.heap.size rfl rfl (rzT.step hB14) j6.out hB14.size ?_; (intro v15 w15 ho15 hg15 hat15; have hB15 := hB14.grown hg15 hB14.size (fun j hj => (ho14.lt j hj).1); obtain ⟨A15, c15, rfl, hlc15⟩ := ho15.form; rw [hN3.out] at ho15 hlc15 ⊢))
    | (go_at_call 22; (with_reducible refine (G3 A15 c15 w15 hlc15 ho15.bytes).mono ?_); (rintro e w16 ⟨rfl, hB16⟩; have hU : Below (w11.alloc (.cells #[.int .i64 0, .int .i64 0] 36)).heap.size (w11.alloc (.cells #[.int .i64 0, .int .i64 0] 36)) (w16.alloc (.cells #[.int .i64 0, .int .i64 0] 36)) := step_alloc (step_trans hB15 hB16) _; have raU := raT.step hU; have rzU := rzT.step hU; have k20 : (w16.alloc (.cells #[.int .i64 0, .int .i64 0] 36)).cell? ⟨w11.heap.size, 0, none⟩ = some (.int .i64 0) := ((FltAt.new w11 0 0).step hU).c0))
    | (go_at_call 18; (with_reducible refine (P4 (w16.alloc (.cells #[.int .i64 0, .int .i64 0] 36)) rzU).mono ?_); (rintro e w17 ⟨rfl, hB17⟩; have hV : Below (w16.alloc (.cells #[.int .i64 0, .int .i64 0] 36)).heap.size (w16.alloc (.cells #[.int .i64 0, .int .i64 0] 36)) (w17.alloc (.cells #[.int .i64 0, .int .i64 f4] 36)) := step_alloc hB17 _; have rzV := rzU.step hV))
    | (go_at_call 8; (with_reducible refine (P5 (w17.alloc (.cells #[.int .i64 0, .int .i64 f4] 36))).mono ?_); (rintro e w18 ⟨A18, c18, rfl, hlc18, hb18, hB18⟩; have S9 := same_yes A18 (lz.take k) k c18 ht5.out A4 (lz.take k) k c4 ht5.out w18 hb18 ((rzV.step hB18).take k) rfl))
    | (go_at_call 12; ((with_reducible refine S9.mono ?_); (rintro e w19 ⟨rfl, rfl⟩))))
  go_ret
  exact ⟨rfl, step_trans (step_trans (step_trans (step_trans (step_trans (step_trans hB1 hB2) hS) hT) hU) hV) hB18⟩
theorem getsE_zero (l : List UInt8) (s : Int) (h : getsE l.length 0 s = 0) : isz s = true ∧ ∃ k : Nat, s = (k : Int) ∧ k ≤ l.length ∧ getsN l 0 s = le (l.take k) ∧ getsP l.length 0 s = (k : Int) := by
  unfold getsE getE at h
  cases hz : isz s with
  | false => rw [hz] at h; simp at h
  | true =>
    rw [hz, if_pos rfl] at h
    have h1 := (isz_iff s).1 hz
    obtain ⟨k, rfl⟩ : ∃ k : Nat, s = (k : Int) := ⟨s.toNat, by omega⟩
    have hr : inR l.length 0 = true := by rw [inR_iff]; omega
    rw [if_pos hr, Int.toNat_natCast] at h
    by_cases h2 : inN l.length 0 k = true
    · have h3 := (inN_iff _ _ _).1 h2
      refine ⟨rfl, k, rfl, by omega, ?_, ?_⟩
      · unfold getsN getN
        rw [if_pos hz, Int.toNat_natCast, if_pos h2]
        rfl
      · unfold getsP getP
        rw [if_pos hz, Int.toNat_natCast, if_pos h2]
        omega
    · rw [if_neg h2] at h
      simp at h
theorem back_any (n s L : Int) (A3 : Option Addr) (la : List UInt8) (c3 : Nat) (A4 : Option Addr) (lz : List UInt8) (c4 : Nat) (hn : n ≤ 9223372036854775807) (hL : 0 ≤ L ∧ L ≤ 18446744073709551615) (hlc4 : lz.length ≤ c4) (w : World)
    (hra : BytesAt w w.heap.size A3 la) (hrz : BytesAt w w.heap.size A4 lz) :
    Calls Try.prog 5 #[.int .i64 n, .int .i64 s, .int .u64 L, .slice A3 la.length c3, .slice A4 lz.length c4] w fun e w' => e = .returned (.bool true) ∧ Below w.heap.size w w' := by
  by_cases hlong : 100 < la.length ∨ 100 < lz.length
  · exact back_long n s L A3 A4 la lz c3 c4 w hlong
  have hla : la.length ≤ 100 := by omega
  have hlz : lz.length ≤ 100 := by omega
  obtain ⟨l, rfl⟩ : ∃ l : Nat, L = (l : Int) := ⟨L.toNat, by omega⟩
  have P1 := puts_of n s hn
  have P4 := fun (W : World) (hr : BytesAt W W.heap.size A4 lz) => get_any A4 lz c4 0 s W hlc4 (by omega) hr
  have hLl : l < 18446744073709551616 := by omega
  by_cases h4 : getsE lz.length 0 s = 0
  · obtain ⟨hz, k, rfl, hk, hN, hP⟩ := getsE_zero lz s h4
    have hX : le (lz.take k) < 256 ^ k := le_take_lt lz k hk
    have hk7 := (isz_iff (k : Int)).1 hz
    have hX7 := pow_le7 k (by omega)
    have P5 := puts_of (le (lz.take k) : Int) (k : Int) (by omega)
    have hf : fitsB (le (lz.take k) : Int) (k : Int) = true := by
      rw [fitsB_iff, Int.toNat_natCast, ← powInt]
      exact ⟨Int.natCast_nonneg _, Int.ofNat_lt.2 hX⟩
    obtain ⟨b1, b2⟩ := putBE_good _ _ hz hf
    have hd : dig (le (lz.take k)) k = lz.take k := by
      have h := dig_le (lz.take k)
      rwa [show (lz.take k).length = k by rw [List.length_take]; omega] at h
    rw [b1, b2, Int.toNat_natCast, Int.toNat_natCast, hd] at P5
    rw [h4, hN, hP] at P4
    rcases putE_cases n k with ⟨h1, _, hf1⟩ | ⟨h1, _⟩ | h1
    · have hf2 := (fitsB_iff _ _).1 hf1
      obtain ⟨N, rfl⟩ : ∃ N : Nat, n = (N : Int) := ⟨n.toNat, by omega⟩
      rw [h1, (putBE_good _ _ hz hf1).1, Int.toNat_natCast, Int.toNat_natCast] at P1
      rw [Int.toNat_natCast, ← powInt] at hf2
      exact back_11 N k l A3 A4 la (dig N k) lz c3 c4 w hLl hla hlz hlc4 hra hrz hz (dig_length _ _) (le_dig_self N k (Int.ofNat_lt.1 hf2.2)) P1 hk _ _ P4 P5
    · rw [h1] at P1
      exact back_01 n k l A3 A4 la _ lz c3 c4 w hLl hla hlz hlc4 hra hrz 5 rfl P1 hk _ _ P4 P5
    · rw [h1] at P1
      exact back_01 n k l A3 A4 la _ lz c3 c4 w hLl hla hlz hlc4 hra hrz 2 rfl P1 hk _ _ P4 P5
  · have he4 : (getsE lz.length 0 s != 0) = true := by rw [bne_iff_ne]; exact h4
    rcases putE_cases n s with ⟨h1, hz, hf1⟩ | ⟨h1, _⟩ | h1
    · have hk7 := (isz_iff s).1 hz
      have hf2 := (fitsB_iff _ _).1 hf1
      obtain ⟨k, rfl⟩ : ∃ k : Nat, s = (k : Int) := ⟨s.toNat, by omega⟩
      obtain ⟨N, rfl⟩ : ∃ N : Nat, n = (N : Int) := ⟨n.toNat, by omega⟩
      rw [h1, (putBE_good _ _ hz hf1).1, Int.toNat_natCast, Int.toNat_natCast] at P1
      rw [Int.toNat_natCast, ← powInt] at hf2
      exact back_10 N k l A3 A4 la (dig N k) lz c3 c4 w hLl hla hlz hra hrz hz (dig_length _ _) (le_dig_self N k (Int.ofNat_lt.1 hf2.2)) P1 _ _ _ _ he4 P4
    · rw [h1] at P1
      exact back_00 n s l A3 A4 la _ lz c3 c4 w hLl hla hlz hra hrz 5 rfl P1 _ _ _ _ he4 P4
    · rw [h1] at P1
      exact back_00 n s l A3 A4 la _ lz c3 c4 w hLl hla hlz hra hrz 2 rfl P1 _ _ _ _ he4 P4
end Go.Proofs.Ytodaocgfciigpaa
