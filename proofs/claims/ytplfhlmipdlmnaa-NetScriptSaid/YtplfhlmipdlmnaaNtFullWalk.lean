/-
  The walk of NetFull. Conditions: both numbers are 64 bits.
-/
import Derived.Test.YtplfhlmipdlmnaaNtAwake
import Derived.Test.YtplfhlmipdlmnaaBa
namespace Go.Proofs.Ytplfhlmipdlmnaa
open Go.RowKit Nt

def vFl : Value → Nat
  | .int _ q => q.toNat
  | _ => 0
theorem u8_of (i : Nat) : IntKind.u8.wrap (i : Int) = ((UInt8.ofNat i).toNat : Int) := by
  rw [UInt8.toNat_ofNat']
  simp only [IntKind.wrap, IntKind.bits, IntKind.signed]
  simp
/-- a net of whole links, of which i were sent over it -/
structure Fl (w0 w : World) (b i : Nat) (k : Nat) : Prop where
  nz : ∃ s, Nz w0 w b s (fun _ => False) ∧ s.way.length = k ∧ s.lost = i - 4096 ∧ (∀ j, s.down j = false)
section
variable {w0 w : World} {b i k : Nat}
set_option maxRecDepth 100000 in
theorem fl_send (h : Fl w0 w b i (min i 4096)) (x : UInt8) (X : Int) (hX : X = (x.toNat : Int)) (hi : i ≤ 10000) :
    Calls Try.prog 17 #[.pointer (some ⟨b, 0, none⟩), .int .i64 0, .int .i64 1, .slice (some ⟨w.heap.size, 0, none⟩) 1 1] (w.alloc (.cells #[.int .u8 X] 5)) fun e w' => e = .returned (.int .i64 0) ∧ Fl w0 w' b (i + 1) (min (i + 1) 4096) := by
  obtain ⟨s, h1, h2, h3, h4⟩ := h.nz
  refine (nz_one h1 0 1 x X hX (by omega) 0 _ rfl rfl).mono fun e w' ⟨k1, k2, k3⟩ => ⟨k1, ⟨_, k2, ?_, ?_, ?_⟩⟩
  all_goals rw [send_eq (show N.sendE 0 1 [x].length = 0 from rfl)]
  all_goals by_cases hf : s.way.length = 4096
  · rw [if_pos (.inr hf)]; show s.way.length = min (i + 1) 4096; omega
  · rw [if_neg (fun x => x.elim (fun y => by rw [h4] at y; cases y) hf)]; show (s.way ++ [_]).length = min (i + 1) 4096; rw [List.length_append, List.length_singleton]; omega
  · rw [if_pos (.inr hf)]; exact (by omega : s.lost + 1 = i + 1 - 4096)
  · rw [if_neg (fun x => x.elim (fun y => by rw [h4] at y; cases y) hf)]; exact (by omega : s.lost = i + 1 - 4096)
  · rw [if_pos (.inr hf)]; exact h4
  · rw [if_neg (fun x => x.elim (fun y => by rw [h4] at y; cases y) hf)]; exact h4
theorem fl_double (h : Fl w0 w b i k) (hk : 0 < k) (hk2 : k < 4096) : Calls Try.prog 18 #[.pointer (some ⟨b, 0, none⟩), .int .i64 0] w fun e w' => e = .returned (.int .i64 0) ∧ Fl w0 w' b i (k + 1) := by
  obtain ⟨s, h1, h2, h3, h4⟩ := h.nz
  have hh : s.has 0 = true := has_iff.2 ⟨by decide, by omega⟩
  have hE : s.doubleE 0 = 0 := by unfold N.doubleE; rw [hh, if_pos rfl, if_neg (by omega)]
  refine (nz_double h1 0 0 _ hE rfl).mono fun e w' ⟨k1, k2⟩ => ⟨k1, ⟨_, k2.1, ?_, ?_, ?_⟩⟩
  all_goals unfold N.double
  all_goals rw [hE, if_pos rfl]
  · show (s.way ++ _).length = _; rw [List.length_append, List.length_singleton]; omega
  · exact h3
  · exact h4
theorem fl_more (h : Fl w0 w b i 4096) : Calls Try.prog 18 #[.pointer (some ⟨b, 0, none⟩), .int .i64 0] w fun e w' => e = .returned (.int .i64 8) ∧ Fl w0 w' b i 4096 := by
  obtain ⟨s, h1, h2, h3, h4⟩ := h.nz
  have hh : s.has 0 = true := has_iff.2 ⟨by decide, by omega⟩
  have hE : s.doubleE 0 = 8 := by unfold N.doubleE; rw [hh, if_pos rfl, if_pos h2]
  refine (nz_double h1 0 8 _ hE rfl).mono fun e w' ⟨k1, k2⟩ => ⟨k1, ⟨_, k2.1, ?_, ?_, ?_⟩⟩
  all_goals unfold N.double
  all_goals rw [hE, if_neg (by decide)]
  · exact h2
  · exact h3
  · exact h4
end
set_option maxRecDepth 100000 in
set_option maxHeartbeats 4000000 in
theorem ntFull_any (x0 x1 : Int) (hx0 : -9223372036854775808 ≤ x0 ∧ x0 ≤ 9223372036854775807) (hx1 : -9223372036854775808 ≤ x1 ∧ x1 ≤ 9223372036854775807) (w : World) : Calls Try.prog 4 #[.int .i64 x0, .int .i64 x1] w fun en w' => en = .returned (.bool true) ∧ Below w.heap.size w w' := by
  have z0 := nz_new w w (Below.refl _ w)
  obtain ⟨n, hn⟩ := Int.eq_ofNat_of_zero_le (Int.emod_nonneg x0 (b := 4200) (by decide))
  obtain ⟨m, hm⟩ := Int.eq_ofNat_of_zero_le (Int.emod_nonneg x1 (b := 4200) (by decide))
  have hn2 := Int.emod_lt_of_pos x0 (b := 4200) (by decide)
  have hm2 := Int.emod_lt_of_pos x1 (b := 4200) (by decide)
  have zp0 := fun w => pick_any x0 4200 w hx0.1 hx0.2 (by decide) (by decide)
  have zp1 := fun w => pick_any x1 4200 w hx1.1 hx1.2 (by decide) (by decide)
  rw [hn] at zp0 hn2
  rw [hm] at zp1 hm2
  have HN := Lib.hid (And.intro hn2 hm2)
  obtain ⟨b, hb⟩ : ∃ b, b = w.heap.size := ⟨_, rfl⟩
  rw [← hb] at z0
  clear hn hm hn2 hm2 hx0 hx1 hb
  go_enter Try.func4, Try.ntmps4
  go_wp2_with (first
    | (go_at_call 9; refine z0.mono ?_; (rintro e w1 ⟨rfl, H1, _⟩; have H1 := Lib.hid (show Fl w w1 b 0 (min 0 4096) from ⟨_, H1, rfl, rfl, fun _ => rfl⟩)))
    | (go_at_call 16; first
      | ((with_reducible refine (zp0 w1).mono ?_); (rintro e w2 ⟨rfl, rfl⟩))
      | ((with_reducible refine (zp1 w1).mono ?_); (rintro e w2 ⟨rfl, rfl⟩))))
  clear z0 zp0 zp1
  go_loopw [6] (fun ix wr => ∃ i : Nat, ix = .int .i64 (i : Int) ∧ i ≤ n ∧ Fl w wr b i (min i 4096)) (fun ix _ => 4300 - vFl ix)
  case atStart => exact ⟨0, rfl, Nat.zero_le _, H1.out⟩
  case round =>
    obtain ⟨i, rfl, hi, inv⟩ := hrel
    by_cases hlt : i < n
    · have hlt' : (i : Int) < (n : Int) := by omega
      have hu := u8_of i
      obtain ⟨X, hX⟩ : ∃ X : Int, X = ((UInt8.ofNat i).toNat : Int) := ⟨_, rfl⟩
      rw [← hX] at hu
      have hw1 : IntKind.i64.wrap ((i : Int) + 1) = (i : Int) + 1 := IntWalk.i64_in _ (by have := HN.out; omega)
      have zs := fl_send inv (UInt8.ofNat i) X hX (by have := HN.out; omega)
      have HV := Lib.hid hlt
      clear inv hX hlt hi H1
      go_wp2_with (go_at_call 17; (with_reducible refine zs.mono ?_); (rintro e w2 ⟨rfl, H2⟩; have H2 := Lib.hid H2))
      go_roundw
      case rel => exact ⟨i + 1, by go_num, HV.out, H2.out⟩
      case measure => have := HV.out; have := HN.out; simp [vFl]; omega
    · obtain rfl : i = n := by omega
      have hii : ¬ (i : Int) < (i : Int) := by omega
      have HI := Lib.hid inv
      have hmin : min (i : Int) 4096 = ((min i 4096 : Nat) : Int) := by omega
      obtain ⟨K, hK⟩ : ∃ K, K = min i 4096 := ⟨_, rfl⟩
      obtain ⟨L, hL⟩ : ∃ L, L = i - 4096 := ⟨_, rfl⟩
      rw [← hK] at HI
      have hmn : ∀ ts t W, (Builtin.min_ ts t #[.int .i64 (i : Int), .int .i64 4096]).run Try.prog W = .ok (.int .i64 (K : Int)) W := fun ts t W => by
        rw [run_min_int2]
        congr 2
        split <;> omega
      have hmx : ∀ ts t W, (Builtin.max_ ts t #[.int .i64 0, .int .i64 ((i : Int) - 4096)]).run Try.prog W = .ok (.int .i64 (L : Int)) W := fun ts t W => by
        rw [run_max_int2]
        congr 2
        split <;> omega
      have hsb : IntKind.i64.wrap ((i : Int) - 4096) = (i : Int) - 4096 := IntWalk.i64_in _ (by have := HN.out; omega)
      have HK := Lib.hid (And.intro hK hL)
      clear inv hlt hi H1 hK hL hmin
      go_wp2
      go_loopw [7, 8] (fun my ix wr => ∃ (k j : Nat), my = .int .i64 (k : Int) ∧ ix = .int .i64 (j : Int) ∧ j ≤ m ∧ k ≤ 4096 ∧ Fl w wr b i k) (fun _ ix _ => 4300 - vFl ix)
      case atStart => exact ⟨K, 0, rfl, rfl, Nat.zero_le _, by have := HK.out; omega, HI.out⟩
      case round =>
        obtain ⟨k, j, rfl, rfl, hj, hk, inv⟩ := hrel
        clear HI
        by_cases hjm : j < m
        · have hjm' : (j : Int) < (m : Int) := by omega
          have hw1 : IntKind.i64.wrap ((j : Int) + 1) = (j : Int) + 1 := IntWalk.i64_in _ (by have := HN.out; omega)
          have hw2 : IntKind.i64.wrap ((k : Int) + 1) = (k : Int) + 1 := IntWalk.i64_in _ (by omega)
          by_cases hk0 : 0 < k
          · have hk0' : (0 : Int) < (k : Int) := by omega
            have HV := Lib.hid (And.intro hjm hk)
            by_cases hk6 : k < 4096
            · have hk6' : (k : Int) < 4096 := by omega
              have hk7 : decide ((k : Int) < 4096) = true := decide_eq_true hk6'
              have zd := fl_double inv hk0 hk6
              have H6 := Lib.hid hk6
              clear inv hj hjm hk hk0 hk6
              go_wp2_with (go_at_call 18; (with_reducible refine zd.mono ?_); (rintro e w2 ⟨rfl, H2⟩; have H2 := Lib.hid H2))
              exact ⟨⟨k + 1, j + 1, by go_num, by go_num, HV.out.1, by have := H6.out; omega, H2.out⟩, by have := HV.out.1; have := HN.out; simp [vFl]; omega⟩
            · obtain rfl : k = 4096 := by omega
              have zd := fl_more inv
              clear inv hj hjm hk hk0 hk6 hk0' hw2
              go_wp2_with (go_at_call 18; (with_reducible refine zd.mono ?_); (rintro e w2 ⟨rfl, H2⟩; have H2 := Lib.hid H2))
              exact ⟨⟨4096, j + 1, rfl, by go_num, HV.out.1, by decide, H2.out⟩, by have := HV.out.1; have := HN.out; simp [vFl]; omega⟩
          · have hk0' : ¬ (0 : Int) < (k : Int) := by omega
            have HC := Lib.hid inv
            have zc : Calls Try.prog 12 #[.pointer (some ⟨b, 0, none⟩)] wr fun e w' => e = .returned (.int .i64 (k : Int)) ∧ wr = w' := by
              obtain ⟨s, h1, h2, _⟩ := inv.nz
              exact nz_count h1 k h2
            have zl : Calls Try.prog 13 #[.pointer (some ⟨b, 0, none⟩)] wr fun e w' => e = .returned (.int .i64 (L : Int)) ∧ wr = w' := by
              obtain ⟨s, h1, _, h3, _⟩ := inv.nz
              exact nz_lost h1 L (by rw [HK.out.2]; exact h3)
            have BF : Hid (Below w.heap.size w wr) := Lib.hid (by obtain ⟨s, h1, _⟩ := inv.nz; exact h1.fr)
            have ekk : ((k : Int) == (k : Int)) = true := beq_self_eq_true _
            have ell : ((L : Int) == (L : Int)) = true := beq_self_eq_true _
            have za := ntAwake_any wr
            clear inv hj hjm hk hk0 hw1 hw2
            go_wp2_with (first
              | (go_at_call 12; (with_reducible refine zc.mono ?_); (rintro e w2 ⟨rfl, rfl⟩))
              | (go_at_call 13; (with_reducible refine zl.mono ?_); (rintro e w2 ⟨rfl, rfl⟩))
              | (go_at_call 10; (with_reducible refine za.mono ?_); (rintro e w2 ⟨rfl, B2⟩)))
            go_ret
            exact ⟨rfl, step_trans BF.out B2⟩
        · have hjm' : ¬ (j : Int) < (m : Int) := by omega
          have HC := Lib.hid inv
          have zc : Calls Try.prog 12 #[.pointer (some ⟨b, 0, none⟩)] wr fun e w' => e = .returned (.int .i64 (k : Int)) ∧ wr = w' := by
            obtain ⟨s, h1, h2, _⟩ := inv.nz
            exact nz_count h1 k h2
          have zl : Calls Try.prog 13 #[.pointer (some ⟨b, 0, none⟩)] wr fun e w' => e = .returned (.int .i64 (L : Int)) ∧ wr = w' := by
            obtain ⟨s, h1, _, h3, _⟩ := inv.nz
            exact nz_lost h1 L (by rw [HK.out.2]; exact h3)
          have BF : Hid (Below w.heap.size w wr) := Lib.hid (by obtain ⟨s, h1, _⟩ := inv.nz; exact h1.fr)
          have ekk : ((k : Int) == (k : Int)) = true := beq_self_eq_true _
          have ell : ((L : Int) == (L : Int)) = true := beq_self_eq_true _
          have za := ntAwake_any wr
          clear inv hj hjm hk
          go_wp2_with (first
            | (go_at_call 12; (with_reducible refine zc.mono ?_); (rintro e w2 ⟨rfl, rfl⟩))
            | (go_at_call 13; (with_reducible refine zl.mono ?_); (rintro e w2 ⟨rfl, rfl⟩))
            | (go_at_call 10; (with_reducible refine za.mono ?_); (rintro e w2 ⟨rfl, B2⟩)))
          go_ret
          exact ⟨rfl, step_trans BF.out B2⟩
end Go.Proofs.Ytplfhlmipdlmnaa
