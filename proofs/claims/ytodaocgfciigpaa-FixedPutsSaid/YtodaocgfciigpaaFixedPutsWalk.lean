/-
  The walk of FixedPuts. Conditions: none.
-/
import Derived.Test.YtodaocgfciigpaaFixAwake
import Derived.Test.YtodaocgfciigpaaKitStep
import Derived.Test.YtodaocgfciigpaaKitOver
namespace Go.Proofs.Ytodaocgfciigpaa
open Go.RowKit Fix

theorem puts_walk (n s : Int) (L : Nat) (w : World) (hn2 : n ≤ 9223372036854775807) (hL : L < 18446744073709551616) :
    Calls Try.prog 3 #[.int .i64 n, .int .i64 s, .int .u64 (L : Int)] w fun e w' => e = .returned (.bool true) ∧ Below w.heap.size w w' := by
  have e1 : IntKind.u32.wrap (L : Int) = ((L % 4294967296 : Nat) : Int) := by rw [IntKind.wrap_u32]; omega
  obtain ⟨M, hM⟩ : ∃ M, M = L % 4294967296 := ⟨_, rfl⟩
  have hM2 : M < 4294967296 := by omega
  rw [← hM] at e1
  clear hM
  obtain ⟨lb, hlb⟩ : ∃ x, x = putB n s := ⟨_, rfl⟩
  obtain ⟨le_, hle⟩ : ∃ x, x = putE n s := ⟨_, rfl⟩
  have P1 : ∀ W, Calls Try.prog 8 #[.int .i64 n, .int .i64 s] W fun e w' => ∃ A c, e = .returned (.tuple #[.slice A lb.length c, .int .i64 le_]) ∧ BytesAt w' w'.heap.size A lb ∧ Below W.heap.size W w' := fun W => by
    rw [hlb, hle]
    exact (put_any n s W hn2).mono fun e w' ⟨A, c, h1, _, h2, h3⟩ => ⟨A, c, h1, h2, h3⟩
  have P2 : ∀ W, Calls Try.prog 9 #[.int .i64 n, .int .i64 s] W fun e w' => ∃ A c, e = .returned (.tuple #[.slice A lb.length c, .int .i64 le_]) ∧ BytesAt w' w'.heap.size A lb ∧ Below W.heap.size W w' := fun W => by
    rw [hlb, hle]
    exact (refPut_any n s W hn2).mono fun e w' ⟨A, c, h1, _, h2, h3⟩ => ⟨A, c, h1, h2, h3⟩
  have hd4 := dig_length M 4
  have hd8 := dig_length L 8
  clear hlb hle
  go_enter Try.func3, Try.ntmps3
  go_wp2_with (first
    | (go_at_call 8; refine (P1 _).mono ?_; (rintro e w1 ⟨A1, c1, rfl, hb1, hB1⟩))
    | (go_at_call 9; refine (P2 _).mono ?_; (rintro e w2 ⟨A2, c2, rfl, hb2, hB2⟩))
    | (go_at_call 10; refine (word_any M hM2 _).mono ?_; (rintro e w3 ⟨g3, rfl, hg3, hb3, hB3⟩))
    | (go_at_call 11; refine (long_any L _).mono ?_; (rintro e w4 ⟨g4, rfl, hg4, hb4, hB4⟩; have S1 := same_yes A1 lb _ c1 rfl A2 lb _ c2 rfl w4 (((hb1.step hB2).step hB3).step hB4) ((hb2.step hB3).step hB4) rfl)))
  have h3 := hb3.step hB4
  go_wp2_with (first
    | (go_at_call 12; first
      | ((with_reducible refine S1.mono ?_); (rintro e w5 ⟨rfl, rfl⟩))
      | ((with_reducible refine S2.mono ?_); (rintro e w5 ⟨rfl, rfl⟩))
      | ((with_reducible refine S3.mono ?_); (rintro e w5 ⟨rfl, rfl⟩)))
    | (go_at_call 13; refine (refWord_any M hM2 _).mono ?_; (rintro e w5 ⟨A5, c5, rfl, _, ho5, hB5⟩; have S2 := same_yes (some ⟨g3, 0, none⟩) (dig M 4) 4 4 hd4 A5 (dig M 4) 4 c5 hd4 w5 (h3.step hB5).at_ ho5.bytes rfl))
    | (go_at_call 14; refine (refLong_any L hL _).mono ?_; (rintro e w6 ⟨A6, c6, rfl, _, ho6, hB6⟩; have S3 := same_yes (some ⟨g4, 0, none⟩) (dig L 8) 8 8 hd8 A6 (dig L 8) 8 c6 hd8 w6 ((hb4.step hB5).step hB6).at_ ho6.bytes rfl)))
  have hB06 := step_trans (step_trans (step_trans (step_trans (step_trans hB1 hB2) hB3) hB4) hB5) hB6
  have hg : w.heap.size ≤ g3 := Nat.le_trans (step_trans hB1 hB2).size hg3
  have hO := overBytes_any g3 (dig M 4) 4 hd4 (by decide) w6 ((h3.step hB5).step hB6)
  clear S1 S2 S3 P1 P2
  go_wp2_with (first
    | (go_at_call 15; refine hO.mono ?_; (rintro e w7 ⟨rfl, hB7⟩))
    | (go_at_call 10; refine (word_any M hM2 _).mono ?_; (rintro e w8 ⟨g8, rfl, hg8, hb8, hB8⟩))
    | (go_at_call 13; refine (refWord_any M hM2 _).mono ?_; (rintro e w9 ⟨A9, c9, rfl, _, ho9, hB9⟩; have S4 := same_yes (some ⟨g8, 0, none⟩) (dig M 4) 4 4 hd4 A9 (dig M 4) 4 c9 hd4 w9 (hb8.step hB9).at_ ho9.bytes rfl))
    | (go_at_call 12; ((with_reducible refine S4.mono ?_); (rintro e w5 ⟨rfl, rfl⟩)))
    | (go_at_call 16; refine (awake_any _).mono ?_; (rintro e w10 ⟨rfl, hB10⟩)))
  go_ret
  exact ⟨rfl, step_trans (step_trans (step_trans (hB06.trans (hB7.mono hg)) hB8) hB9) hB10⟩
theorem puts_any (n s L : Int) (hn : n ≤ 9223372036854775807) (hL : 0 ≤ L ∧ L ≤ 18446744073709551615) (w : World) :
    Calls Try.prog 3 #[.int .i64 n, .int .i64 s, .int .u64 L] w fun e w' => e = .returned (.bool true) ∧ Below w.heap.size w w' := by
  obtain ⟨m, rfl⟩ : ∃ m : Nat, L = (m : Int) := ⟨L.toNat, by omega⟩
  exact puts_walk n s m w hn (by omega)
end Go.Proofs.Ytodaocgfciigpaa
