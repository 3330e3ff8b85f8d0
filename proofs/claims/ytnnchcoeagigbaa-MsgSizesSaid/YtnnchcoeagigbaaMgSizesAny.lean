/-
  MsgSizes, whatever the message. Conditions: the bytes can be read.
-/
import Derived.Test.YtnnchcoeagigbaaMgSizesWalk
namespace Go.Proofs.Ytnnchcoeagigbaa
open Go.RowKit Mg

theorem sizes_any (m : M) (x : Int) (A : Option Addr) (c : Nat) (w : World) (hwf : Wf m) (hr : BytesAt w w.heap.size A m.data) :
    Calls Try.prog 7 #[mVal m A c, .int .i64 x] w fun e w' => e = .returned (.bool true) ∧ Below w.heap.size w w' := by
  rcases put_err (m := m) with ⟨_, _, hE⟩ | ⟨b1, p1, q1, hE⟩
  · exact sizes_no m x A c w hwf hr hE
  obtain ⟨g1, g2, g3, g4, g5, g6⟩ := put_back p1 hwf.2.2.2.2.2.2.2.2.2
  obtain ⟨k, hk⟩ : ∃ k : Nat, m.kind = (k : Int) := ⟨m.kind.toNat, by omega⟩
  rw [hk] at g4 g5 g6
  have hk1 : 1 ≤ k := by omega
  have hk2 : k ≤ 11 := by omega
  rw [sizes hk1 hk2] at g4
  obtain ⟨r, hr7, e1⟩ := and7 x
  have e3 : ((k : Int) + (r : Int)).tmod 11 = (((k + r) % 11 : Nat) : Int) := by
    rw [Int.tmod_eq_emod_of_nonneg (by omega)]
    omega
  have hq : (k + r) % 11 < 11 := Nat.mod_lt _ (by decide)
  obtain ⟨q, hqe⟩ : ∃ q, q = (k + r) % 11 := ⟨_, rfl⟩
  rw [← hqe] at e3 hq
  have e2 : IntKind.i64.wrap ((k : Int) + (r : Int)) = (k : Int) + (r : Int) := IntWalk.i64_in _ (by omega)
  have e4 : IntKind.i64.wrap (1 + (q : Int)) = ((q + 1 : Nat) : Int) := by
    rw [IntWalk.i64_in _ (by omega)]; omega
  obtain ⟨j, hj⟩ : ∃ j, j = q + 1 := ⟨_, rfl⟩
  rw [← hj] at e4
  have k1 : ¬ (k : Int) < 1 := by omega
  have k2 : ¬ (11 : Int) < (k : Int) := by omega
  have hmay := put_may p1
  have hsp : ((k : Int) = 7 ∨ (k : Int) = 8) ↔ May { m with seq := 7 } := by rw [← hk]; exact spare hmay
  have hbe : ∀ a b : Int, a ≠ b → (a == b) = false := fun a b h => by simpa using h
  have hsE : ∀ n : M, (May n → Mg.putE n = 0) ∧ (¬ May n → Mg.putE n = 2) := fun n => by
    refine ⟨fun h => ?_, fun h => ?_⟩
    · unfold Mg.putE; rw [may_put h]; rfl
    · rcases put_err (m := n) with ⟨_, _, hE⟩ | ⟨b, p, _⟩
      · exact hE
      · exact absurd (put_may p) h
  obtain ⟨l2, hl2⟩ : ∃ l, Mg.putB { m with kind := (j : Int) } = l := ⟨_, rfl⟩
  rcases put_err (m := { m with kind := (j : Int) }) with ⟨_, _, hF⟩ | ⟨b2, p2, q2, hF⟩
  · by_cases h7 : (k : Int) = 7
    · exact sizes_0_7 m x A c w hwf hr k r q j _ _ hk rfl rfl e1 e2 e3 e4 k1 k2 (by omega) (by omega) (by rw [h7]; rfl) b1 l2 _ q1 g4 hE hl2 rfl hF ((hsE _).1 (hsp.1 (.inl h7)))
    by_cases h8 : (k : Int) = 8
    · exact sizes_0_8 m x A c w hwf hr k r q j _ _ hk rfl rfl e1 e2 e3 e4 k1 k2 (by omega) (by omega) (hbe _ _ h7) (by rw [h8]; rfl) b1 l2 _ q1 g4 hE hl2 rfl hF ((hsE _).1 (hsp.1 (.inr h8)))
    · exact sizes_0_0 m x A c w hwf hr k r q j _ _ hk rfl rfl e1 e2 e3 e4 k1 k2 (by omega) (by omega) (hbe _ _ h7) (hbe _ _ h8) b1 l2 _ q1 g4 hE hl2 rfl hF ((hsE _).2 (fun h => (hsp.2 h).elim h7 h8))
  · have hwb : m.bits < 18446744073709551616 := hwf.2.2.2.2.2.2.2.2.2
    have f4 := (put_back p2 hwb).2.2.2.1
    have f4' : b2.length = 2 + psum (all (j : Int)) := f4
    rw [sizes (by omega) (by omega)] at f4'
    by_cases h7 : (k : Int) = 7
    · exact sizes_1_7 m x A c w hwf hr k r q j _ _ hk rfl rfl e1 e2 e3 e4 k1 k2 (by omega) (by omega) (by rw [h7]; rfl) b1 b2 q1 g4 hE q2 f4' hF ((hsE _).1 (hsp.1 (.inl h7)))
    by_cases h8 : (k : Int) = 8
    · exact sizes_1_8 m x A c w hwf hr k r q j _ _ hk rfl rfl e1 e2 e3 e4 k1 k2 (by omega) (by omega) (hbe _ _ h7) (by rw [h8]; rfl) b1 b2 q1 g4 hE q2 f4' hF ((hsE _).1 (hsp.1 (.inr h8)))
    · exact sizes_1_0 m x A c w hwf hr k r q j _ _ hk rfl rfl e1 e2 e3 e4 k1 k2 (by omega) (by omega) (hbe _ _ h7) (hbe _ _ h8) b1 b2 q1 g4 hE q2 f4' hF ((hsE _).2 (fun h => (hsp.2 h).elim h7 h8))

end Go.Proofs.Ytnnchcoeagigbaa
