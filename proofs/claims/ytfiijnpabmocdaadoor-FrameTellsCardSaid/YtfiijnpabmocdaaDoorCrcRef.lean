/-
  tandemref01.More, tandemref01.Sum: what they return. Conditions: the bytes can be read.
-/
import Derived.Test.YtfiijnpabmocdaaDoorCr
namespace Go.Proofs.YtfiijnpabmocdaaDoor
open Go.RowKit

theorem Crc.mvs_succ (j c : Nat) : Crc.mvs (j + 1) c = Crc.mv (Crc.mvs j c) := Crc.mvs_add j 1 c

theorem refMore_any (s : Nat) (hs : s < 4294967296) (A : Option Addr) (l : List UInt8) (c : Nat) (B : Nat) (w : World) (hl : l.length ≤ 1000000) (hr : BytesAt w B A l) :
    Calls Tryd.prog 34 #[.int .u32 (s : Int), .slice A l.length c] w fun e w' => e = .returned (.int .u32 (Crc.more s l : Int)) ∧ w = w' := by
  have hn : bits .xor .u32 (s : Int) 4294967295 = ((s ^^^ Crc.ones : Nat) : Int) := u32_xor_nat _ 4294967295 hs (by decide)
  have hs1 : s ^^^ Crc.ones < 4294967296 := Crc.x32 hs (by decide)
  go_enter Tryd.func34, Tryd.ntmps34
  go_wp2
  clear hn
  go_loop [5, 6] (fun r i => ∃ k : Nat, k ≤ l.length ∧ i = .int .i64 k ∧ r = .int .u32 (Crc.run (s ^^^ Crc.ones) (l.take k) : Nat)) (fun _ i => l.length - (intOf i).toNat)
  case atStart => exact ⟨0, Nat.zero_le _, rfl, rfl⟩
  case round =>
    obtain ⟨k, hk, rfl, rfl⟩ := hrel
    by_cases hlt : k < l.length
    · obtain ⟨d, hd⟩ : ∃ d, d = Crc.run (s ^^^ Crc.ones) (l.take k) := ⟨_, rfl⟩
      obtain ⟨x, hx⟩ : ∃ x, x = l.getD k 0 := ⟨_, rfl⟩
      obtain ⟨e, he⟩ : ∃ e, e = d ^^^ x.toNat := ⟨_, rfl⟩
      have hd1 : d < 4294967296 := by rw [hd]; exact Crc.run_lt hs1 (l.take k)
      have hx1 := x.toNat_lt
      have he1 : e < 4294967296 := by rw [he]; exact Crc.x32 hd1 (by omega)
      have q1 : bits .xor .u32 (d : Int) (x.toNat : Int) = (e : Int) := by rw [he]; exact u32_xor_nat _ _ hd1 (by omega)
      obtain ⟨ad, rfl, hb, hc⟩ := hr (by rintro rfl; simp at hlt)
      have hcell := hc k hlt
      rw [← hx] at hcell
      rw [← hd]
      have H := Lib.hid (And.intro hd (And.intro hx he))
      clear hc hr hd hx he
      go_wp2
      clear q1
      go_loop [5, 7] (fun r i => ∃ j : Nat, j ≤ 8 ∧ i = .int .i64 j ∧ r = .int .u32 (Crc.mvs j e : Nat)) (fun _ i => 8 - (intOf i).toNat)
      case atStart => exact ⟨0, Nat.zero_le _, rfl, rfl⟩
      case round =>
        obtain ⟨j, hj, rfl, rfl⟩ := hrel
        by_cases hj8 : j < 8
        · obtain ⟨f, hf⟩ : ∃ f, f = Crc.mvs j e := ⟨_, rfl⟩
          have hf1 : f < 4294967296 := by rw [hf]; exact Crc.mvs_lt j he1
          rw [← hf]
          have HF := Lib.hid hf
          clear hf
          by_cases hp : f % 2 = 1
          · obtain ⟨g, hg⟩ : ∃ g, g = Crc.mv f := ⟨_, rfl⟩
            have q2 : bits .xor .u32 ((f : Int) / 2) 3988292384 = (g : Int) := by
              rw [hg, Crc.mv, if_pos hp]; exact u32_xor_nat (f / 2) 3988292384 (by omega) (by decide)
            have HG := Lib.hid hg
            have hp2 : 1 ≤ f % 2 := by omega
            clear hg hp
            go_wp2
            clear q2
            go_round
            case rel => exact ⟨j + 1, by omega, by go_num, by rw [Crc.mvs_succ, ← HF.out, ← HG.out]⟩
            case measure => simp [intOf]; omega
          · have hp2 : f % 2 < 1 := by omega
            have HP := Lib.hid hp
            clear hp
            go_wp2
            go_round
            case rel => exact ⟨j + 1, by omega, by go_num, by rw [Crc.mvs_succ, ← HF.out, Crc.mv, if_neg HP.out]; go_num⟩
            case measure => simp [intOf]; omega
        · obtain rfl : j = 8 := by omega
          go_wp2
          go_round
          case rel =>
            obtain ⟨hd, hx, he⟩ := H.out
            refine ⟨k + 1, by omega, by go_num, ?_⟩
            have e1 : l.take (k + 1) = l.take k ++ [x] := by
              rw [List.take_succ_eq_append_getElem hlt, hx]; simp [hlt]
            rw [e1, Crc.run_snoc, ← hd, Crc.byteStep, ← he]
          case measure => simp [intOf]; omega
    · obtain rfl : k = l.length := by omega
      have hn : bits .xor .u32 (Crc.run (s ^^^ Crc.ones) l : Int) 4294967295 = ((Crc.run (s ^^^ Crc.ones) l ^^^ Crc.ones : Nat) : Int) := u32_xor_nat _ 4294967295 (Crc.run_lt hs1 l) (by decide)
      rw [List.take_length]
      go_wp2
      go_ret
      exact ⟨rfl, rfl⟩

theorem refSum_any (A : Option Addr) (l : List UInt8) (c : Nat) (B : Nat) (w : World) (hl : l.length ≤ 1000000) (hr : BytesAt w B A l) :
    Calls Tryd.prog 25 #[.slice A l.length c] w fun e w' => e = .returned (.int .u32 (Crc.sum l : Int)) ∧ w = w' := by
  go_enter Tryd.func25, Tryd.ntmps25
  go_wp2_with (go_at_call 34; refine (refMore_any 0 (by decide) A l c B _ hl hr).mono ?_; rintro e w' ⟨rfl, rfl⟩)
  go_ret
  exact ⟨rfl, rfl⟩
end Go.Proofs.YtfiijnpabmocdaaDoor
