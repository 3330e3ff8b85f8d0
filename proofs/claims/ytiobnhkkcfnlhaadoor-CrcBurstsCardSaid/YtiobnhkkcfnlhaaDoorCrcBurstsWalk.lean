/-
  The walk of CrcBursts. Conditions: the table lies as the program's text lays it; the bytes can be read.
-/
import Derived.Test.YtiobnhkkcfnlhaaDoorCrcWalk
import Derived.Test.YtiobnhkkcfnlhaaDoorKitOwn
namespace Go.Proofs.YtiobnhkkcfnlhaaDoor
open Go.RowKit

theorem bursts_none (A : Option Addr) (l : List UInt8) (c : Nat) (x : Int) (m : Nat) (w : World) (ht : TabAt w) (hl : l.length ≤ maxLen) (h : 5000 < l.length ∨ l.length < 4 ∨ m = 0) :
    Calls Tryd.prog 5 #[.slice A l.length c, .int .i64 x, .int .u32 (m : Int)] w fun e w' => e = .returned (.bool true) ∧ Below w.heap.size w w' := by
  unfold maxLen at hl
  by_cases h1 : 5000 < l.length
  · clear h
    go_enter Tryd.func5, Tryd.ntmps5
    go_wp2_with (go_at_call 16; refine (awake_any _ ht).mono ?_; rintro e w1 ⟨rfl, hb1⟩)
    go_ret
    exact ⟨rfl, hb1⟩
  · by_cases h2 : l.length < 4
    · clear h
      go_enter Tryd.func5, Tryd.ntmps5
      go_wp2_with (go_at_call 16; refine (awake_any _ ht).mono ?_; rintro e w1 ⟨rfl, hb1⟩)
      go_ret
      exact ⟨rfl, hb1⟩
    · obtain rfl : m = 0 := by omega
      clear h
      go_enter Tryd.func5, Tryd.ntmps5
      go_wp2_with (go_at_call 16; refine (awake_any _ ht).mono ?_; rintro e w1 ⟨rfl, hb1⟩)
      go_ret
      exact ⟨rfl, hb1⟩

theorem bursts_some (A : Option Addr) (l : List UInt8) (c : Nat) (x : Int) (m : Nat) (w : World) (ht : TabAt w) (hr : BytesAt w w.heap.size A l) (h1 : l.length ≤ 5000) (h2 : 4 ≤ l.length) (h3 : 1 ≤ m) (h4 : m < 4294967296)
    (hx : -9223372036854775808 ≤ x) (hx2 : x ≤ 9223372036854775807) :
    Calls Tryd.prog 5 #[.slice A l.length c, .int .i64 x, .int .u32 (m : Int)] w fun e w' => e = .returned (.bool true) ∧ Below w.heap.size w w' := by
  obtain ⟨f, hf⟩ : ∃ f : Nat, x % (8 * (l.length : Int) - 31) = (f : Int) := ⟨(x % (8 * (l.length : Int) - 31)).toNat, by have := Int.emod_nonneg x (b := 8 * (l.length : Int) - 31) (by omega); omega⟩
  have hf1 : f + 32 ≤ 8 * l.length := by have := Int.emod_lt_of_pos x (b := 8 * (l.length : Int) - 31) (by omega); omega
  have HF := Lib.hid hf
  clear hf
  have hd1 : decide (5000 < (l.length : Int)) = false := by simp; omega
  have hd2 : decide ((l.length : Int) < 4) = false := by simp; omega
  have hm0 : ((m : Int) == 0) = false := by rw [beq_eq_false_iff_ne]; omega
  go_enter Tryd.func5, Tryd.ntmps5
  go_wp2_with (first
    | (go_at_call 16; refine (awake_any _ ht).mono ?_; (rintro e w1 ⟨rfl, hb1⟩; have ht1 := ht.below hb1 (Nat.le_refl _); have hr1 := (hr.below hb1).more hb1.size))
    | (go_at_call 17; refine (pick_any x _ _ hx hx2 ?p1 ?p2).mono ?p3; rotate_left 2; (rintro e w' ⟨rfl, rfl⟩; rw [HF.out]))
    | (go_at_call 18; refine (copyBytes_any A l _ c rfl _ (by omega) hr1).mono ?_; (rintro e w2 ⟨A2, c2, rfl, ho2, hb2⟩)))
  · clear hd1 hd2 hm0
    obtain ⟨g, cap, hA, hgb, hgl⟩ := World.ownsRow.form ho2 (by omega)
    injection hA with e1 e2 e3
    subst e1
    subst e3
    clear e2
    go_loopw [9] (fun i wr => ∃ j : Nat, j ≤ 32 ∧ i = .int .i64 (j : Int) ∧ (∃ k : List UInt8, k.length = l.length ∧ OwnB wr w1.heap.size (.slice (some ⟨g, 0, none⟩) l.length c2) k ∧ Crc.num k = Crc.num l ^^^ (2 ^ f * (m % 2 ^ j))) ∧ Below w1.heap.size w1 wr) (fun i _ => 32 - (intOf i).toNat)
    case atStart => exact ⟨0, by omega, rfl, ⟨l, rfl, ho2, by simp [Nat.mod_one]⟩, hb2⟩
    case round =>
      obtain ⟨j, hj, rfl, ⟨k, hkl, hok, hnum⟩, hbel⟩ := hrel
      have hok2 : wr.ownsRow w1.heap.size 5 1 (.slice (some ⟨g, 0, none⟩) l.length c2) l.length (cellsOfBytes k) := by rw [← hkl]; rw [← hkl] at hok; exact hok
      have HN := Lib.hid (And.intro hkl hnum)
      clear hkl hnum
      by_cases hj32 : j < 32
      · have hcast : ((m : Int) / 2 ^ j).tmod 2 = ((m / 2 ^ j % 2 : Nat) : Int) := by
          have e : ((m : Int) / 2 ^ j) = ((m / 2 ^ j : Nat) : Int) := by rw [Int.natCast_ediv, Int.natCast_pow]; rfl
          rw [e, Int.tmod_eq_emod_of_nonneg (Int.natCast_nonneg _)]
          rfl
        by_cases hbit : m / 2 ^ j % 2 = 1
        · have hbt : (((m : Int) / 2 ^ j).tmod 2 == 1) = true := by rw [hcast, hbit]; rfl
          have HB := Lib.hid hbit
          clear hcast hbit
          have p0 : (f + j) / 8 < l.length := by omega
          have hcell := World.ownsRow.cellAt hok2 ((f + j) / 8) (by omega)
          rw [cellsOfBytes_get k _ (by have := HN.out.1; omega)] at hcell
          have hfr := World.ownsRow.frozenAt hok2 ((f + j) / 8)
          go_wp2
          go_region
          go_wp2
          go_roundw
          case rel =>
            obtain ⟨hkl, hnum⟩ := HN.out
            have hlt : (k.getD ((f + j) / 8) 0).toNat < 256 := (k.getD ((f + j) / 8) 0).toNat_lt
            have hone : (2 : Int) ^ ((f + j) % 8) % 256 = ((Crc.oneBit (f + j)).toNat : Int) := by
              have h1 := Crc.oneBit_toNat (f + j)
              have h2 := (Crc.oneBit (f + j)).toNat_lt
              have h3 : (2 : Int) ^ ((f + j) % 8) = ((Crc.oneBit (f + j)).toNat : Int) := by rw [h1, Int.natCast_pow]; rfl
              rw [h3]
              omega
            have hv : bits .xor .u8 ((k[(f + j) / 8]?.getD 0).toNat : Int) ((2 : Int) ^ ((f + j) % 8) % 256) = ((k.getD ((f + j) / 8) 0 ^^^ Crc.oneBit (f + j)).toNat : Int) := by
              rw [hone, UInt8.toNat_xor, ← List.getD_eq_getElem?_getD]
              exact u8_xor_nat _ _ hlt (Crc.oneBit (f + j)).toNat_lt
            refine ⟨j + 1, by omega, by go_num, ⟨k.set ((f + j) / 8) (k.getD ((f + j) / 8) 0 ^^^ Crc.oneBit (f + j)), by rw [List.length_set]; exact hkl, ?_, ?_⟩, (hbel.setCell hgb _).drew⟩
            · rw [hv]
              have hst := (World.ownsRow.stored hok2 ((f + j) / 8) (.int .u8 ((k.getD ((f + j) / 8) 0 ^^^ Crc.oneBit (f + j)).toNat : Int))).1
              have e : cellsOfBytes (k.set ((f + j) / 8) (k.getD ((f + j) / 8) 0 ^^^ Crc.oneBit (f + j))) = (cellsOfBytes k).set ((f + j) / 8) (.int .u8 ((k.getD ((f + j) / 8) 0 ^^^ Crc.oneBit (f + j)).toNat : Int)) := by simp [cellsOfBytes, List.map_set]
              unfold OwnB
              rw [e, List.length_set, hkl]
              exact hst
            · rw [Crc.num_turn k _ (by omega), hnum, Crc.mask_step _ _ _ _ HB.out]
          case measure => simp [intOf]; omega
        · have hbt : (((m : Int) / 2 ^ j).tmod 2 == 1) = false := by rw [hcast]; rw [beq_eq_false_iff_ne]; omega
          have HB := Lib.hid hbit
          clear hcast hbit
          go_wp2
          go_roundw
          case rel =>
            obtain ⟨hkl, hnum⟩ := HN.out
            exact ⟨j + 1, by omega, by go_num, ⟨k, hkl, hok, by rw [hnum, Crc.mask_zero m j HB.out]⟩, hbel⟩
          case measure => simp [intOf]; omega
      · obtain rfl : j = 32 := by omega
        have hne : Crc.sum k ≠ Crc.sum l := by
          obtain ⟨hkl, hnum⟩ := HN.out
          rw [Nat.mod_eq_of_lt (show m < 2 ^ 32 by omega)] at hnum
          exact Crc.sum_burst l k hkl.symm f m (by omega) h4 (by omega) hnum
        have hn1 : ((Crc.sum k : Int) != (Crc.sum l : Int)) = true := by rw [bne_iff_ne]; omega
        have hn2 : ((Crc.sum k : Int) == (Crc.sum l : Int)) = false := by rw [beq_eq_false_iff_ne]; omega
        have ht2 := ht1.below hbel (Nat.le_refl _)
        have hr2 := hr1.below hbel
        have hkb : BytesAt wr wr.heap.size (some ⟨g, 0, none⟩) k := hok.bytes
        have hkl := HN.out.1
        have z1 := sum_n (some ⟨g, 0, none⟩) k l.length c2 hkl _ wr ht2 (by omega) hkb
        have z2 := sum_n A l l.length c rfl _ wr ht2 (by omega) hr2
        have z3 := right_n (some ⟨g, 0, none⟩) k l.length c2 hkl _ (Crc.sum l) wr ht2 (by omega) hkb
        clear hkl hne hok2
        go_wp2_with (first
          | (go_at_call 11; first
            | ((with_reducible refine z1.mono ?_); (rintro e w6 ⟨rfl, rfl⟩))
            | ((with_reducible refine z2.mono ?_); (rintro e w6 ⟨rfl, rfl⟩)))
          | (go_at_call 14; ((with_reducible refine z3.mono ?_); (rintro e w6 ⟨rfl, rfl⟩))))
        go_ret
        exact ⟨rfl, hb1.trans (hbel.mono hb1.size)⟩
  case p1 => omega
  case p2 => omega

theorem bursts_any (A : Option Addr) (l : List UInt8) (c : Nat) (x n : Int) (hx : -9223372036854775808 ≤ x ∧ x ≤ 9223372036854775807) (hn : 0 ≤ n ∧ n ≤ 4294967295) (w : World) (ht : TabAt w) (hlc : l.length ≤ c) (hc : c ≤ maxLen) (hr : BytesAt w w.heap.size A l) :
    Calls Tryd.prog 5 #[.slice A l.length c, .int .i64 x, .int .u32 n] w fun e w' => e = .returned (.bool true) ∧ Below w.heap.size w w' := by
  obtain ⟨m, rfl⟩ : ∃ m : Nat, n = (m : Int) := ⟨n.toNat, by omega⟩
  by_cases h : 5000 < l.length ∨ l.length < 4 ∨ m = 0
  · exact bursts_none A l c x m w ht (Nat.le_trans hlc hc) h
  · exact bursts_some A l c x m w ht hr (by omega) (by omega) (by omega) (by omega) hx.1 hx.2
end Go.Proofs.YtiobnhkkcfnlhaaDoor
