/-
  The walk of BlockTurned. Conditions: the table of crc lies as the program's text lays it; the bytes can be read.
-/
import Derived.Test.YtmbloclkinghnaaDoorBkAwake
namespace Go.Proofs.YtmbloclkinghnaaDoor
open Go.RowKit Fix

namespace Slot
theorem dig_word (n : Nat) : Fix.dig n 4 = Crc.word n := by
  simp [Fix.dig, Crc.word, List.range, List.range.loop]
/-- all that is sealed has one checksum -/
theorem sum_seal (b : List UInt8) : Crc.sum (seal_ b) = 558161692 := by
  unfold seal_
  rw [dig_word]
  exact (Crc.sum_tail b (Crc.sum b) (Crc.sum_lt b)).2 rfl
end Slot
namespace Blk
theorem sum_right {a : Int} {b : List UInt8} (h : right a b = true) : Crc.sum b = 558161692 := by
  have e := ((right_iff a b).1 h).2.2
  rw [← e]
  exact Slot.sum_seal _
/-- bits turned within 32 in a row -/
theorem turned_bad (p : Int) (l k : List UInt8) (hl : Crc.sum l = 558161692) (hk : k.length = l.length) (f m : Nat) (hm : m ≠ 0) (hm2 : m < 4294967296) (hf : f + 32 ≤ 8 * l.length) (hn : Crc.num k = Crc.num l ^^^ (2 ^ f * m)) : right p k = false := by
  rw [← Bool.not_eq_true]
  intro h
  have e := sum_right h
  exact Crc.sum_burst l k hk.symm f m hm hm2 (by omega) hn (by rw [e, hl])
end Blk
set_option maxRecDepth 100000 in
theorem turned_skip (a n : Int) (A : Option Addr) (r : List UInt8) (c : Nat) (x : Int) (m : Nat) (w : World) (ht : TabAt w) (hr : BytesAt w w.heap.size A r) (h : Blk.bytesE a n r ≠ 0 ∨ Blk.bytesE a n r = 0 ∧ m = 0) :
    Calls Tryd.prog 6 #[.int .i64 a, .int .i64 n, .slice A r.length c, .int .i64 x, .int .u32 (m : Int)] w fun e w' => e = .returned (.bool true) ∧ Below w.heap.size w w' := by
  obtain ⟨p, hp⟩ : ∃ m, m = r.length := ⟨_, rfl⟩
  rw [← hp]
  have zb := fun w t h => blockBytes_any a n A r p c hp.symm w t h
  unfold BbPost at zb
  obtain ⟨be, hbe⟩ : ∃ x, x = Blk.bytesE a n r := ⟨_, rfl⟩
  rw [← hbe] at zb h
  clear hbe hp
  rcases h with h | ⟨rfl, rfl⟩
  · have hne : (be != 0) = true := by simpa using h
    clear h
    go_enter Tryd.func6, Tryd.ntmps6
    go_wp2_with (first
      | (go_at_call 17; refine (awake_any w ht).mono ?_; (rintro e w1 ⟨rfl, B1⟩; have t1 := ht.below B1 (Nat.le_refl _); have r1 := hr.step B1))
      | (go_at_call 10; ((with_reducible refine (zb w1 t1 r1).mono ?_); (rintro e w2 ⟨A2, c2, rfl, _, x2, B2⟩; have C2 := step_trans B1 B2))))
    go_ret
    exact ⟨rfl, C2⟩
  · go_enter Tryd.func6, Tryd.ntmps6
    go_wp2_with (first
      | (go_at_call 17; refine (awake_any w ht).mono ?_; (rintro e w1 ⟨rfl, B1⟩; have t1 := ht.below B1 (Nat.le_refl _); have r1 := hr.step B1))
      | (go_at_call 10; ((with_reducible refine (zb w1 t1 r1).mono ?_); (rintro e w2 ⟨A2, c2, rfl, _, x2, B2⟩; have C2 := step_trans B1 B2))))
    go_ret
    exact ⟨rfl, C2⟩
theorem cells_set_head (k T : List UInt8) (p : Nat) (x : UInt8) (hp : p < k.length) : (cellsOfBytes (k ++ T)).set p (.int .u8 (x.toNat : Int)) = cellsOfBytes (k.set p x ++ T) := by
  rw [← List.set_append_left _ _ hp]
  simp [cellsOfBytes, List.map_set]
set_option maxRecDepth 100000 in
set_option maxHeartbeats 1000000 in
theorem turned_go (a n : Nat) (A : Option Addr) (r : List UInt8) (c : Nat) (x : Int) (m : Nat) (w : World) (ht : TabAt w) (hr : BytesAt w w.heap.size A r) (hx : -9223372036854775808 ≤ x) (hx2 : x ≤ 9223372036854775807) (h3 : 1 ≤ m) (h4 : m < 4294967296)
    (hz : Blk.bytesE (a : Int) (n : Int) r = 0) :
    Calls Tryd.prog 6 #[.int .i64 (a : Int), .int .i64 (n : Int), .slice A r.length c, .int .i64 x, .int .u32 (m : Int)] w fun e w' => e = .returned (.bool true) ∧ Below w.heap.size w w' := by
  have h32 := ((Blk.bytesE_zero _ _ _).1 hz).2.2.2.2
  have hsl := Blk.sect_length a n r h32
  have hsum := Blk.sum_right (Blk.sect_right a n r hz)
  have zb := fun w t h => bkBytes_yes a n A r 32 c h32 hz w t h
  obtain ⟨s, hs⟩ : ∃ x, x = Blk.sect a n r := ⟨_, rfl⟩
  rw [← hs] at zb hsl hsum
  obtain ⟨f, hf⟩ : ∃ f : Nat, x % 481 = (f : Int) := ⟨(x % 481).toNat, by omega⟩
  have hf1 : f + 32 ≤ 512 := by omega
  have zp := fun w : World => pick_any x 481 w hx hx2 (by decide) (by decide)
  rw [hf] at zp
  have hm0 : ((m : Int) == 0) = false := by rw [beq_eq_false_iff_ne]; omega
  have HS := Lib.hid (And.intro hsl hsum)
  rw [h32]
  clear hs hz h32 hf hsl hsum hx hx2
  go_enter Tryd.func6, Tryd.ntmps6
  go_wp2_with (first
    | (go_at_call 17; refine (awake_any w ht).mono ?_; (rintro e w1 ⟨rfl, B1⟩; have t1 := ht.below B1 (Nat.le_refl _); have r1 := hr.step B1))
    | (go_at_call 10; ((with_reducible refine (zb w1 t1 r1).mono ?_); (rintro e w2 ⟨A2, c2, rfl, hc2, _, x2, B2⟩; obtain ⟨g, T, E, rfl, hg, hk, ec⟩ := x2.resolve_left (fun y => by have := congrArg List.length y.1; rw [HS.out.1] at this; exact absurd this (by decide)); clear ec)))
    | (go_at_call 19; refine (zp w2).mono ?_; (rintro e w3 ⟨rfl, rfl⟩)))
  clear hm0 zb zp
  have HC := Lib.hid (And.intro B1 (And.intro t1 hg))
  clear B1 t1 r1 hr ht
  go_loopw [14] (fun i wr => ∃ j : Nat, j ≤ 32 ∧ i = .int .i64 (j : Int) ∧ (∃ k : List UInt8, k.length = 64 ∧ BlkR E wr g (cellsOfBytes (k ++ List.replicate T 0)) ∧ Crc.num k = Crc.num s ^^^ (2 ^ f * (m % 2 ^ j))) ∧ Below w1.heap.size w1 wr) (fun i _ => 32 - (intOf i).toNat)
  case atStart => exact ⟨0, by omega, rfl, ⟨s, HS.out.1, hk, by simp [Nat.mod_one]⟩, B2⟩
  case round =>
    clear hk B2
    obtain ⟨j, hj, rfl, ⟨k, hkl, hok, hnum⟩, hbel⟩ := hrel
    have HN := Lib.hid (And.intro hkl (And.intro hnum hok))
    clear hkl hnum
    by_cases hj32 : j < 32
    · have hcast : ((m : Int) / 2 ^ j).tmod 2 = ((m / 2 ^ j % 2 : Nat) : Int) := by
        have e : ((m : Int) / 2 ^ j) = ((m / 2 ^ j : Nat) : Int) := by rw [Int.natCast_ediv, Int.natCast_pow]; rfl
        rw [e, Int.tmod_eq_emod_of_nonneg (Int.natCast_nonneg _)]
        rfl
      by_cases hbit : m / 2 ^ j % 2 = 1
      · have hbt : (((m : Int) / 2 ^ j).tmod 2 == 1) = true := by rw [hcast, hbit]; rfl
        have HB := Lib.hid hbit
        clear hcast hbit
        have p0 : (f + j) / 8 < 64 := by omega
        have hcell := hok.cell (cellsOfBytes_get (k ++ List.replicate T 0) ((f + j) / 8) (by rw [List.length_append, HN.out.1]; omega))
        rw [show (k ++ List.replicate T (0 : UInt8)).getD ((f + j) / 8) 0 = k.getD ((f + j) / 8) 0 by rw [List.getD_eq_getElem?_getD, List.getD_eq_getElem?_getD, List.getElem?_append_left (by rw [HN.out.1]; exact p0)]] at hcell
        have hfr := hok.frozen ((f + j) / 8)
        clear hok
        go_wp2
        go_region
        go_wp2
        go_roundw
        case rel =>
          obtain ⟨hkl, hnum, hok⟩ := HN.out
          have hlt : (k.getD ((f + j) / 8) 0).toNat < 256 := (k.getD ((f + j) / 8) 0).toNat_lt
          have hone : (2 : Int) ^ ((f + j) % 8) % 256 = ((Crc.oneBit (f + j)).toNat : Int) := by
            have h1 := Crc.oneBit_toNat (f + j)
            have h2 := (Crc.oneBit (f + j)).toNat_lt
            have h3 : (2 : Int) ^ ((f + j) % 8) = ((Crc.oneBit (f + j)).toNat : Int) := by rw [h1, Int.natCast_pow]; rfl
            rw [h3]
            omega
          have hv : bits .xor .u8 ((k[(f + j) / 8]?.getD 0).toNat : Int) ((2 : Int) ^ ((f + j) % 8) % 256) = ((k.getD ((f + j) / 8) 0 ^^^ Crc.oneBit (f + j)).toNat : Int) := by
            rw [hone, UInt8.toNat_xor, ← List.getD_eq_getElem?_getD]
            exact u8_xor_nat _ _ hlt (Crc.oneBit (f + j)).toNat_lt
          refine ⟨j + 1, by omega, by go_num, ⟨k.set ((f + j) / 8) (k.getD ((f + j) / 8) 0 ^^^ Crc.oneBit (f + j)), by rw [List.length_set]; exact hkl, ?_, ?_⟩, (hbel.setCell HC.out.2.2 _).drew⟩
          · rw [hv, ← cells_set_head k (List.replicate T 0) ((f + j) / 8) _ (by rw [hkl]; exact p0)]
            exact hok.set_ _ _
          · rw [Crc.num_turn k _ (by rw [hkl]; exact p0), hnum, Crc.mask_step _ _ _ _ HB.out]
        case measure => simp [intOf]; omega
      · have hbt : (((m : Int) / 2 ^ j).tmod 2 == 1) = false := by rw [hcast]; rw [beq_eq_false_iff_ne]; omega
        have HB := Lib.hid hbit
        clear hcast hbit
        go_wp2
        go_roundw
        case rel =>
          obtain ⟨hkl, hnum, hok⟩ := HN.out
          exact ⟨j + 1, by omega, by go_num, ⟨k, hkl, hok, by rw [hnum, Crc.mask_zero m j HB.out]⟩, hbel⟩
        case measure => simp [intOf]; omega
    · obtain rfl : j = 32 := by omega
      have hbad : Blk.right (a : Int) k = false := by
        obtain ⟨hkl, hnum, _⟩ := HN.out
        rw [Nat.mod_eq_of_lt (show m < 2 ^ 32 by omega)] at hnum
        exact Blk.turned_bad (a : Int) s k HS.out.2 (by rw [hkl, HS.out.1]) f m (by omega) h4 (by rw [HS.out.1]; exact hf1) hnum
      have hkb : BytesAt wr wr.heap.size (some ⟨g, 0, none⟩) k := by
        have := hok.cut 64
        rwa [List.take_left' HN.out.1] at this
      have tr := HC.out.2.1.below hbel (Nat.le_refl _)
      have zr := bkRead_no (a : Int) (some ⟨g, 0, none⟩) k 64 c2 HN.out.1 hc2 11 (Blk.readE_bad HN.out.1 hbad) hbad wr tr hkb
      clear hbad hkb hok
      go_wp2_with (go_at_call 12; ((with_reducible refine zr.mono ?_); (rintro e w6 ⟨A6, c6, rfl, B6⟩)))
      go_ret
      exact ⟨rfl, step_trans (HC.out.1.trans (hbel.mono HC.out.1.size)) B6⟩
theorem turned_any (a n : Int) (A : Option Addr) (r : List UInt8) (c : Nat) (x m : Int) (hx : -9223372036854775808 ≤ x ∧ x ≤ 9223372036854775807) (hm : 0 ≤ m ∧ m ≤ 4294967295) (w : World) (ht : TabAt w) (hr : BytesAt w w.heap.size A r) :
    Calls Tryd.prog 6 #[.int .i64 a, .int .i64 n, .slice A r.length c, .int .i64 x, .int .u32 m] w fun e w' => e = .returned (.bool true) ∧ Below w.heap.size w w' := by
  obtain ⟨m, rfl⟩ : ∃ k : Nat, m = (k : Int) := ⟨m.toNat, by omega⟩
  by_cases h1 : Blk.bytesE a n r = 0
  · by_cases h2 : m = 0
    · exact turned_skip a n A r c x m w ht hr (.inr ⟨h1, h2⟩)
    · obtain ⟨a1, a2, a3, _⟩ := (Blk.bytesE_zero _ _ _).1 h1
      obtain ⟨a, rfl⟩ : ∃ k : Nat, a = (k : Int) := ⟨a.toNat, by omega⟩
      obtain ⟨n, rfl⟩ : ∃ k : Nat, n = (k : Int) := ⟨n.toNat, by omega⟩
      exact turned_go a n A r c x m w ht hr hx.1 hx.2 (by omega) (by omega) h1
  · exact turned_skip a n A r c x m w ht hr (.inl h1)
end Go.Proofs.YtmbloclkinghnaaDoor
