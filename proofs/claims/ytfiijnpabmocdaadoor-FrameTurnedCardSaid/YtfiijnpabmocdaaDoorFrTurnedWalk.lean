/-
  The walk of FrameTurned. Conditions: the table of crc lies as the program's text lays it; the bytes can be read.
-/
import Derived.Test.YtfiijnpabmocdaaDoorFrAwake
import Derived.Test.YtfiijnpabmocdaaDoorBa
namespace Go.Proofs.YtfiijnpabmocdaaDoor
open Go.RowKit Fix

set_option maxRecDepth 100000 in
theorem frturned_skip (A : Option Addr) (r : List UInt8) (c : Nat) (x : Int) (m : Nat) (w : World) (ht : TabAt w) (hr : BytesAt w w.heap.size A r) (h : 200 < r.length ∨ r.length ≤ 200 ∧ m = 0) :
    Calls Tryd.prog 5 #[.slice A r.length c, .int .i64 x, .int .u32 (m : Int)] w fun e w' => e = .returned (.bool true) ∧ Below w.heap.size w w' := by
  obtain ⟨p, hp⟩ : ∃ m, m = r.length := ⟨_, rfl⟩
  rw [← hp] at h ⊢
  rcases h with h | ⟨h, rfl⟩
  · have zb := fun w : World => frput_long A r p c hp.symm w h
    unfold FrPutPost at zb
    rw [show Frm.putB r = [] by unfold Frm.putB; rw [if_neg (by omega)], show Frm.putE r = 3 by unfold Frm.putE; rw [if_neg (by omega)]] at zb
    clear hp h
    go_enter Tryd.func5, Tryd.ntmps5
    go_wp2_with (first
      | (go_at_call 15; refine (awake_any w ht).mono ?_; (rintro e w1 ⟨rfl, B1⟩))
      | (go_at_call 8; ((with_reducible refine (zb w1).mono ?_); (rintro e w2 ⟨A2, c2, rfl, _, x2, B2⟩; have C2 := step_trans B1 B2))))
    go_ret
    exact ⟨rfl, C2⟩
  · have zb := fun w t h' => frput_yes A r p c hp.symm h w t h'
    clear hp h
    go_enter Tryd.func5, Tryd.ntmps5
    go_wp2_with (first
      | (go_at_call 15; refine (awake_any w ht).mono ?_; (rintro e w1 ⟨rfl, B1⟩; have t1 := ht.below B1 (Nat.le_refl _); have r1 := hr.step B1))
      | (go_at_call 8; ((with_reducible refine (zb w1 t1 r1).mono ?_); (rintro e w2 ⟨A2, c2, rfl, hc2, _, x2, B2⟩; have C2 := step_trans B1 B2))))
    go_ret
    exact ⟨rfl, C2⟩
theorem cells_set_head (k T : List UInt8) (p : Nat) (x : UInt8) (hp : p < k.length) : (cellsOfBytes (k ++ T)).set p (.int .u8 (x.toNat : Int)) = cellsOfBytes (k.set p x ++ T) := by
  rw [← List.set_append_left _ _ hp]
  simp [cellsOfBytes, List.map_set]
theorem BlkR.cut {E : TypeId} {w : World} {g : Nat} {l : List UInt8} (h : BlkR E w g (cellsOfBytes l)) (k : Nat) : BytesAt w w.heap.size (some ⟨g, 0, none⟩) (l.take k) := fun hne => by
  refine ⟨_, rfl, h.lt, fun j hj => ?_⟩
  rw [addr_zero_add, h.cell (cellsOfBytes_get l j (by rw [List.length_take] at hj; omega))]
  rw [List.length_take] at hj
  simp [show j < k by omega]
theorem OwnZ.split {w : World} {base N c : Nat} {A : Option Addr} {s : List UInt8} (h : OwnZ w base (.slice A N c) s) (hN : s.length = N) (h0 : 0 < N) : ∃ g T, A = some ⟨g, 0, none⟩ ∧ base ≤ g ∧ BlkR 5 w g (cellsOfBytes (s ++ T)) := by
  rcases h with ⟨e, rfl⟩ | ⟨g, c', m, e, hg, hk, hm, ht, hl, hc⟩
  · simp at hN; omega
  · injection e with e1 e2 e3
    refine ⟨g, m.drop s.length, e1, hg, ?_⟩
    have e4 : s ++ m.drop s.length = m := by
      conv => lhs; rw [← ht]
      rw [show (m.take s.length).length = s.length by rw [List.length_take]; omega]
      exact List.take_append_drop _ _
    rw [e4]
    exact hk
set_option maxRecDepth 100000 in
set_option maxHeartbeats 1000000 in
theorem frturned_go (A : Option Addr) (r : List UInt8) (n c : Nat) (hn : r.length = n) (x : Int) (m : Nat) (w : World) (ht : TabAt w) (hr : BytesAt w w.heap.size A r) (hx : -9223372036854775808 ≤ x) (hx2 : x ≤ 9223372036854775807) (h3 : 1 ≤ m) (h4 : m < 4294967296)
    (hz : n ≤ 200) :
    Calls Tryd.prog 5 #[.slice A n c, .int .i64 x, .int .u32 (m : Int)] w fun e w' => e = .returned (.bool true) ∧ Below w.heap.size w w' := by
  have hsl : (Frm.enc r).length = n + 9 := by rw [Frm.enc_length, hn]
  have hsum := Frm.sum_right (Frm.get_put r (by omega)).1
  have zb := fun w t h => frput_yes A r n c hn hz w t h
  obtain ⟨s, hs⟩ : ∃ x, x = Frm.enc r := ⟨_, rfl⟩
  obtain ⟨N, hN⟩ : ∃ N, N = n + 9 := ⟨_, rfl⟩
  rw [← hs, ← hN] at zb
  rw [← hs, ← hN] at hsl
  rw [← hs] at hsum
  have hN9 : 9 ≤ N := by omega
  have hN2 : N ≤ 209 := by omega
  obtain ⟨f, hf⟩ : ∃ f : Nat, x % (8 * (N : Int) - 31) = (f : Int) := ⟨(x % (8 * (N : Int) - 31)).toNat, by have := Int.emod_nonneg x (b := 8 * (N : Int) - 31) (by omega); omega⟩
  have hf1 : f + 32 ≤ 8 * N := by have := Int.emod_lt_of_pos x (b := 8 * (N : Int) - 31) (by omega); omega
  have zp := fun w : World => pick_any x (8 * (N : Int) - 31) w hx hx2 (by omega) (by omega)
  rw [hf] at zp
  have hm0 : ((m : Int) == 0) = false := by rw [beq_eq_false_iff_ne]; omega
  have i9 : ¬ (N : Int) < 9 := by omega
  have e1 : IntKind.i64.wrap (8 * (N : Int)) = 8 * (N : Int) := IntWalk.i64_in _ (by omega)
  have e2 : IntKind.i64.wrap (8 * (N : Int) - 31) = 8 * (N : Int) - 31 := IntWalk.i64_in _ (by omega)
  have HS := Lib.hid (And.intro hsl hsum)
  clear hs hz hf hsl hsum hx hx2 hn hN
  go_enter Tryd.func5, Tryd.ntmps5
  go_wp2_with (first
    | (go_at_call 15; refine (awake_any w ht).mono ?_; (rintro e w1 ⟨rfl, B1⟩; have t1 := ht.below B1 (Nat.le_refl _); have r1 := hr.step B1))
    | (go_at_call 8; ((with_reducible refine (zb w1 t1 r1).mono ?_); (rintro e w2 ⟨A2, c2, rfl, hc2, _, x2, B2⟩; obtain ⟨g, T, rfl, hg, hk⟩ := x2.split HS.out.1 (by omega); clear x2)))
    | (go_at_call 16; refine (zp w2).mono ?_; (rintro e w3 ⟨rfl, rfl⟩)))
  clear hm0 zb zp e1 e2 i9
  have HC := Lib.hid (And.intro B1 (And.intro t1 hg))
  clear B1 t1 r1 hr ht
  go_loopw [10] (fun i wr => ∃ j : Nat, j ≤ 32 ∧ i = .int .i64 (j : Int) ∧ (∃ k : List UInt8, k.length = N ∧ BlkR 5 wr g (cellsOfBytes (k ++ T)) ∧ Crc.num k = Crc.num s ^^^ (2 ^ f * (m % 2 ^ j))) ∧ Below w1.heap.size w1 wr) (fun i _ => 32 - (intOf i).toNat)
  case atStart => exact ⟨0, by omega, rfl, ⟨s, HS.out.1, hk, by simp [Nat.mod_one]⟩, B2⟩
  case round =>
    clear hk B2
    obtain ⟨j, hj, rfl, ⟨k, hkl, hok, hnum⟩, hbel⟩ := hrel
    have HN := Lib.hid (And.intro hkl (And.intro hnum hok))
    clear hkl hnum
    by_cases hj32 : j < 32
    · have hcast : ((m : Int) / 2 ^ j).tmod 2 = ((m / 2 ^ j % 2 : Nat) : Int) := by
        have e : ((m : Int) / 2 ^ j) = ((m / 2 ^ j : Nat) : Int) := by rw [Int.natCast_ediv, Int.natCast_pow]; rfl
        rw [e, Int.tmod_eq_emod_of_nonneg (Int.natCast_nonneg _)]
        rfl
      by_cases hbit : m / 2 ^ j % 2 = 1
      · have hbt : (((m : Int) / 2 ^ j).tmod 2 == 1) = true := by rw [hcast, hbit]; rfl
        have HB := Lib.hid hbit
        clear hcast hbit
        have p0 : (f + j) / 8 < N := by omega
        have hcell := hok.cell (cellsOfBytes_get (k ++ T) ((f + j) / 8) (by rw [List.length_append, HN.out.1]; omega))
        rw [show (k ++ T).getD ((f + j) / 8) 0 = k.getD ((f + j) / 8) 0 by rw [List.getD_eq_getElem?_getD, List.getD_eq_getElem?_getD, List.getElem?_append_left (by rw [HN.out.1]; exact p0)]] at hcell
        have hfr := hok.frozen ((f + j) / 8)
        clear hok
        go_wp2
        go_region
        go_wp2
        go_roundw
        case rel =>
          obtain ⟨hkl, hnum, hok⟩ := HN.out
          have hlt : (k.getD ((f + j) / 8) 0).toNat < 256 := (k.getD ((f + j) / 8) 0).toNat_lt
          have hone : (2 : Int) ^ ((f + j) % 8) % 256 = ((Crc.oneBit (f + j)).toNat : Int) := by
            have h1 := Crc.oneBit_toNat (f + j)
            have h2 := (Crc.oneBit (f + j)).toNat_lt
            have h3 : (2 : Int) ^ ((f + j) % 8) = ((Crc.oneBit (f + j)).toNat : Int) := by rw [h1, Int.natCast_pow]; rfl
            rw [h3]
            omega
          have hv : bits .xor .u8 ((k[(f + j) / 8]?.getD 0).toNat : Int) ((2 : Int) ^ ((f + j) % 8) % 256) = ((k.getD ((f + j) / 8) 0 ^^^ Crc.oneBit (f + j)).toNat : Int) := by
            rw [hone, UInt8.toNat_xor, ← List.getD_eq_getElem?_getD]
            exact u8_xor_nat _ _ hlt (Crc.oneBit (f + j)).toNat_lt
          refine ⟨j + 1, by omega, by go_num, ⟨k.set ((f + j) / 8) (k.getD ((f + j) / 8) 0 ^^^ Crc.oneBit (f + j)), by rw [List.length_set]; exact hkl, ?_, ?_⟩, (hbel.setCell HC.out.2.2 _).drew⟩
          · rw [hv, ← cells_set_head k T ((f + j) / 8) _ (by rw [hkl]; exact p0)]
            exact hok.set_ _ _
          · rw [Crc.num_turn k _ (by rw [hkl]; exact p0), hnum, Crc.mask_step _ _ _ _ HB.out]
        case measure => simp [intOf]; omega
      · have hbt : (((m : Int) / 2 ^ j).tmod 2 == 1) = false := by rw [hcast]; rw [beq_eq_false_iff_ne]; omega
        have HB := Lib.hid hbit
        clear hcast hbit
        go_wp2
        go_roundw
        case rel =>
          obtain ⟨hkl, hnum, hok⟩ := HN.out
          exact ⟨j + 1, by omega, by go_num, ⟨k, hkl, hok, by rw [hnum, Crc.mask_zero m j HB.out]⟩, hbel⟩
        case measure => simp [intOf]; omega
    · obtain rfl : j = 32 := by omega
      have hbad : Frm.wrongE k ≠ 0 := by
        obtain ⟨hkl, hnum, _⟩ := HN.out
        rw [Nat.mod_eq_of_lt (show m < 2 ^ 32 by omega)] at hnum
        exact Frm.turned_bad s k HS.out.2 (by rw [hkl, HS.out.1]) f m (by omega) h4 (by rw [HS.out.1]; exact hf1) hnum
      have hkb : BytesAt wr wr.heap.size (some ⟨g, 0, none⟩) k := by
        have := hok.cut N
        rwa [List.take_left' HN.out.1] at this
      have tr := HC.out.2.1.below hbel (Nat.le_refl _)
      obtain ⟨re, hre⟩ : ∃ x, x = Frm.wrongE k := ⟨_, rfl⟩
      obtain ⟨ra, hra⟩ : ∃ x, x = Frm.wrongA k := ⟨_, rfl⟩
      have zr := frget_no (some ⟨g, 0, none⟩) k re ra N c2 hre.symm hra.symm (by rw [hre]; exact hbad) HN.out.1 hc2 (by omega) wr tr hkb
      have i6 : (re != 0) = true := by rw [bne_iff_ne, hre]; exact hbad
      clear hbad hkb hok hre hra
      go_wp2_with (go_at_call 10; ((with_reducible refine zr.mono ?_); (rintro e w6 ⟨A6, c6, rfl, B6⟩; obtain ⟨y0, y1⟩ := flt_at w6 re ra _ (Below.refl _ _))))
      go_ret
      exact ⟨rfl, step_alloc (step_trans (HC.out.1.trans (hbel.mono HC.out.1.size)) B6) _⟩
theorem frturned_any (A : Option Addr) (r : List UInt8) (c : Nat) (x m : Int) (hx : -9223372036854775808 ≤ x ∧ x ≤ 9223372036854775807) (hm : 0 ≤ m ∧ m ≤ 4294967295) (w : World) (ht : TabAt w) (hr : BytesAt w w.heap.size A r) :
    Calls Tryd.prog 5 #[.slice A r.length c, .int .i64 x, .int .u32 m] w fun e w' => e = .returned (.bool true) ∧ Below w.heap.size w w' := by
  obtain ⟨m, rfl⟩ : ∃ k : Nat, m = (k : Int) := ⟨m.toNat, by omega⟩
  by_cases h1 : 200 < r.length
  · exact frturned_skip A r c x m w ht hr (.inl h1)
  · by_cases h2 : m = 0
    · exact frturned_skip A r c x m w ht hr (.inr ⟨by omega, h2⟩)
    · exact frturned_go A r r.length c rfl x m w ht hr hx.1 hx.2 (by omega) (by omega) (by omega)
end Go.Proofs.YtfiijnpabmocdaaDoor
