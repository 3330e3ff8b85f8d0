/-
  slot.Read: what it tells. Conditions: the table of crc lies as the program's text lays it; the bytes can be read.
-/
import Derived.Test.YtgnfajmjhlnobaaDoorSlBytes
namespace Go.Proofs.YtgnfajmjhlnobaaDoor
open Go.RowKit Fix

namespace Slot
theorem no_len {l : List UInt8} (h : l.length ≠ 64) : right l = false := by
  rw [← Bool.not_eq_true, right_iff]
  exact fun x => h x.1
theorem no_bounds {l : List UInt8} (h : num l < 1 ∨ 1099511627776 < num l ∨ 40 < len l) : right l = false := by
  rw [← Bool.not_eq_true, right_iff]
  rintro ⟨_, h1, h2, h3, _⟩
  omega
theorem no_sect {l : List UInt8} (h : sect (num l) (rec l) ≠ l) : right l = false := by
  rw [← Bool.not_eq_true, right_iff]
  exact fun x => h x.2.2.2.2
theorem bad_e {l : List UInt8} (h64 : l.length = 64) (hz : l ≠ nots) (h : right l = false) : readE l = 11 := by
  unfold readE
  rw [if_neg (by rw [Decidable.not_not]; exact h64), if_neg hz, if_neg (by rw [h]; decide)]
end Slot
theorem getNum (l : List UInt8) (h : l.length = 64) : getN l 0 8 = Slot.num l := by
  unfold getN inN inR Slot.num
  rw [h]
  rfl
theorem getLen (l : List UInt8) (h : l.length = 64) : getsN l 8 2 = Slot.len l := by
  unfold getsN getN inN inR Slot.len
  rw [h]
  rfl
def RdPost (l : List UInt8) (w : World) (e : Ending) (w' : World) : Prop :=
  ∃ A c, e = .returned (.tuple #[.int .i64 (Slot.readN l : Int), .slice A (Slot.readB l).length c, .int .i64 (Slot.readE l)]) ∧ c ≤ 9223372036854775807 ∧ Whole w' w.heap.size A c (Slot.readB l) ∧ Below w.heap.size w w'
theorem RdPost.none_ {l : List UInt8} {x : Int} {w w' : World} (h : Slot.right l = false) (hx : Slot.readE l = x) (hB : Below w.heap.size w w') : RdPost l w (.returned (.tuple #[.int .i64 0, .slice none 0 0, .int .i64 x])) w' :=
  ⟨none, 0, by rw [hx]; simp [Slot.readN, Slot.readB, h], by decide, by simp only [Slot.readB, h]; exact Whole.none_, hB⟩
theorem fltBelow (w : World) (e a : Int) : Below w.heap.size w (w.alloc (.cells #[.int .i64 e, .int .i64 a] 72)) := (Below.refl _ _).alloc (Nat.le_refl _) _
set_option maxRecDepth 100000 in
set_option maxHeartbeats 2000000 in
theorem slotRead_any (A : Option Addr) (l : List UInt8) (m c : Nat) (hm : l.length = m) (hmc : m ≤ c) (w : World) (ht : TabAt w) (hr : BytesAt w w.heap.size A l) : Calls Tryd.prog 14 #[.slice A m c] w (RdPost l w) := by
  by_cases h64 : m = 64
  · subst h64
    have qa := fun g W => cutA_all g W
    have hA : ∃ ad, A = some ad := by
      obtain ⟨ad, e, _⟩ := hr (by rintro rfl; simp at hm)
      exact ⟨ad, e⟩
    obtain ⟨ad, rfl⟩ := hA
    have e64 := Lib.hid hm
    by_cases hz : l = Slot.nots
    · have hp : ∀ w', Below w.heap.size w w' → RdPost l w (.returned (.tuple #[.int .i64 0, .slice none 0 0, .int .i64 6])) w' := fun w' hB => RdPost.none_ (by rw [hz]; exact Slot.right_nots) (by rw [hz]; decide) hB
      have zq : ∀ w1 g, BytesAt w1 w1.heap.size (some ad) l → BytesAt w1 w1.heap.size (some ⟨g, 0, none⟩) Slot.nots → _ := fun w1 g h1 h2 => equal_any (some ad) l 64 c e64.out (some ⟨g, 0, none⟩) Slot.nots 64 64 (by decide) w1 h1 h2 true (by simpa using hz)
      replace hp := Lib.hid hp
      clear hm hz hmc
      go_enter Tryd.func14, Tryd.ntmps14
      go_wp2_with (first
        | ((with_reducible refine atW w ?_); refine wpList_allocA (w := w) rfl rfl ?_; (intro w2 e2; have b2 : BlkR 66 w2 w.heap.size (cellsOfBytes Slot.nots) := (by rw [e2]; exact BlkR.new w _ _); have B2 : Below w.heap.size w w2 := (by rw [e2]; exact (Below.refl _ _).alloc (Nat.le_refl _) _); clear e2; have r2 := hr.step B2; have n2 := b2.all))
        | (go_at_call 35; refine (zq w2 _ r2 n2).mono ?_; (rintro e w3 ⟨rfl, rfl⟩)))
      go_ret3
      exact hp.out _ B2
    · have zq : ∀ w1 g, BytesAt w1 w1.heap.size (some ad) l → BytesAt w1 w1.heap.size (some ⟨g, 0, none⟩) Slot.nots → _ := fun w1 g h1 h2 => equal_any (some ad) l 64 c e64.out (some ⟨g, 0, none⟩) Slot.nots 64 64 (by decide) w1 h1 h2 false (by simpa using hz)
      have zg : ∀ w1, BytesAt w1 w1.heap.size (some ad) l → _ := fun w1 h => getLong_any (some ad) l c 0 w1 (by rw [e64.out]; exact hmc) (by rw [e64.out]; decide) h
      have zt : ∀ w1, BytesAt w1 w1.heap.size (some ad) l → _ := fun w1 h => get_any (some ad) l c 8 2 w1 (by rw [e64.out]; exact hmc) (by rw [e64.out]; decide) h
      simp only [getNum l hm] at zg
      simp only [getLen l hm] at zt
      rw [hm] at zg zt
      simp only [flt, show getE 64 0 8 = 0 from rfl, show getA 64 0 8 = 0 from rfl, show getsE 64 8 2 = 0 from rfl, show getsA 64 8 2 = 0 from rfl] at zg zt
      obtain ⟨n, hn⟩ : ∃ n, n = Slot.num l := ⟨_, rfl⟩
      obtain ⟨k, hk⟩ : ∃ n, n = Slot.len l := ⟨_, rfl⟩
      rw [← hn] at zg
      rw [← hk] at zt
      have hnl : n < 18446744073709551616 := by rw [hn]; unfold Slot.num; exact Fix.le_take_lt l 8 (by omega)
      by_cases h3 : 40 < k
      · have hp : ∀ w', Below w.heap.size w w' → RdPost l w (.returned (.tuple #[.int .i64 0, .slice none 0 0, .int .i64 11])) w' := fun w' hB => RdPost.none_ (Slot.no_bounds (.inr (.inr (by rw [← hk]; exact h3)))) (Slot.bad_e hm hz (Slot.no_bounds (.inr (.inr (by rw [← hk]; exact h3))))) hB
        have h3' : (40 : Int) < (k : Int) := by omega
        replace hp := Lib.hid hp
        clear hm hz hmc hn hk h3 hnl
        go_enter Tryd.func14, Tryd.ntmps14
        go_wp2_with (first
          | ((with_reducible refine atW w ?_); refine wpList_allocA (w := w) rfl rfl ?_; (intro w2 e2; have b2 : BlkR 66 w2 w.heap.size (cellsOfBytes Slot.nots) := (by rw [e2]; exact BlkR.new w _ _); have B2 : Below w.heap.size w w2 := (by rw [e2]; exact (Below.refl _ _).alloc (Nat.le_refl _) _); clear e2; have r2 := hr.step B2; have n2 := b2.all))
          | (go_at_call 35; refine (zq w2 _ r2 n2).mono ?_; (rintro e w3 ⟨rfl, rfl⟩))
          | (go_at_call 36; refine (zg _ r2).mono ?_; (rintro e w3 ⟨rfl, B3⟩; have B3' := step_trans (step_trans B2 B3) (fltBelow w3 0 0); have r3 := (r2.step B3).step (fltBelow w3 0 0)))
          | (go_at_call 37; refine (zt _ r3).mono ?_; (rintro e w4 ⟨rfl, B4⟩; have B4' := step_trans B3' B4)))
        go_ret3
        exact hp.out _ (step_trans B4' (fltBelow w4 _ _))
      · have h3' : ¬ (40 : Int) < (k : Int) := by omega
        have e10 : IntKind.i64.wrap (10 + (k : Int)) = 10 + (k : Int) := IntWalk.i64_in _ (by omega)
        have q10 : ∀ W, (Instr.slice 22 (.slice (some ad) 64 c) (some (.int .i64 10)) (some (.int .i64 (10 + (k : Int)))) none).run Tryd.prog W = .ok (.slice (cutA (some ad) 10 c) k (c - 10)) W := fun W => cut_both (some ad) 64 c 10 k (by omega) W
        rw [show cutA (some ad) 10 c = some (ad.add 10) by unfold cutA; rw [if_neg (by omega)]; rfl] at q10
        obtain ⟨rc, hrc⟩ : ∃ x, x = Slot.rec l := ⟨_, rfl⟩
        have hrl : rc.length = k := by rw [hrc]; unfold Slot.rec; rw [List.length_take, List.length_drop, hm, ← hk]; omega
        have hcut : ∀ w1, BytesAt w1 w1.heap.size (some ad) l → BytesAt w1 w1.heap.size (some (ad.add 10)) rc := fun w1 h => by
          rw [hrc]; unfold Slot.rec
          rw [← hk]
          have := (h.drop 10 c (by omega)).take k
          rwa [show cutA (some ad) 10 c = some (ad.add 10) by unfold cutA; rw [if_neg (by omega)]; rfl] at this
        have zc : ∀ w1, BytesAt w1 w1.heap.size (some (ad.add 10)) rc → _ := fun w1 h => clone_any rc (ad.add 10) k (c - 10) hrl (by omega) w1 h
        obtain ⟨nn, hnn⟩ : ∃ x, x = IntKind.i64.wrap (n : Int) := ⟨_, rfl⟩
        have zb := fun w1 A1 c1 t h => slotBytes_any nn A1 rc k c1 hrl w1 t h
        unfold BsPost at zb
        by_cases hnr : nn < 1 ∨ 1099511627776 < nn
        · have hbad : Slot.right l = false := by
            refine Slot.no_bounds ?_
            rw [← hn]
            rw [hnn, IntKind.wrap_i64] at hnr
            omega
          have hp : ∀ w', Below w.heap.size w w' → RdPost l w (.returned (.tuple #[.int .i64 0, .slice none 0 0, .int .i64 11])) w' := fun w' hB => RdPost.none_ hbad (Slot.bad_e hm hz hbad) hB
          replace hp := Lib.hid hp
          obtain ⟨x1, x2⟩ := Slot.bytes_range' nn rc (by omega) hnr
          replace hnn := hnn.symm
          rw [x1, x2] at zb
          replace hcut := Lib.hid hcut
          clear hm hz hmc hn hk h3 hnl hrc hrl hnr x1 x2 hbad
          go_enter Tryd.func14, Tryd.ntmps14
          go_wp2_with (first
            | ((with_reducible refine atW w ?_); refine wpList_allocA (w := w) rfl rfl ?_; (intro w2 e2; have b2 : BlkR 66 w2 w.heap.size (cellsOfBytes Slot.nots) := (by rw [e2]; exact BlkR.new w _ _); have B2 : Below w.heap.size w w2 := (by rw [e2]; exact (Below.refl _ _).alloc (Nat.le_refl _) _); clear e2; have r2 := hr.step B2; have n2 := b2.all))
            | (go_at_call 35; refine (zq w2 _ r2 n2).mono ?_; (rintro e w3 ⟨rfl, rfl⟩))
            | (go_at_call 36; refine (zg _ r2).mono ?_; (rintro e w3 ⟨rfl, B3⟩; have B3' := step_trans (step_trans B2 B3) (fltBelow w3 0 0); have r3 := (r2.step B3).step (fltBelow w3 0 0)))
            | (go_at_call 37; refine (zt _ r3).mono ?_; (rintro e w4 ⟨rfl, B4⟩; have B4' := step_trans (step_trans B3' B4) (fltBelow w4 0 0); have r4 := hcut.out _ ((r3.step B4).step (fltBelow w4 0 0))))
            | (go_at_call 38; refine (zc _ r4).mono ?_; (rintro e w5 ⟨A5, c5, rfl, hc5, o5, B5⟩; have B5' := step_trans B4' B5; have t5 := ht.below B5' (Nat.le_refl _)))
            | (go_at_call 12; (with_reducible refine (zb w5 A5 c5 t5 o5.bytes).mono ?_); (rintro e w6 ⟨A6, c6, rfl, hc6, o6, B6⟩)))
          go_ret3
          exact hp.out _ (step_trans B5' B6)
        · have hnn1 : nn = (n : Int) := by
            rw [hnn, IntKind.wrap_i64] at hnr ⊢
            omega
          rw [hnn1] at hnr hnn
          rw [hnn1] at zb
          obtain ⟨x1, x2⟩ := Slot.bytes_good' n rc (by omega) hnr
          have hsl : (Slot.sect n rc).length = 64 := Slot.sect_length n rc (by omega)
          rw [x1, x2, hsl] at zb
          replace hnn := hnn.symm
          have HS := Lib.hid hsl
          replace hcut := Lib.hid hcut
          by_cases hs : Slot.sect n rc = l
          · have hright : Slot.right l = true := by
              rw [Slot.right_iff, ← hn, ← hk, ← hrc]
              exact ⟨hm, by omega, by omega, by omega, hs⟩
            have hp : ∀ A' c' w', c' ≤ 9223372036854775807 → Whole w' w.heap.size A' c' rc → Below w.heap.size w w' → RdPost l w (.returned (.tuple #[.int .i64 (n : Int), .slice A' k c', .int .i64 0])) w' := fun A' c' w' h1 h2 h3 =>
              ⟨A', c', by rw [(Slot.readE_zero l).2 hright]; simp only [Slot.readN, Slot.readB, hright, if_true]; rw [← hn, ← hrc, hrl], h1, by simp only [Slot.readB, hright, if_true]; rw [← hrc]; exact h2, h3⟩
            replace hp := Lib.hid hp
            have zq2 : ∀ w1 A1 c1, BytesAt w1 w1.heap.size (some ad) l → BytesAt w1 w1.heap.size A1 (Slot.sect n rc) → _ := fun w1 A1 c1 h1 h2 => equal_any (some ad) l 64 c e64.out A1 (Slot.sect n rc) 64 c1 HS.out w1 h1 h2 true (by simpa using hs.symm)
            clear hm hz hmc hn hk h3 hnl hrc hrl hnr x1 x2 hs hright hsl hnn1
            go_enter Tryd.func14, Tryd.ntmps14
            go_wp2_with (first
              | ((with_reducible refine atW w ?_); refine wpList_allocA (w := w) rfl rfl ?_; (intro w2 e2; have b2 : BlkR 66 w2 w.heap.size (cellsOfBytes Slot.nots) := (by rw [e2]; exact BlkR.new w _ _); have B2 : Below w.heap.size w w2 := (by rw [e2]; exact (Below.refl _ _).alloc (Nat.le_refl _) _); clear e2; have r2 := hr.step B2; have n2 := b2.all))
              | (go_at_call 35; first
                | ((with_reducible refine (zq2 w6 A6 c6 r6 s6).mono ?_); (rintro e w7 ⟨rfl, rfl⟩))
                | (refine (zq w2 _ r2 n2).mono ?_; (rintro e w3 ⟨rfl, rfl⟩)))
              | (go_at_call 36; refine (zg _ r2).mono ?_; (rintro e w3 ⟨rfl, B3⟩; have B3' := step_trans (step_trans B2 B3) (fltBelow w3 0 0); have r3 := (r2.step B3).step (fltBelow w3 0 0)))
              | (go_at_call 37; refine (zt _ r3).mono ?_; (rintro e w4 ⟨rfl, B4⟩; have B4' := step_trans (step_trans B3' B4) (fltBelow w4 0 0); have rr4 := (r3.step B4).step (fltBelow w4 0 0); have r4 := hcut.out _ rr4))
              | (go_at_call 38; refine (zc _ r4).mono ?_; (rintro e w5 ⟨A5, c5, rfl, hc5, o5, B5⟩; have B5' := step_trans B4' B5; have t5 := ht.below B5' (Nat.le_refl _); have r5 := rr4.step B5; have o5 := o5.less B4'.size))
              | (go_at_call 12; (with_reducible refine (zb w5 A5 c5 t5 o5.bytes).mono ?_); (rintro e w6 ⟨A6, c6, rfl, hc6, o6, B6⟩; have r6 := r5.step B6; have s6 := o6.bytes; have HC := Lib.hid (And.intro hc5 (And.intro (o5.step B6) (step_trans B5' B6))); clear o5 o6)))
            go_ret3
            exact hp.out A5 c5 w6 HC.out.1 HC.out.2.1 HC.out.2.2
          · have hright : Slot.right l = false := Slot.no_sect (by rw [← hn, ← hrc]; exact hs)
            have hp : ∀ w', Below w.heap.size w w' → RdPost l w (.returned (.tuple #[.int .i64 0, .slice none 0 0, .int .i64 11])) w' := fun w' hB => RdPost.none_ hright (Slot.bad_e hm hz hright) hB
            replace hp := Lib.hid hp
            have zq2 : ∀ w1 A1 c1, BytesAt w1 w1.heap.size (some ad) l → BytesAt w1 w1.heap.size A1 (Slot.sect n rc) → _ := fun w1 A1 c1 h1 h2 => equal_any (some ad) l 64 c e64.out A1 (Slot.sect n rc) 64 c1 HS.out w1 h1 h2 false (by simpa using fun e => hs e.symm)
            clear hm hz hmc hn hk h3 hnl hrc hrl hnr x1 x2 hs hright hsl hnn1
            go_enter Tryd.func14, Tryd.ntmps14
            go_wp2_with (first
              | ((with_reducible refine atW w ?_); refine wpList_allocA (w := w) rfl rfl ?_; (intro w2 e2; have b2 : BlkR 66 w2 w.heap.size (cellsOfBytes Slot.nots) := (by rw [e2]; exact BlkR.new w _ _); have B2 : Below w.heap.size w w2 := (by rw [e2]; exact (Below.refl _ _).alloc (Nat.le_refl _) _); clear e2; have r2 := hr.step B2; have n2 := b2.all))
              | (go_at_call 35; first
                | ((with_reducible refine (zq2 w6 A6 c6 r6 s6).mono ?_); (rintro e w7 ⟨rfl, rfl⟩))
                | (refine (zq w2 _ r2 n2).mono ?_; (rintro e w3 ⟨rfl, rfl⟩)))
              | (go_at_call 36; refine (zg _ r2).mono ?_; (rintro e w3 ⟨rfl, B3⟩; have B3' := step_trans (step_trans B2 B3) (fltBelow w3 0 0); have r3 := (r2.step B3).step (fltBelow w3 0 0)))
              | (go_at_call 37; refine (zt _ r3).mono ?_; (rintro e w4 ⟨rfl, B4⟩; have B4' := step_trans (step_trans B3' B4) (fltBelow w4 0 0); have rr4 := (r3.step B4).step (fltBelow w4 0 0); have r4 := hcut.out _ rr4))
              | (go_at_call 38; refine (zc _ r4).mono ?_; (rintro e w5 ⟨A5, c5, rfl, hc5, o5, B5⟩; have B5' := step_trans B4' B5; have t5 := ht.below B5' (Nat.le_refl _); have r5 := rr4.step B5; have o5 := o5.less B4'.size))
              | (go_at_call 12; (with_reducible refine (zb w5 A5 c5 t5 o5.bytes).mono ?_); (rintro e w6 ⟨A6, c6, rfl, hc6, o6, B6⟩; have r6 := r5.step B6; have s6 := o6.bytes; have HC := Lib.hid (step_trans B5' B6); clear o5 o6)))
            go_ret3
            exact hp.out _ HC.out
  · have hne : ((m : Int) != 64) = true := by simp; omega
    have hp := Lib.hid (RdPost.none_ (w := w) (w' := w) (Slot.no_len (l := l) (by rw [hm]; exact h64)) (show Slot.readE l = 4 by unfold Slot.readE; rw [if_pos (by rw [hm]; exact h64)]) (Below.refl _ _))
    clear hr hm h64
    go_enter Tryd.func14, Tryd.ntmps14
    go_wp2
    go_ret3
    exact hp.out
end Go.Proofs.YtgnfajmjhlnobaaDoor
