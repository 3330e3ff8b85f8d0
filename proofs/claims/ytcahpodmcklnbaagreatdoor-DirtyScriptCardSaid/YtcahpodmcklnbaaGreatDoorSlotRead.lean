/-
  tandemref05.Read. Conditions: the bytes can be read.
-/
import Derived.Test.YtcahpodmcklnbaaGreatDoorSlotRef
import Derived.Test.YtcahpodmcklnbaaGreatDoorBa
namespace Go.Proofs.YtcahpodmcklnbaaGreatDoor
open Go.RowKit Fix

theorem same5 (A : Option Addr) (l : List UInt8) (n c : Nat) (hn : l.length = n) (A' : Option Addr) (l' : List UInt8) (n' c' : Nat) (hn' : l'.length = n') (w : World) (hr : BytesAt w w.heap.size A l) (hr' : BytesAt w w.heap.size A' l') (x : Bool) (hx : (l == l') = x) :
    Calls Tryz.prog 85 #[.slice A n c, .slice A' n' c'] w fun e w' => e = .returned (.bool x) ∧ w = w' := by
  subst hn; subst hn'; subst hx
  have q1 := bytes_string hr c
  have q2 := bytes_string hr' c'
  go_enter Tryz.func85, Tryz.ntmps85
  go_wp2
  go_ret
  exact ⟨rfl, rfl⟩
def SrPost (l : List UInt8) (w : World) (e : Ending) (w' : World) : Prop :=
  ∃ A c, e = .returned (.tuple #[.int .i64 (Slot.readN l : Int), .slice A (Slot.readB l).length c, .int .i64 (Slot.readE l)]) ∧ (Slot.readB l).length ≤ c ∧ BytesAt w' w'.heap.size A (Slot.readB l) ∧ (∀ ad, A = some ad → Slot.readB l ≠ [] → w.heap.size ≤ ad.block) ∧ Below w.heap.size w w'
theorem SrPost.none_ {l : List UInt8} {x : Int} {w w' : World} (h : Slot.right l = false) (hx : Slot.readE l = x) (hB : Below w.heap.size w w') : SrPost l w (.returned (.tuple #[.int .i64 0, .slice none 0 0, .int .i64 x])) w' :=
  ⟨none, 0, by rw [hx]; simp [Slot.readN, Slot.readB, h], by simp [Slot.readB, h], by simp only [Slot.readB, h]; exact bytes_nil, (fun ad e => by cases e), hB⟩
theorem num_get (l : List UInt8) (h : l.length = 64) : getN l 0 8 = Slot.num l := by
  unfold getN inN inR Slot.num
  rw [h]
  rfl
theorem len_get (l : List UInt8) (h : l.length = 64) : getsN l 8 2 = Slot.len l := by
  unfold getsN getN inN inR Slot.len
  rw [h]
  rfl
namespace Slot
theorem not_right_len {l : List UInt8} (h : l.length ≠ 64) : right l = false := by
  rw [← Bool.not_eq_true, right_iff]
  exact fun x => h x.1
theorem not_right_bounds {l : List UInt8} (h : num l < 1 ∨ 1099511627776 < num l ∨ 40 < len l) : right l = false := by
  rw [← Bool.not_eq_true, right_iff]
  rintro ⟨_, h1, h2, h3, _⟩
  omega
theorem not_right_sect {l : List UInt8} (h : sect (num l) (rec l) ≠ l) : right l = false := by
  rw [← Bool.not_eq_true, right_iff]
  exact fun x => h x.2.2.2.2
theorem readE_bad {l : List UInt8} (h64 : l.length = 64) (hz : l ≠ nots) (h : right l = false) : readE l = 11 := by
  unfold readE
  rw [if_neg (by rw [Decidable.not_not]; exact h64), if_neg hz, if_neg (by rw [h]; decide)]
end Slot
theorem refBytes5_good (n : Nat) (A : Option Addr) (r : List UInt8) (m c : Nat) (hm : r.length = m) (w : World) (hr : BytesAt w w.heap.size A r) (h1 : 1 ≤ n) (h2 : n ≤ 1099511627776) (h3 : m ≤ 40) : Calls Tryz.prog 35 #[.int .i64 (n : Int), .slice A m c] w fun e w' =>
    ∃ A' c', e = .returned (.tuple #[.slice A' 64 c', .int .i64 0]) ∧ 64 ≤ c' ∧ BytesAt w' w'.heap.size A' (Slot.sect n r) ∧ Below w.heap.size w w' := by
  obtain ⟨e1, e2⟩ := Slot.bytes_good n r (by omega) (by omega)
  refine (refBytes5_any (n : Int) A r m c hm w hr).mono fun e w' ⟨A', c', he, hc, hr', _, hB⟩ => ?_
  rw [e2, Slot.sect_length n r (by omega)] at hc he
  rw [e1] at he
  rw [e2] at hr'
  exact ⟨A', c', he, hc, hr', hB⟩
theorem fault_below (w : World) (e a : Int) : Below w.heap.size w (w.alloc (.cells #[.int .i64 e, .int .i64 a] 110)) := (Below.refl _ _).alloc (Nat.le_refl _) _
theorem own_behind (w : World) (e a : Int) : OwnB ((w.alloc (.cells #[.int .i64 e, .int .i64 a] 110)).alloc (.cells #[] 5)) w.heap.size (.slice (some ⟨w.heap.size + 1, 0, none⟩) 0 0) [] ∧
    Below w.heap.size w ((w.alloc (.cells #[.int .i64 e, .int .i64 a] 110)).alloc (.cells #[] 5)) ∧ w.heap.size ≤ ((w.alloc (.cells #[.int .i64 e, .int .i64 a] 110)).alloc (.cells #[] 5)).heap.size := by
  have hB : Below w.heap.size w ((w.alloc (.cells #[.int .i64 e, .int .i64 a] 110)).alloc (.cells #[] 5)) := ((Below.refl _ _).alloc (Nat.le_refl _) _).alloc (by simp) _
  have h := heap_alloc_new (w.alloc (.cells #[.int .i64 e, .int .i64 a] 110)) (.cells #[] 5)
  rw [show (w.alloc (.cells #[.int .i64 e, .int .i64 a] 110)).heap.size = w.heap.size + 1 by simp] at h
  exact ⟨⟨by simp [cellsOfBytes], .inr ⟨w.heap.size + 1, 0, #[], rfl, Nat.le_succ _, h, Nat.le_refl _, Nat.zero_le _, by simp, by simp [cellsOfBytes]⟩⟩, hB, hB.size⟩
theorem grown_step {w w' : World} {v : Value} {base : Nat} {l : List UInt8} (hg : w.grownBy w' v.ownBlock) (ho : OwnB w base v l) (hb : base ≤ w.heap.size) : Below base w w' := (Below.refl base w).grown hg hb (fun j hj => (ho.lt j hj).1)
set_option maxRecDepth 100000 in
set_option maxHeartbeats 2000000 in
theorem refRead5_any (A : Option Addr) (l : List UInt8) (m c : Nat) (hm : l.length = m) (hmc : m ≤ c) (w : World) (hr : BytesAt w w.heap.size A l) : Calls Tryz.prog 66 #[.slice A m c] w (SrPost l w) := by
  by_cases h64 : m = 64
  · subst h64
    have hmk := make_bytes 64 (by decide)
    rw [show ((64 : Nat) : Int) = 64 from rfl] at hmk
    have hz0 : BytesAt (w.alloc (.cells (List.replicate 64 (Value.int .u8 0)).toArray 5)) (w.alloc (.cells (List.replicate 64 (Value.int .u8 0)).toArray 5)).heap.size (some ⟨w.heap.size, 0, none⟩) Slot.nots := BlkB.at_ (heap_alloc_new w _)
    have B1 : Below w.heap.size w (w.alloc (.cells (List.replicate 64 (Value.int .u8 0)).toArray 5)) := (Below.refl _ _).alloc (Nat.le_refl _) _
    have r1 := hr.step B1
    by_cases hz : l = Slot.nots
    · have hp : SrPost l w (.returned (.tuple #[.int .i64 0, .slice none 0 0, .int .i64 6])) (w.alloc (.cells (List.replicate 64 (Value.int .u8 0)).toArray 5)) := SrPost.none_ (by rw [hz]; exact Slot.right_nots) (by rw [hz]; decide) B1
      have zs := same5 A l 64 c hm (some ⟨w.heap.size, 0, none⟩) Slot.nots 64 64 (by decide) _ r1 hz0 true (by simpa using hz)
      replace hp := Lib.hid hp
      clear hr hm hz r1 hz0 B1
      go_enter Tryz.func66, Tryz.ntmps66
      go_wp2_with (go_at_call 85; refine zs.mono ?_; (rintro e w2 ⟨rfl, rfl⟩))
      go_ret3
      exact hp.out
    · have zs := same5 A l 64 c hm (some ⟨w.heap.size, 0, none⟩) Slot.nots 64 64 (by decide) _ r1 hz0 false (by simpa using hz)
      have zg : ∀ w1, BytesAt w1 w1.heap.size A l → _ := fun w1 h => refGetLong_any A l c 0 w1 (by rw [hm]; decide) h
      have zt : ∀ w1, BytesAt w1 w1.heap.size A l → _ := fun w1 h => refGet_any A l c 8 2 w1 (by rw [hm]; decide) h
      simp only [num_get l hm] at zg
      simp only [len_get l hm] at zt
      rw [hm] at zg zt
      simp only [flt, show getE 64 0 8 = 0 from rfl, show getA 64 0 8 = 0 from rfl, show getsE 64 8 2 = 0 from rfl, show getsA 64 8 2 = 0 from rfl] at zg zt
      obtain ⟨n, hn⟩ : ∃ n, n = Slot.num l := ⟨_, rfl⟩
      obtain ⟨k, hk⟩ : ∃ n, n = Slot.len l := ⟨_, rfl⟩
      rw [← hn] at zg
      rw [← hk] at zt
      have hnl : n < 18446744073709551616 := by rw [hn]; unfold Slot.num; exact Fix.le_take_lt l 8 (by omega)
      by_cases hb : n < 1 ∨ 1099511627776 < n ∨ 40 < k
      · have hbad := Slot.readE_bad hm hz (Slot.not_right_bounds (by rw [← hn, ← hk]; exact hb))
        have hp : ∀ w', Below w.heap.size w w' → SrPost l w (.returned (.tuple #[.int .i64 0, .slice none 0 0, .int .i64 11])) w' := fun w' hB => SrPost.none_ (Slot.not_right_bounds (by rw [← hn, ← hk]; exact hb)) hbad hB
        replace hp := Lib.hid hp
        by_cases h1 : n < 1
        · have h1' : (n : Int) < 1 := by omega
          clear hr hm hz hz0 hbad hn hk hb
          go_enter Tryz.func66, Tryz.ntmps66
          go_wp2_with (first
            | (go_at_call 85; refine zs.mono ?_; (rintro e w2 ⟨rfl, rfl⟩))
            | (go_at_call 59; refine (zg _ r1).mono ?_; (rintro e w2 ⟨rfl, B2⟩; have B2' := step_trans (step_trans B1 B2) (fault_below w2 0 0); have r2 := (r1.step B2).step (fault_below w2 0 0)))
            | (go_at_call 86; refine (zt _ r2).mono ?_; (rintro e w3 ⟨rfl, B3⟩; have B3' := step_trans B2' B3)))
          go_ret3
          exact hp.out _ (step_trans B3' (fault_below w3 _ _))
        · have h1' : ¬ (n : Int) < 1 := by omega
          by_cases h2 : 1099511627776 < n
          · have h2' : (1099511627776 : Int) < (n : Int) := by omega
            clear hr hm hz hz0 hbad hn hk hb
            go_enter Tryz.func66, Tryz.ntmps66
            go_wp2_with (first
              | (go_at_call 85; refine zs.mono ?_; (rintro e w2 ⟨rfl, rfl⟩))
              | (go_at_call 59; refine (zg _ r1).mono ?_; (rintro e w2 ⟨rfl, B2⟩; have B2' := step_trans (step_trans B1 B2) (fault_below w2 0 0); have r2 := (r1.step B2).step (fault_below w2 0 0)))
              | (go_at_call 86; refine (zt _ r2).mono ?_; (rintro e w3 ⟨rfl, B3⟩; have B3' := step_trans B2' B3)))
            go_ret3
            exact hp.out _ (step_trans B3' (fault_below w3 _ _))
          · have h2' : ¬ (1099511627776 : Int) < (n : Int) := by omega
            have h3' : (40 : Int) < (k : Int) := by omega
            clear hr hm hz hz0 hbad hn hk hb
            go_enter Tryz.func66, Tryz.ntmps66
            go_wp2_with (first
              | (go_at_call 85; refine zs.mono ?_; (rintro e w2 ⟨rfl, rfl⟩))
              | (go_at_call 59; refine (zg _ r1).mono ?_; (rintro e w2 ⟨rfl, B2⟩; have B2' := step_trans (step_trans B1 B2) (fault_below w2 0 0); have r2 := (r1.step B2).step (fault_below w2 0 0)))
              | (go_at_call 86; refine (zt _ r2).mono ?_; (rintro e w3 ⟨rfl, B3⟩; have B3' := step_trans B2' B3)))
            go_ret3
            exact hp.out _ (step_trans B3' (fault_below w3 _ _))
      · have h1' : ¬ (n : Int) < 1 := by omega
        have h2' : ¬ (1099511627776 : Int) < (n : Int) := by omega
        have h3' : ¬ (40 : Int) < (k : Int) := by omega
        have e10 : IntKind.i64.wrap (10 + (k : Int)) = 10 + (k : Int) := IntWalk.i64_in _ (by omega)
        have en : IntKind.i64.wrap (n : Int) = (n : Int) := IntWalk.i64_in _ (by omega)
        have q10 : ∀ W, (Instr.slice 32 (.slice A 64 c) (some (.int .i64 10)) (some (.int .i64 (10 + (k : Int)))) none).run Tryz.prog W = .ok (.slice (cutA A 10 c) k (c - 10)) W := fun W => cut_both A 64 c 10 k (by omega) W
        obtain ⟨rc, hrc⟩ : ∃ x, x = Slot.rec l := ⟨_, rfl⟩
        have hrl : rc.length = k := by rw [hrc]; unfold Slot.rec; rw [List.length_take, List.length_drop, hm, ← hk]; omega
        have hcut : ∀ w1, BytesAt w1 w1.heap.size A l → BytesAt w1 w1.heap.size (cutA A 10 c) rc := fun w1 h => by
          rw [hrc]; unfold Slot.rec
          rw [← hk]
          exact (h.drop 10 c (by omega)).take k
        have zb := fun w1 A1 c1 h => refBytes5_good n A1 rc k c1 hrl w1 h (by omega) (by omega) (by omega)
        have hsl : (Slot.sect n rc).length = 64 := Slot.sect_length n rc (by omega)
        have HK := Lib.hid (And.intro hrl (And.intro hsl hm))
        replace hcut := Lib.hid hcut
        by_cases hs : Slot.sect n rc = l
        · have hright : Slot.right l = true := by
            rw [Slot.right_iff, ← hn, ← hk, ← hrc]
            exact ⟨hm, by omega, by omega, by omega, hs⟩
          have hp : ∀ A' c' w', k ≤ c' → BytesAt w' w'.heap.size A' rc → Below w.heap.size w w' → (∀ ad, A' = some ad → rc ≠ [] → w.heap.size ≤ ad.block) → SrPost l w (.returned (.tuple #[.int .i64 (n : Int), .slice A' k c', .int .i64 0])) w' := fun A' c' w' h1 h2 h3 h4 =>
            ⟨A', c', by rw [(Slot.readE_zero l).2 hright]; simp only [Slot.readN, Slot.readB, hright, if_true]; rw [← hn, ← hrc, hrl], by simp only [Slot.readB, hright, if_true]; rw [← hrc, hrl]; exact h1, by simp only [Slot.readB, hright, if_true]; rw [← hrc]; exact h2, by simp only [Slot.readB, hright, if_true]; rw [← hrc]; exact h4, h3⟩
          replace hp := Lib.hid hp
          have zs2 := fun w1 A1 c1 h1 h2 => same5 A1 (Slot.sect n rc) 64 c1 hsl A l 64 c hm w1 h1 h2 true (by simpa using hs)
          clear hr hm hz hz0 hn hk hb hs hright hrc hrl hsl
          go_enter Tryz.func66, Tryz.ntmps66
          go_wp2_with (first
            | (go_at_call 85; first
              | ((with_reducible refine (zs2 w6 A6 c6 r6 rr6).mono ?_); (rintro e w7 ⟨rfl, rfl⟩))
              | (refine zs.mono ?_; (rintro e w2 ⟨rfl, rfl⟩)))
            | (go_at_call 59; refine (zg _ r1).mono ?_; (rintro e w2 ⟨rfl, B2⟩; have B2' := step_trans (step_trans B1 B2) (fault_below w2 0 0); have r2 := (r1.step B2).step (fault_below w2 0 0)))
            | (go_at_call 86; refine (zt _ r2).mono ?_; (rintro e w3 ⟨rfl, B3⟩; obtain ⟨o4, B4, hs4⟩ := own_behind w3 0 0; have hs3 := (step_trans B2' B3).size; have B4' := step_trans (step_trans B2' B3) B4; have r3 := r2.step B3; have r4 := r3.step B4; have r3b := r3.below B4; have rc4 := hcut.out _ r4; have B4' := Lib.hid B4'))
            | (at_builtin; refine wpList_appendB rfl (.tmp 42) (.tmp 46) 32 rfl rfl w3.heap.size _ [] rfl o4 (cutA A 10 c) rc k (c - 10) _ rfl HK.out.1 rc4 (by rw [HK.out.1]; simp; omega) hs4 ?_; (intro v5 w5 ho5 hg5 hat5; have B5 := grown_step hg5 o4 hs4; have c5' := B4'.out.trans (B5.mono hs3); have r5 : BytesAt w5 w5.heap.size A l := (r3b.below B5).more (Nat.le_trans hs4 B5.size); rw [List.nil_append] at ho5; obtain ⟨A5, c5, rfl, hc5⟩ := ho5.form; rw [HK.out.1] at ho5 hc5 ⊢; have rc5 := ho5.bytes; have nw5 : ∀ ad, A5 = some ad → rc ≠ [] → w.heap.size ≤ ad.block := (fun ad e hne => Nat.le_trans hs3 (ho5.new ad e hne)); clear ho5))
            | (go_at_call 35; refine (zb w5 A5 c5 rc5).mono ?_; (rintro e w6 ⟨A6, c6, rfl, hc6, r6, B6⟩; have rr6 := r5.step B6; have HC := Lib.hid (And.intro hc5 (And.intro (rc5.step B6) (And.intro (step_trans c5' B6) nw5))))))
          go_ret3
          exact hp.out A5 c5 w6 HC.out.1 HC.out.2.1 HC.out.2.2.1 HC.out.2.2.2
        · have hright : Slot.right l = false := Slot.not_right_sect (by rw [← hn, ← hrc]; exact hs)
          have hp : ∀ w', Below w.heap.size w w' → SrPost l w (.returned (.tuple #[.int .i64 0, .slice none 0 0, .int .i64 11])) w' := fun w' hB => SrPost.none_ hright (Slot.readE_bad hm hz hright) hB
          replace hp := Lib.hid hp
          have zs2 := fun w1 A1 c1 h1 h2 => same5 A1 (Slot.sect n rc) 64 c1 hsl A l 64 c hm w1 h1 h2 false (by simpa using hs)
          clear hr hm hz hz0 hn hk hb hs hright hrc hrl hsl
          go_enter Tryz.func66, Tryz.ntmps66
          go_wp2_with (first
            | (go_at_call 85; first
              | ((with_reducible refine (zs2 w6 A6 c6 r6 rr6).mono ?_); (rintro e w7 ⟨rfl, rfl⟩))
              | (refine zs.mono ?_; (rintro e w2 ⟨rfl, rfl⟩)))
            | (go_at_call 59; refine (zg _ r1).mono ?_; (rintro e w2 ⟨rfl, B2⟩; have B2' := step_trans (step_trans B1 B2) (fault_below w2 0 0); have r2 := (r1.step B2).step (fault_below w2 0 0)))
            | (go_at_call 86; refine (zt _ r2).mono ?_; (rintro e w3 ⟨rfl, B3⟩; obtain ⟨o4, B4, hs4⟩ := own_behind w3 0 0; have hs3 := (step_trans B2' B3).size; have B4' := step_trans (step_trans B2' B3) B4; have r3 := r2.step B3; have r4 := r3.step B4; have r3b := r3.below B4; have rc4 := hcut.out _ r4; have B4' := Lib.hid B4'))
            | (at_builtin; refine wpList_appendB rfl (.tmp 42) (.tmp 46) 32 rfl rfl w3.heap.size _ [] rfl o4 (cutA A 10 c) rc k (c - 10) _ rfl HK.out.1 rc4 (by rw [HK.out.1]; simp; omega) hs4 ?_; (intro v5 w5 ho5 hg5 hat5; have B5 := grown_step hg5 o4 hs4; have c5' := B4'.out.trans (B5.mono hs3); have r5 : BytesAt w5 w5.heap.size A l := (r3b.below B5).more (Nat.le_trans hs4 B5.size); rw [List.nil_append] at ho5; obtain ⟨A5, c5, rfl, hc5⟩ := ho5.form; rw [HK.out.1] at ho5 hc5 ⊢; have rc5 := ho5.bytes; have nw5 : ∀ ad, A5 = some ad → rc ≠ [] → w.heap.size ≤ ad.block := (fun ad e hne => Nat.le_trans hs3 (ho5.new ad e hne)); clear ho5))
            | (go_at_call 35; refine (zb w5 A5 c5 rc5).mono ?_; (rintro e w6 ⟨A6, c6, rfl, hc6, r6, B6⟩; have rr6 := r5.step B6; have HC := Lib.hid (And.intro hc5 (And.intro (rc5.step B6) (And.intro (step_trans c5' B6) nw5))))))
          go_ret3
          exact hp.out _ HC.out.2.2.1
  · have hne : ((m : Int) != 64) = true := by simp; omega
    have hp := Lib.hid (SrPost.none_ (w := w) (w' := w) (Slot.not_right_len (l := l) (by rw [hm]; exact h64)) (show Slot.readE l = 4 by unfold Slot.readE; rw [if_pos (by rw [hm]; exact h64)]) (Below.refl _ _))
    clear hr hm h64
    go_enter Tryz.func66, Tryz.ntmps66
    go_wp2
    go_ret3
    exact hp.out
end Go.Proofs.YtcahpodmcklnbaaGreatDoor
