/-
  tandemref07: Bytes, Read. Conditions: the bytes can be read.
-/
import Derived.Test.YtmbloclkinghnaaDoorSlotRead
import Derived.Test.YtmbloclkinghnaaDoorBlock
namespace Go.Proofs.YtmbloclkinghnaaDoor
open Go.RowKit Fix

theorem splice_bkbody (a n : Nat) (r : List UInt8) (h : r.length = 32) : splice (splice (splice (List.replicate 54 (0 : UInt8)) 0 ((dig n 8).take 54)) 8 ((dig a 2).take 46)) 10 (r.take 44) ++ dig n 6 = Blk.body a n r := by
  have h8 := dig_length n 8
  have h2 := dig_length a 2
  rw [List.take_of_length_le (by omega : (dig n 8).length ≤ 54), List.take_of_length_le (by omega : (dig a 2).length ≤ 46), List.take_of_length_le (by omega : r.length ≤ 44)]
  have e1 : splice (List.replicate 54 (0 : UInt8)) 0 (dig n 8) = dig n 8 ++ List.replicate 46 0 := by
    unfold splice
    rw [List.take_zero, List.nil_append, h8, List.drop_replicate]
  have e2 : splice (dig n 8 ++ List.replicate 46 (0 : UInt8)) 8 (dig a 2) = dig n 8 ++ (dig a 2 ++ List.replicate 44 0) := by
    unfold splice
    rw [List.take_left' h8, h2, List.drop_append, List.drop_of_length_le (by omega), List.nil_append, h8, List.drop_replicate]
  have e3 : splice (dig n 8 ++ (dig a 2 ++ List.replicate 44 (0 : UInt8))) 10 r = dig n 8 ++ (dig a 2 ++ (r ++ List.replicate 12 0)) := by
    have e : dig n 8 ++ (dig a 2 ++ List.replicate 44 (0 : UInt8)) = (dig n 8 ++ dig a 2) ++ List.replicate 44 0 := by rw [List.append_assoc]
    have l10 : (dig n 8 ++ dig a 2).length = 10 := by rw [List.length_append, h8, h2]
    rw [e]
    unfold splice
    rw [List.take_left' l10, List.drop_append, List.drop_of_length_le (by omega), List.nil_append, l10, List.drop_replicate, List.append_assoc]
    congr 4
    omega
  rw [e1, e2, e3]
  unfold Blk.body
  simp only [List.append_assoc]
def RbPost (a n : Int) (r : List UInt8) (w : World) (e : Ending) (w' : World) : Prop :=
  ∃ A c, e = .returned (.tuple #[.slice A (Blk.bytesB a n r).length c, .int .i64 (Blk.bytesE a n r)]) ∧ (Blk.bytesB a n r).length ≤ c ∧ BytesAt w' w'.heap.size A (Blk.bytesB a n r) ∧ Below w.heap.size w w'
theorem RbPost.none_ {a n : Int} {r : List UInt8} {x : Int} (h : Blk.bytesE a n r = x) (h0 : x ≠ 0) (w : World) : RbPost a n r w (.returned (.tuple #[.slice none 0 0, .int .i64 x])) w := by
  have e := Blk.bytesB_bad a n r (by rw [h]; exact h0)
  exact ⟨none, 0, by rw [h, e]; rfl, by rw [e]; exact Nat.le_refl _, by rw [e]; exact bytes_nil, Below.refl _ _⟩
set_option maxRecDepth 100000 in
set_option maxHeartbeats 2000000 in
theorem refBytes7_any (a n : Int) (A : Option Addr) (r : List UInt8) (m c : Nat) (hm : r.length = m) (w : World) (hr : BytesAt w w.heap.size A r) : Calls Tryd.prog 11 #[.int .i64 a, .int .i64 n, .slice A m c] w (RbPost a n r w) := by
  by_cases hx : a < 0 ∨ 64 ≤ a ∨ n < 1 ∨ 1099511627776 < n
  · have hp := Lib.hid (RbPost.none_ (Blk.bytesE_range a n r hx) (by decide) w)
    by_cases h1 : a < 0
    · clear hm hr hx
      go_enter Tryd.func11, Tryd.ntmps11
      go_wp2
      go_ret2
      exact hp.out
    · by_cases h2 : 64 ≤ a
      · clear hm hr hx
        go_enter Tryd.func11, Tryd.ntmps11
        go_wp2
        go_ret2
        exact hp.out
      · by_cases h3 : n < 1
        · clear hm hr hx
          go_enter Tryd.func11, Tryd.ntmps11
          go_wp2
          go_ret2
          exact hp.out
        · have h4 : 1099511627776 < n := by omega
          clear hm hr hx
          go_enter Tryd.func11, Tryd.ntmps11
          go_wp2
          go_ret2
          exact hp.out
  · have h1 : ¬ a < 0 := by omega
    have h2 : ¬ 64 ≤ a := by omega
    have h3 : ¬ n < 1 := by omega
    have h4 : decide (1099511627776 < n) = false := by simp; omega
    by_cases hl : r.length = 32
    · obtain ⟨k, rfl⟩ : ∃ k : Nat, n = (k : Int) := ⟨n.toNat, by omega⟩
      obtain ⟨b, rfl⟩ : ∃ b : Nat, a = (b : Int) := ⟨a.toNat, by omega⟩
      have hz : Blk.bytesE (b : Int) (k : Int) r = 0 := (Blk.bytesE_zero _ _ _).2 (by omega)
      have e2 := Blk.bytesB_good b k r hz
      have hse := Blk.sect_length b k r hl
      have hsb := splice_bkbody b k r hl
      have hbl := Blk.body_length b k r hl
      unfold RbPost
      rw [hz, e2, hse]
      obtain rfl : m = 32 := by omega
      have ew : IntKind.u64.wrap (k : Int) = (k : Int) := by rw [IntKind.wrap_u64]; omega
      have zp2 : ∀ w : World, Calls Tryd.prog 22 #[.int .i64 (b : Int), .int .i64 2] w fun e w' => ∃ A c, e = .returned (.tuple #[.slice A 2 c, .int .i64 0]) ∧ 2 ≤ c ∧ BytesAt w' w'.heap.size A (dig b 2) ∧ Below w.heap.size w w' := refPut_good b 2 (by omega) (by omega) (by omega)
      have zp6 : ∀ w : World, Calls Tryd.prog 22 #[.int .i64 (k : Int), .int .i64 6] w fun e w' => ∃ A c, e = .returned (.tuple #[.slice A 6 c, .int .i64 0]) ∧ 6 ≤ c ∧ BytesAt w' w'.heap.size A (dig k 6) ∧ Below w.heap.size w w' := refPut_good k 6 (by omega) (by omega) (by omega)
      have zl : ∀ w : World, _ := fun w => refLong_any k (by omega) w
      have hmk := make_bytes 54 (by decide)
      rw [show ((54 : Nat) : Int) = 54 from rfl] at hmk
      have q8 : ∀ g W, (Instr.slice 22 (.slice (some ⟨g, 0, none⟩) 54 54) (some (.int .i64 8)) none none).run Tryd.prog W = .ok (.slice (some ⟨g, 8, none⟩) 46 46) W := fun g W => cut54 g 8 (by decide) (by decide) W
      have q10 : ∀ g W, (Instr.slice 22 (.slice (some ⟨g, 0, none⟩) 54 54) (some (.int .i64 10)) none none).run Tryd.prog W = .ok (.slice (some ⟨g, 10, none⟩) 44 44) W := fun g W => cut54 g 10 (by decide) (by decide) W
      have h0 : ∀ W : World, BlkR 5 (W.alloc (.cells (List.replicate 54 (Value.int .u8 0)).toArray 5)) W.heap.size (cellsOfBytes (List.replicate 54 0)) := fun W => heap_alloc_new W _
      have B0 : ∀ W : World, Below W.heap.size W (W.alloc (.cells (List.replicate 54 (Value.int .u8 0)).toArray 5)) := fun W => (Below.refl _ _).alloc (Nat.le_refl _) _
      obtain ⟨l1, hl1⟩ : ∃ l, l = splice (List.replicate 54 (0 : UInt8)) 0 ((dig k 8).take 54) := ⟨_, rfl⟩
      rw [← hl1] at hsb
      obtain ⟨l2, hl2⟩ : ∃ l, l = splice l1 8 ((dig b 2).take 46) := ⟨_, rfl⟩
      rw [← hl2] at hsb
      obtain ⟨l3, hl3⟩ : ∃ l, l = splice l2 10 (r.take 44) := ⟨_, rfl⟩
      rw [← hl3] at hsb
      have n1 : l1.length = 54 := by rw [hl1, length_splice _ _ _ (by simp [dig_length])]; simp
      have n2 : l2.length = 54 := by rw [hl2, length_splice _ _ _ (by simp [dig_length]; omega)]; exact n1
      have n3 : l3.length = 54 := by rw [hl3, length_splice _ _ _ (by simp; omega)]; exact n2
      have HL := Lib.hid (And.intro hl1 (And.intro hl2 (And.intro hl3 (And.intro n1 (And.intro n2 (And.intro n3 (And.intro hsb hbl)))))))
      have HM := Lib.hid hm
      replace h0 := Lib.hid h0
      replace B0 := Lib.hid B0
      have d8 := Lib.hid (dig_length k 8)
      have d2 := Lib.hid (dig_length b 2)
      have d6 := Lib.hid (dig_length k 6)
      clear hl1 hl2 hl3 n1 n2 n3 hsb hbl hm hl hse e2 hx hz
      go_enter Tryd.func11, Tryd.ntmps11
      go_wp2_with (first
        | (go_at_call 22; first
          | ((with_reducible refine (zp2 w).mono ?_); (rintro e w1 ⟨A1, c1, rfl, hc1, r1, B1⟩; have rr1 := hr.step B1))
          | ((with_reducible refine (zp6 w1).mono ?_); (rintro e w2 ⟨A2, c2, rfl, hc2, r2, B2⟩; have r1' := r1.step B2; have rr2 := rr1.step B2; have hb3 := h0.out w2; have B3 := B0.out w2; have B12 := step_trans B1 B2)))
        | (go_at_call 23; refine (zl (w2.alloc (.cells (List.replicate 54 (Value.int .u8 0)).toArray 5))).mono ?_; (rintro e w4 ⟨A4, c4, rfl, hc4, ho4, B4⟩; have hb4 := BlkR.step hb3 B4; have B4' := step_trans B3 B4; have r4 := ho4.bytes; clear ho4))
        | (refine wpList_copyB rfl (.tmp 41) (.tmp 44) rfl 5 w2.heap.size 0 54 54 (some ⟨w2.heap.size, 0, none⟩) A4 8 c4 rfl rfl (fun _ => rfl) (List.replicate 54 0) (dig k 8) d8.out hb4 r4 (by rw [List.length_replicate]; decide) w2.heap.size w2 B4' (Nat.le_refl _) ?_; (intro w5 hb5 B5; rw [← HL.out.1] at hb5; have r15 := r1'.step B5))
        | (refine wpList_copyB rfl (.tmp 47) (.tmp 48) rfl 5 w2.heap.size 8 46 46 (some ⟨w2.heap.size, 8, none⟩) A1 2 c1 rfl rfl (fun _ => rfl) l1 (dig b 2) d2.out hb5.out r15 (by rw [HL.out.2.2.2.1]; decide) w2.heap.size w2 B5 (Nat.le_refl _) ?_; (intro w6 hb6 B6; rw [← HL.out.2.1] at hb6; have rr6 := rr2.step B6))
        | (refine wpList_copyB rfl (.tmp 51) (.tmp 52) rfl 5 w2.heap.size 10 44 44 (some ⟨w2.heap.size, 10, none⟩) A 32 c rfl rfl (fun _ => rfl) l2 r HM.out hb6.out rr6 (by rw [HL.out.2.2.2.2.1]; decide) w2.heap.size w2 B6 (Nat.le_refl _) ?_; (intro w7 hb7 B7; rw [← HL.out.2.2.1] at hb7; have r27 := r2.step B7; have o7 : OwnB w7 w2.heap.size (.slice (some ⟨w2.heap.size, 0, none⟩) 54 54) l3 := (by have := BlkB.own_cut (w := w7) (g := w2.heap.size) (base := w2.heap.size) (l := l3) hb7.out (Nat.le_refl _) 54 54 (by rw [HL.out.2.2.2.2.2.1]; exact Nat.le_refl _) HL.out.2.2.2.2.2.1 (by decide); rwa [List.take_of_length_le (by rw [HL.out.2.2.2.2.2.1]; exact Nat.le_refl _)] at this)))
        | (at_builtin; refine wpList_appendB rfl (.tmp 54) (.tmp 55) 22 rfl rfl w2.heap.size _ l3 rfl o7 A2 (dig k 6) 6 c2 w7.heap.size rfl d6.out r27 (by rw [HL.out.2.2.2.2.2.1, d6.out]; decide) B7.size ?_; (intro v8 w8 ho8 hg8 hat8; have B8 := B7.grown hg8 B7.size (fun j hj => (o7.lt j hj).1); rw [HL.out.2.2.2.2.2.2.1] at ho8; obtain ⟨A8, c8, rfl, hc8⟩ := ho8.form; rw [HL.out.2.2.2.2.2.2.2] at hc8 ho8 ⊢; have r8 := ho8.bytes))
        | (go_at_call 24; ((with_reducible refine (sealed_any A8 (Blk.body b k r) c8 w8 HL.out.2.2.2.2.2.2.2 r8).mono ?_); (rintro e w9 ⟨A9, c9, rfl, hc9, r9, nw9, B9⟩))))
      go_ret2
      exact ⟨A9, c9, rfl, hc9, r9, step_trans (step_trans B12 B8) B9⟩
    · have hne : ((m : Int) != 32) = true := by simp; omega
      have hp := Lib.hid (RbPost.none_ (Blk.bytesE_len a n r hx hl) (by decide) w)
      clear hm hr hx hl
      go_enter Tryd.func11, Tryd.ntmps11
      go_wp2
      go_ret2
      exact hp.out
theorem bkNumR (l : List UInt8) (h : l.length = 64) : getN l 0 8 = Blk.num l := by
  unfold getN inN inR Blk.num
  rw [h]
  rfl
def RrPost (a : Int) (l : List UInt8) (w : World) (e : Ending) (w' : World) : Prop :=
  ∃ A c, e = .returned (.tuple #[.int .i64 (Blk.readN a l : Int), .slice A (Blk.readB a l).length c, .int .i64 (Blk.readE a l)]) ∧ (Blk.readB a l).length ≤ c ∧ BytesAt w' w'.heap.size A (Blk.readB a l) ∧ Below w.heap.size w w'
theorem RrPost.none_ {a : Int} {l : List UInt8} {x : Int} {w w' : World} (h : Blk.right a l = false) (hx : Blk.readE a l = x) (hB : Below w.heap.size w w') : RrPost a l w (.returned (.tuple #[.int .i64 0, .slice none 0 0, .int .i64 x])) w' :=
  ⟨none, 0, by rw [hx]; simp [Blk.readN, Blk.readB, h], by simp [Blk.readB, h], by simp only [Blk.readB, h]; exact bytes_nil, hB⟩
theorem bytes_string_n {W : World} {B : Nat} {A : Option Addr} {l : List UInt8} (h : BytesAt W B A l) (n : Nat) (hn : l.length = n) (c : Nat) :
    (convert 22 9 (.slice A n c)).run Tryd.prog W = .ok (.string ⟨l.toArray⟩) W := by
  subst hn; exact bytes_string h c
set_option maxRecDepth 100000 in
set_option maxHeartbeats 2000000 in
theorem refRead7_any (a : Int) (A : Option Addr) (l : List UInt8) (m c : Nat) (hm : l.length = m) (hmc : m ≤ c) (w : World) (hr : BytesAt w w.heap.size A l) : Calls Tryd.prog 13 #[.slice A m c, .int .i64 a] w (RrPost a l w) := by
  by_cases h64 : m = 64
  · subst h64
    have zg : ∀ w1, BytesAt w1 w1.heap.size A l → _ := fun w1 h => refGetLong_any A l c 0 w1 (by rw [hm]; decide) h
    simp only [bkNumR l hm] at zg
    rw [hm] at zg
    simp only [flt, show getE 64 0 8 = 0 from rfl, show getA 64 0 8 = 0 from rfl] at zg
    have hdl := Blk.dat_length hm
    by_cases hb : 1099511627776 < Blk.num l
    · have hright : Blk.right a l = false := by
        rw [← Bool.not_eq_true, Blk.right_iff]
        rintro ⟨_, h2, _⟩
        have := (Blk.bytesE_zero _ _ _).1 h2
        omega
      have hp : ∀ w', Below w.heap.size w w' → RrPost a l w (.returned (.tuple #[.int .i64 0, .slice none 0 0, .int .i64 11])) w' := fun w' hB => RrPost.none_ hright (Blk.readE_bad hm hright) hB
      replace hp := Lib.hid hp
      obtain ⟨n, hn⟩ : ∃ n, n = Blk.num l := ⟨_, rfl⟩
      rw [← hn] at zg hb
      have h2 : (1099511627776 : Int) < (n : Int) := by omega
      clear hm hdl hb hright hn hmc
      go_enter Tryd.func13, Tryd.ntmps13
      go_wp2_with (go_at_call 28; refine (zg _ hr).mono ?_; (rintro e w2 ⟨rfl, B2⟩))
      go_ret3
      exact hp.out _ (step_trans B2 (fault_below w2 0 0))
    · have q10 : ∀ W, (Instr.slice 22 (.slice A 64 c) (some (.int .i64 10)) (some (.int .i64 42)) none).run Tryd.prog W = .ok (.slice (cutA A 10 c) 32 (c - 10)) W := fun W => cut_both A 64 c 10 32 (by omega) W
      have hcut : ∀ w1, BytesAt w1 w1.heap.size A l → BytesAt w1 w1.heap.size (cutA A 10 c) (Blk.dat l) := fun w1 h => (h.drop 10 c (by omega)).take 32
      have zb := fun w1 A1 c1 h => refBytes7_any a (Blk.num l : Int) A1 (Blk.dat l) 32 c1 hdl w1 h
      unfold RbPost at zb
      replace hcut := Lib.hid hcut
      by_cases hz : Blk.bytesE a (Blk.num l : Int) (Blk.dat l) = 0
      · obtain ⟨ha0, _⟩ := (Blk.bytesE_zero _ _ _).1 hz
        obtain ⟨b, rfl⟩ : ∃ b : Nat, a = (b : Int) := ⟨a.toNat, by omega⟩
        have e2 := Blk.bytesB_good b (Blk.num l) (Blk.dat l) hz
        have hsl := Blk.sect_length b (Blk.num l) (Blk.dat l) hdl
        rw [hz, e2, hsl] at zb
        by_cases hs : Blk.sect b (Blk.num l) (Blk.dat l) = l
        · have hright : Blk.right (b : Int) l = true := by
            rw [Blk.right_iff, Int.toNat_natCast]
            exact ⟨hm, hz, hs⟩
          have hp : ∀ A' c' w', 32 ≤ c' → BytesAt w' w'.heap.size A' (Blk.dat l) → Below w.heap.size w w' → RrPost (b : Int) l w (.returned (.tuple #[.int .i64 (Blk.num l : Int), .slice A' 32 c', .int .i64 0])) w' := fun A' c' w' h1 h2 h3 =>
            ⟨A', c', by rw [(Blk.readE_zero _ _).2 hright]; simp only [Blk.readN, Blk.readB, hright, if_true]; rw [hdl], by simp only [Blk.readB, hright, if_true]; rw [hdl]; exact h1, by simp only [Blk.readB, hright, if_true]; exact h2, h3⟩
          replace hp := Lib.hid hp
          rw [hs] at zb
          obtain ⟨n, hn⟩ : ∃ n, n = Blk.num l := ⟨_, rfl⟩
          obtain ⟨d, hd⟩ : ∃ x, x = Blk.dat l := ⟨_, rfl⟩
          rw [← hn, ← hd] at zb hp
          rw [← hn] at zg hb
          rw [← hd] at hcut hdl
          have h2 : ¬ (1099511627776 : Int) < (n : Int) := by omega
          have en : IntKind.i64.wrap (n : Int) = (n : Int) := IntWalk.i64_in _ (by omega)
          have HK := Lib.hid (And.intro hdl hm)
          clear hm hn hd hs hright hsl hdl hz e2 ha0 hb hmc
          go_enter Tryd.func13, Tryd.ntmps13
          go_wp2_with (first
            | (go_at_call 28; refine (zg _ hr).mono ?_; (rintro e w3 ⟨rfl, B3⟩; obtain ⟨o4, B4, hs4⟩ := own_behind w3 0 0; have hs3 := B3.size; have B4' := step_trans B3 B4; have r3 := hr.step B3; have r4 := r3.step B4; have r3b := r3.below B4; have rc4 := hcut.out _ r4; have B4' := Lib.hid B4'))
            | (at_builtin; refine wpList_appendB rfl (.tmp 24) (.tmp 26) 22 rfl rfl w3.heap.size _ [] rfl o4 (cutA A 10 c) d 32 (c - 10) _ rfl HK.out.1 rc4 (by rw [HK.out.1]; decide) hs4 ?_; (intro v5 w5 ho5 hg5 hat5; have B5 := grown_step hg5 o4 hs4; have c5' := B4'.out.trans (B5.mono hs3); have r5 : BytesAt w5 w5.heap.size A l := (r3b.below B5).more (Nat.le_trans hs4 B5.size); rw [List.nil_append] at ho5; obtain ⟨A5, c5, rfl, hc5⟩ := ho5.form; rw [HK.out.1] at ho5 hc5 ⊢; have rc5 := ho5.bytes; clear ho5))
            | (go_at_call 11; refine (zb w5 A5 c5 rc5).mono ?_; (rintro e w6 ⟨A6, c6, rfl, hc6, r6, B6⟩; have rr6 := r5.step B6; have qs := bytes_string_n r6 64 HK.out.2 c6; have qt := bytes_string_n rr6 64 HK.out.2 c; have HC := Lib.hid (And.intro hc5 (And.intro (rc5.step B6) (step_trans c5' B6))))))
          go_ret3
          exact hp.out A5 c5 w6 HC.out.1 HC.out.2.1 HC.out.2.2
        · have hright : Blk.right (b : Int) l = false := by
            rw [← Bool.not_eq_true, Blk.right_iff, Int.toNat_natCast]
            exact fun x => hs x.2.2
          have hp : ∀ w', Below w.heap.size w w' → RrPost (b : Int) l w (.returned (.tuple #[.int .i64 0, .slice none 0 0, .int .i64 11])) w' := fun w' hB => RrPost.none_ hright (Blk.readE_bad hm hright) hB
          replace hp := Lib.hid hp
          obtain ⟨n, hn⟩ : ∃ n, n = Blk.num l := ⟨_, rfl⟩
          obtain ⟨d, hd⟩ : ∃ x, x = Blk.dat l := ⟨_, rfl⟩
          rw [← hn, ← hd] at zb hs hsl
          obtain ⟨s, hsx⟩ : ∃ x, x = Blk.sect b n d := ⟨_, rfl⟩
          rw [← hsx] at zb hs hsl
          rw [← hn] at zg hb
          rw [← hd] at hcut hdl
          have h2 : ¬ (1099511627776 : Int) < (n : Int) := by omega
          have en : IntKind.i64.wrap (n : Int) = (n : Int) := IntWalk.i64_in _ (by omega)
          have HK := Lib.hid (And.intro hdl (And.intro hm hsl))
          have hsb : (s == l) = false := by simpa using hs
          have hsb' : (s != l) = true := by simpa using hs
          clear hm hn hd hright hsl hdl hz e2 ha0 hb hsx hmc
          go_enter Tryd.func13, Tryd.ntmps13
          go_wp2_with (first
            | (go_at_call 28; refine (zg _ hr).mono ?_; (rintro e w3 ⟨rfl, B3⟩; obtain ⟨o4, B4, hs4⟩ := own_behind w3 0 0; have hs3 := B3.size; have B4' := step_trans B3 B4; have r3 := hr.step B3; have r4 := r3.step B4; have r3b := r3.below B4; have rc4 := hcut.out _ r4; have B4' := Lib.hid B4'))
            | (at_builtin; refine wpList_appendB rfl (.tmp 24) (.tmp 26) 22 rfl rfl w3.heap.size _ [] rfl o4 (cutA A 10 c) d 32 (c - 10) _ rfl HK.out.1 rc4 (by rw [HK.out.1]; decide) hs4 ?_; (intro v5 w5 ho5 hg5 hat5; have B5 := grown_step hg5 o4 hs4; have c5' := B4'.out.trans (B5.mono hs3); have r5 : BytesAt w5 w5.heap.size A l := (r3b.below B5).more (Nat.le_trans hs4 B5.size); rw [List.nil_append] at ho5; obtain ⟨A5, c5, rfl, hc5⟩ := ho5.form; rw [HK.out.1] at ho5 hc5 ⊢; have rc5 := ho5.bytes; clear ho5))
            | (go_at_call 11; refine (zb w5 A5 c5 rc5).mono ?_; (rintro e w6 ⟨A6, c6, rfl, hc6, r6, B6⟩; have rr6 := r5.step B6; have qs := bytes_string_n r6 64 HK.out.2.2 c6; have qt := bytes_string_n rr6 64 HK.out.2.1 c; have HC := Lib.hid (step_trans c5' B6))))
          go_ret3
          exact hp.out _ HC.out
      · have hright : Blk.right a l = false := by
          rw [← Bool.not_eq_true, Blk.right_iff]
          exact fun x => hz x.2.1
        have hp : ∀ w', Below w.heap.size w w' → RrPost a l w (.returned (.tuple #[.int .i64 0, .slice none 0 0, .int .i64 11])) w' := fun w' hB => RrPost.none_ hright (Blk.readE_bad hm hright) hB
        replace hp := Lib.hid hp
        obtain ⟨be, hbe⟩ : ∃ x, x = Blk.bytesE a (Blk.num l : Int) (Blk.dat l) := ⟨_, rfl⟩
        obtain ⟨bb, hbb⟩ : ∃ x, x = Blk.bytesB a (Blk.num l : Int) (Blk.dat l) := ⟨_, rfl⟩
        rw [← hbe, ← hbb] at zb
        rw [← hbe] at hz
        have hne : (be != 0) = true := by simpa using hz
        obtain ⟨n, hn⟩ : ∃ n, n = Blk.num l := ⟨_, rfl⟩
        obtain ⟨d, hd⟩ : ∃ x, x = Blk.dat l := ⟨_, rfl⟩
        rw [← hn] at zg hb
        rw [← hn, ← hd] at zb
        rw [← hd] at hcut hdl
        have h2 : ¬ (1099511627776 : Int) < (n : Int) := by omega
        have en : IntKind.i64.wrap (n : Int) = (n : Int) := IntWalk.i64_in _ (by omega)
        have HK := Lib.hid hdl
        clear hm hn hd hright hdl hz hb hbe hbb hmc
        go_enter Tryd.func13, Tryd.ntmps13
        go_wp2_with (first
          | (go_at_call 28; refine (zg _ hr).mono ?_; (rintro e w3 ⟨rfl, B3⟩; obtain ⟨o4, B4, hs4⟩ := own_behind w3 0 0; have hs3 := B3.size; have B4' := step_trans B3 B4; have r3 := hr.step B3; have r4 := r3.step B4; have rc4 := hcut.out _ r4; have B4' := Lib.hid B4'))
          | (at_builtin; refine wpList_appendB rfl (.tmp 24) (.tmp 26) 22 rfl rfl w3.heap.size _ [] rfl o4 (cutA A 10 c) d 32 (c - 10) _ rfl HK.out rc4 (by rw [HK.out]; decide) hs4 ?_; (intro v5 w5 ho5 hg5 hat5; have B5 := grown_step hg5 o4 hs4; have c5' := B4'.out.trans (B5.mono hs3); rw [List.nil_append] at ho5; obtain ⟨A5, c5, rfl, hc5⟩ := ho5.form; rw [HK.out] at ho5 hc5 ⊢; have rc5 := ho5.bytes; clear ho5))
          | (go_at_call 11; refine (zb w5 A5 c5 rc5).mono ?_; (rintro e w6 ⟨A6, c6, rfl, hc6, r6, B6⟩; have HC := Lib.hid (step_trans c5' B6))))
        go_ret3
        exact hp.out _ HC.out
  · have hne : ((m : Int) != 64) = true := by simp; omega
    have hp := Lib.hid (RrPost.none_ (a := a) (w := w) (w' := w) (Blk.right_len (b := l) (by rw [hm]; exact h64)) (Blk.readE_len (by rw [hm]; exact h64)) (Below.refl _ _))
    clear hr hm h64
    go_enter Tryd.func13, Tryd.ntmps13
    go_wp2
    go_ret3
    exact hp.out
end Go.Proofs.YtmbloclkinghnaaDoor
