/-
  tandemref12: Put, Get. Conditions: the bytes can be read.
-/
import Derived.Test.YtfiijnpabmocdaaDoorFrAwake
import Derived.Test.YtfiijnpabmocdaaDoorFixRef
import Derived.Test.YtfiijnpabmocdaaDoorCrcRef
namespace Go.Proofs.YtfiijnpabmocdaaDoor
open Go.RowKit Fix

theorem lit_own (W : World) (l : List UInt8) (n : Nat) (hn : l.length = n) (hm : n ≤ 1000) : OwnB (W.alloc (.cells (cellsOfBytes l).toArray 5)) W.heap.size (.slice (some ⟨W.heap.size, 0, none⟩) n n) l := by
  subst hn
  refine ⟨by simp [cellsOfBytes], .inr ⟨W.heap.size, l.length, (cellsOfBytes l).toArray, rfl, Nat.le_refl _, heap_alloc_new W _, Nat.le_refl _, by unfold maxLen; omega, by simp [cellsOfBytes], ?_⟩⟩
  simp only [cellsOfBytes, Nat.mul_one]
  exact List.take_of_length_le (by simp)
theorem refSum_n (A : Option Addr) (l : List UInt8) (n c : Nat) (hn : l.length = n) (w : World) (hl : n ≤ 1000000) (hr : BytesAt w w.heap.size A l) :
    Calls Tryd.prog 25 #[.slice A n c] w fun e w' => e = .returned (.int .u32 (Crc.sum l : Int)) ∧ w = w' := by
  subst hn
  exact refSum_any A l c w.heap.size w hl hr
theorem nil_own (w4 : World) : OwnB ((w4.alloc fz).alloc (.cells #[] 5)) (w4.heap.size + 1) (.slice (some ⟨w4.heap.size + 1, 0, none⟩) 0 0) [] := by
  have h := lit_own (w4.alloc fz) [] 0 rfl (by decide)
  rw [show (w4.alloc fz).heap.size = w4.heap.size + 1 by simp] at h
  exact h
def FrRefPost (p : List UInt8) (w : World) (e : Ending) (w' : World) : Prop :=
  ∃ A c, e = .returned (.tuple #[.slice A (Frm.putB p).length c, .int .i64 (Frm.putE p)]) ∧ BytesAt w' w'.heap.size A (Frm.putB p) ∧ Below w.heap.size w w'
theorem frrefPut_long (P : Option Addr) (p : List UInt8) (n c : Nat) (hn : p.length = n) (w : World) (h : 200 < n) : Calls Tryd.prog 9 #[.slice P n c] w (FrRefPost p w) := by
  have e1 : Frm.putB p = [] := by unfold Frm.putB; rw [if_neg (by omega)]
  have e2 : Frm.putE p = 3 := by unfold Frm.putE; rw [if_neg (by omega)]
  have HP := Lib.hid (show FrRefPost p w (.returned (.tuple #[.slice none 0 0, .int .i64 3])) w from ⟨none, 0, by rw [e1, e2]; rfl, by rw [e1]; exact bytes_nil, Below.refl _ _⟩)
  have i1 : (200 : Int) < (n : Int) := by omega
  clear hn h e1 e2
  go_enter Tryd.func9, Tryd.ntmps9
  go_wp2
  go_ret2
  exact HP.out
set_option maxRecDepth 100000 in
set_option maxHeartbeats 1000000 in
theorem frrefPut_good (P : Option Addr) (p : List UInt8) (n c : Nat) (hn : p.length = n) (w : World) (hr : BytesAt w w.heap.size P p) (h : n ≤ 200) : Calls Tryd.prog 9 #[.slice P n c] w (FrRefPost p w) := by
  have e1 : Frm.putB p = Frm.enc p := by unfold Frm.putB; rw [if_pos (by omega)]
  have e2 : Frm.putE p = 0 := by unfold Frm.putE; rw [if_pos (by omega)]
  have zp := refPut_any (n : Int) 2 w (by omega)
  have p1 := putBE_good (n : Int) 2 (by decide) (by rw [fitsB_iff]; exact ⟨by omega, by show (n : Int) < 65536; omega⟩)
  unfold PutPost at zp
  rw [p1.1, p1.2, Int.toNat_natCast, show (2 : Int).toNat = 2 from rfl, dig_length] at zp
  have hb1 : ([84, 68, 1] : List UInt8) ++ dig n 2 ++ p = Frm.body p := by rw [Frm.body, Frm.head, hn]
  have hbl : (Frm.body p).length = n + 5 := by rw [Frm.body_length, hn]
  have zs := fun A1 c1 w1 a1 => refSum_n A1 (Frm.body p) (n + 5) c1 hbl w1 (by omega) a1
  have zw := fun w1 => refWord_any (Crc.sum (Frm.body p)) (Crc.sum_lt _) w1
  unfold RefPost at zw
  have HE := Lib.hid (And.intro e1 (And.intro e2 (And.intro (show (Frm.enc p).length = n + 9 by rw [Frm.enc_length, hn]) (show Frm.body p ++ dig (Crc.sum (Frm.body p)) 4 = Frm.enc p from rfl))))
  have HB := Lib.hid (And.intro hb1 (And.intro hbl (And.intro hn h)))
  have h3 : ([84, 68, 1] ++ dig n 2).length = 5 := by rw [List.length_append, dig_length]; rfl
  have H3 := Lib.hid h3
  have i1 : ¬ (200 : Int) < (n : Int) := by omega
  obtain ⟨b, hb⟩ : ∃ b, b = Frm.body p := ⟨_, rfl⟩
  rw [← hb] at zs zw HB HE
  obtain ⟨x, hx⟩ : ∃ x, x = Frm.enc p := ⟨_, rfl⟩
  rw [← hx] at HE
  clear e1 e2 p1 hb1 hbl hb hn hx h h3
  go_enter Tryd.func9, Tryd.ntmps9
  go_wp2_with (first
    | (go_at_call 23; refine zp.mono ?_; (rintro e w1 ⟨A1, c1, rfl, hc1, b1, B1⟩; have r1 := Lib.hid ((hr.step B1).stepA (.cells #[.int .u8 84, .int .u8 68, .int .u8 1] 5)); have b2 := b1.stepA (.cells #[.int .u8 84, .int .u8 68, .int .u8 1] 5); have C1 := Lib.hid (step_alloc B1 (.cells #[.int .u8 84, .int .u8 68, .int .u8 1] 5)); have S1 := Lib.hid B1.size; have own1 := lit_own w1 [84, 68, 1] 3 rfl (by decide)))
    | (at_builtin; refine wpList_appendB rfl (.tmp 17) (.tmp 18) 22 rfl rfl w1.heap.size _ [84, 68, 1] rfl own1 A1 (dig n 2) 2 c1 _ rfl (dig_length _ _) b2 (by rw [dig_length]; decide) (by simp) ?_; (intro v2 w2 ho2 hg2 hat2; have B2 : Below w1.heap.size w1 w2 := ((Below.refl _ w1).alloc (Nat.le_refl _) _).grown hg2 (by simp) (fun k hk => Nat.le_of_eq (Option.some.inj hk)); have r2 := Lib.hid (hr.step (step_trans B1 B2)); obtain ⟨A2, c2, rfl, hc2⟩ := ho2.form; rw [H3.out] at ho2 hc2 ⊢))
    | (at_builtin; refine wpList_appendB rfl (.tmp 20) (.tmp 21) 22 rfl rfl w1.heap.size _ ([84, 68, 1] ++ dig n 2) rfl ho2 P p n c w2.heap.size rfl HB.out.2.2.1 r2.out (by have := HB.out.2.2; rw [H3.out]; omega) B2.size ?_; (intro v3 w3 ho3 hg3 hat3; have B3 : Below w1.heap.size w1 w3 := B2.grown hg3 B2.size (fun j hj => (ho2.lt j hj).1); rw [HB.out.1] at ho3; obtain ⟨A3, c3, rfl, hc3⟩ := ho3.form; rw [HB.out.2.1] at ho3 hc3 ⊢))
    | (go_at_call 25; (with_reducible refine (zs A3 c3 w3 ho3.bytes).mono ?_); (rintro e w4 ⟨rfl, rfl⟩))
    | (go_at_call 24; (with_reducible refine (zw w3).mono ?_); (rintro e w5 ⟨A5, c5, rfl, hc5, o5, B5⟩; have b5 := o5.bytes; have o35 := ho3.below B5; have S5 := Lib.hid (Nat.le_trans B3.size B5.size); have B15 := B3.trans (B5.mono B3.size)))
    | (at_builtin; refine wpList_appendB rfl (.tmp 26) (.tmp 27) 22 rfl rfl w1.heap.size _ b rfl o35 A5 (dig (Crc.sum b) 4) 4 c5 w5.heap.size rfl (dig_length _ _) b5 (by have := HB.out.2; rw [dig_length]; omega) S5.out ?_; (intro v6 w6 ho6 hg6 hat6; have B6 : Below w1.heap.size w1 w6 := B15.grown hg6 S5.out (fun j hj => (o35.lt j hj).1); rw [HE.out.2.2.2] at ho6; obtain ⟨A6, c6, rfl, hc6⟩ := ho6.form; rw [HE.out.2.2.1] at ho6 hc6 ⊢)))
  go_ret2
  exact ⟨A6, c6, by rw [HE.out.1, HE.out.2.1, HE.out.2.2.1]; rfl, by rw [HE.out.1]; exact ho6.bytes, step_trans B1 B6⟩
theorem frrefPut_any (P : Option Addr) (p : List UInt8) (n c : Nat) (hn : p.length = n) (w : World) (hr : BytesAt w w.heap.size P p) : Calls Tryd.prog 9 #[.slice P n c] w (FrRefPost p w) := by
  by_cases h : 200 < n
  · exact frrefPut_long P p n c hn w h
  · exact frrefPut_good P p n c hn w hr (by omega)
/-- the result's block, later on -/
theorem one_at (w w' : World) (B : Below (w.alloc fz).heap.size (w.alloc fz) w') :
    (w'.cell? ⟨w.heap.size, 0, none⟩ = some (.int .i64 0) ∧ w'.cell? ⟨w.heap.size, 1, none⟩ = some (.int .i64 0) ∧ w'.frozen? ⟨w.heap.size, 0, none⟩ = false ∧ w'.frozen? ⟨w.heap.size, 1, none⟩ = false) ∧ Below w.heap.size w w' := by
  have g := (B.block w.heap.size (by simp)).trans (heap_alloc_new w _)
  refine ⟨⟨by simp [World.cell?, g], by simp [World.cell?, g], by simp [World.frozen?, g], by simp [World.frozen?, g]⟩, step_trans (step_alloc (Below.refl _ w) fz) B⟩
theorem cell_zero {l : List UInt8} {n : Nat} (hn : l.length = n) (h9 : 9 ≤ n) {ad : Addr} {w : World} (h : BytesAt w w.heap.size (some ad) l) (k : Nat) (hk : k < 9) : w.cell? (ad.add k) = some (.int .u8 ((l.getD k 0).toNat : Int)) := by
  obtain ⟨ad', e, _, hc⟩ := h (by rintro rfl; simp at hn; omega)
  cases e
  exact hc k (by omega)
def FrRgPost (l : List UInt8) (w : World) (e : Ending) (w' : World) : Prop :=
  ∃ A c, e = .returned (.tuple #[.slice A (Frm.getB l).length c, flt (Frm.wrongE l) (Frm.wrongA l)]) ∧ BytesAt w' w'.heap.size A (Frm.getB l) ∧ Below w.heap.size w w'
theorem rg_done {l : List UInt8} {w w' : World} {e a : Int} (h : Frm.wrongE l = e ∧ Frm.wrongA l = a) (he : e ≠ 0) (B : Below w.heap.size w w') : FrRgPost l w (.returned (.tuple #[.slice none 0 0, flt e a])) w' := by
  have e1 : Frm.getB l = [] := by unfold Frm.getB; rw [if_neg (by rw [h.1]; exact he)]
  exact ⟨none, 0, by rw [e1, h.1, h.2]; rfl, by rw [e1]; exact bytes_nil, B⟩
theorem rg_keep {w6 : World} {base q n c : Nat} {A : Option Addr} {p : List UInt8} (hb : BytesAt w6 w6.heap.size A p) (ho : OwnB w6 base (.slice A n c) p) (hq : q < base) : BytesAt ((w6.setCell ⟨q, 0, none⟩ (.int .i64 0)).setCell ⟨q, 1, none⟩ (.int .i64 0)) ((w6.setCell ⟨q, 0, none⟩ (.int .i64 0)).setCell ⟨q, 1, none⟩ (.int .i64 0)).heap.size A p := fun hne => by
  obtain ⟨ad, e, hl, hc⟩ := hb hne
  have hblk : base ≤ ad.block := by
    subst e
    exact (ho.lt ad.block rfl).1
  refine ⟨ad, e, by simpa using hl, fun k hk => ?_⟩
  rw [← hc k hk]
  have hF : Frame (fun x => x = q) w6 ((w6.setCell ⟨q, 0, none⟩ (.int .i64 0)).setCell ⟨q, 1, none⟩ (.int .i64 0)) := ((Frame.refl (fun x => x = q) w6).setAt ⟨q, 0, none⟩ _ rfl).setAt ⟨q, 1, none⟩ _ rfl
  have := hF.block (ad.add k).block (by rw [block_add]; exact hl) (by rw [block_add]; omega)
  simp only [World.cell?, this]
theorem rgSize (A : Option Addr) (l : List UInt8) (n c : Nat) (hn : l.length = n) (h9 : 9 ≤ n) (h1 : n ≤ 1000) (w : World) (hr : BytesAt w w.heap.size A l) :
    Calls Tryd.prog 28 #[.slice A n c, .int .i64 3, .int .i64 2] w fun e w' => e = .returned (.tuple #[.int .i64 (Frm.size l : Int), .int .i64 5, .agg #[.int .i64 0, .int .i64 0]]) ∧ Below w.heap.size w w' := by
  subst hn
  have z := refGet_any A l c 3 2 w (by omega) hr
  have e1 : isz 2 = true := by decide
  have e2 : inR l.length 3 = true := (inR_iff _ _).2 ⟨by decide, by omega⟩
  have e3 : inN l.length 3 2 = true := (inN_iff _ _ 2).2 ⟨by decide, by omega, by omega⟩
  simp only [getsN, getsP, getsE, getsA, e1, if_true, getN, getP, getE, getA, show (2 : Int).toNat = 2 from rfl, show (3 : Int).toNat = 3 from rfl, show ((2 : Nat) : Int) = 2 from rfl, e2, e3] at z
  exact z
theorem rgTold (A : Option Addr) (l : List UInt8) (n c s : Nat) (hn : l.length = n) (hs : n = s + 9) (h1 : n ≤ 1000) (w : World) (hr : BytesAt w w.heap.size A l) :
    Calls Tryd.prog 29 #[.slice A n c, .int .i64 ((n : Int) - 4)] w fun e w' => e = .returned (.tuple #[.int .u32 (Frm.told l : Int), .int .i64 (n : Int), .agg #[.int .i64 0, .int .i64 0]]) ∧ Below w.heap.size w w' := by
  subst hn
  have z := refGetWord_any A l c ((l.length : Int) - 4) w (by omega) hr
  have e2 : inR l.length ((l.length : Int) - 4) = true := (inR_iff _ _).2 ⟨by omega, by omega⟩
  have e3 : inN l.length ((l.length : Int) - 4) 4 = true := (inN_iff _ _ 4).2 ⟨by omega, by omega, by omega⟩
  simp only [getN, getP, getE, getA, show ((l.length : Int) - 4).toNat = s + 5 by omega, show ((4 : Nat) : Int) = 4 from rfl, e2, e3, if_true, dig4_drop hs, show (l.length : Int) - 4 + 4 = (l.length : Int) by omega] at z
  exact z
theorem rgSum (A : Option Addr) (l : List UInt8) (n c s : Nat) (hn : l.length = n) (hs : n = s + 9) (h1 : n ≤ 1000) (w : World) (hr : BytesAt w w.heap.size A l) :
    Calls Tryd.prog 25 #[.slice A (s + 5) c] w fun e w' => e = .returned (.int .u32 (Crc.sum (Frm.bare l) : Int)) ∧ w = w' := by
  subst hn
  have hb : Frm.bare l = l.take (s + 5) := by unfold Frm.bare; rw [show l.length - 4 = s + 5 by omega]
  rw [hb]
  exact refSum_n A (l.take (s + 5)) (s + 5) c (by rw [List.length_take]; omega) w (by omega) (hr.take _)
theorem rgCut (A : Option Addr) (n c s : Nat) (hs : n = s + 9) (hc : n ≤ c) (W : World) : (Instr.slice 22 (.slice A n c) none (some (.int .i64 ((n : Int) - 4))) none).run Tryd.prog W = .ok (.slice A (s + 5) c) W := by
  have := cut_to A n c (s + 5) (by omega) W
  rwa [show ((s + 5 : Nat) : Int) = (n : Int) - 4 by omega] at this
theorem rgPay (ad : Addr) (n c s : Nat) (hs : n = s + 9) (hc : n ≤ c) (W : World) : (Instr.slice 22 (.slice (some ad) n c) (some (.int .i64 5)) (some (.int .i64 (5 + (s : Int)))) none).run Tryd.prog W = .ok (.slice (some (ad.add 5)) s (c - 5)) W := by
  have := cut_both (some ad) n c 5 s (by omega) W
  rwa [show cutA (some ad) 5 c = some (ad.add 5) by unfold cutA; rw [if_neg (by omega)]; rfl, show ((5 : Nat) : Int) = 5 from rfl] at this
set_option maxRecDepth 100000 in
set_option maxHeartbeats 1000000 in
theorem rg_1 (A : Option Addr) (l : List UInt8) (n c : Nat) (hn : l.length = n) (w : World) (h : n < 9) : Calls Tryd.prog 11 #[.slice A n c] w (FrRgPost l w) := by
  have HW := Lib.hid (fun w' B => rg_done (w := w) (w' := w') (Frm.wrongE_1 (l := l) (by rw [hn]; exact h)) (by decide) B)
  rw [hn] at HW
  clear hn
  go_enter Tryd.func11, Tryd.ntmps11
  go_wp2
  refine bodyPost_ret (v := .tuple #[.slice none 0 0, flt 4 n]) (by simp [results, Tryd.results11, flt, go_sem]) rfl (HW.out _ ?_)
  exact (Below.refl _ w).alloc (Nat.le_refl _) _
set_option maxRecDepth 100000 in
set_option maxHeartbeats 1000000 in
theorem rg_2a (A : Option Addr) (l : List UInt8) (n c : Nat) (hn : l.length = n) (w : World) (hr : BytesAt w w.heap.size A l) (h : ¬ n < 9) (h2 : l.take 2 ≠ [84, 68]) (g0 : l.getD 0 0 ≠ 84) : Calls Tryd.prog 11 #[.slice A n c] w (FrRgPost l w) := by
  obtain ⟨ad, rfl⟩ := some_addr hn (by omega) hr
  have hr2 := hr.stepA fz
  have HW := Lib.hid (fun w' B => rg_done (w := w) (w' := w') (Frm.wrongE_2 (l := l) (by rw [hn]; exact h) h2) (by decide) B)
  have x0 := cell_zero hn (by omega) hr2 0 (by decide)
  rw [add_zero] at x0
  obtain ⟨y0, hy0, hne0⟩ : ∃ y : UInt8, y = l.getD 0 0 ∧ ((y.toNat : Int) != 84) = true := ⟨_, rfl, by
    rw [bne_iff_ne]
    intro e
    exact g0 (UInt8.toNat_inj.1 (by show _ = 84; omega))⟩
  rw [← hy0] at x0
  clear hn hr h2 g0 hy0 hr2
  go_enter Tryd.func11, Tryd.ntmps11
  go_wp2
  refine bodyPost_ret (v := .tuple #[.slice none 0 0, flt 220 0]) (by simp [results, Tryd.results11, flt, go_sem]) rfl (HW.out _ ?_)
  exact (Below.refl _ w).alloc (Nat.le_refl _) _
set_option maxRecDepth 100000 in
set_option maxHeartbeats 1000000 in
theorem rg_2b (A : Option Addr) (l : List UInt8) (n c : Nat) (hn : l.length = n) (w : World) (hr : BytesAt w w.heap.size A l) (h : ¬ n < 9) (h2 : l.take 2 ≠ [84, 68]) (g0 : l.getD 0 0 = 84) (g1 : l.getD 1 0 ≠ 68) : Calls Tryd.prog 11 #[.slice A n c] w (FrRgPost l w) := by
  obtain ⟨ad, rfl⟩ := some_addr hn (by omega) hr
  have hr2 := hr.stepA fz
  have HW := Lib.hid (fun w' B => rg_done (w := w) (w' := w') (Frm.wrongE_2 (l := l) (by rw [hn]; exact h) h2) (by decide) B)
  have x0 := cell_zero hn (by omega) hr2 0 (by decide)
  rw [add_zero] at x0
  rw [g0] at x0
  have x1 : (w.alloc fz).cell? ⟨ad.block, ad.off + 1, none⟩ = some (.int .u8 ((l.getD 1 0).toNat : Int)) := cell_zero hn (by omega) hr2 1 (by decide)
  obtain ⟨y1, hy1, hne1⟩ : ∃ y : UInt8, y = l.getD 1 0 ∧ ((y.toNat : Int) != 68) = true := ⟨_, rfl, by
    rw [bne_iff_ne]
    intro e
    exact g1 (UInt8.toNat_inj.1 (by show _ = 68; omega))⟩
  rw [← hy1] at x1
  clear hn hr h2 g0 g1 hy1 hr2
  go_enter Tryd.func11, Tryd.ntmps11
  go_wp2
  refine bodyPost_ret (v := .tuple #[.slice none 0 0, flt 220 0]) (by simp [results, Tryd.results11, flt, go_sem]) rfl (HW.out _ ?_)
  exact (Below.refl _ w).alloc (Nat.le_refl _) _
theorem two_bytes {l : List UInt8} (h : 2 ≤ l.length) (h2 : l.take 2 = [84, 68]) : l.getD 0 0 = 84 ∧ l.getD 1 0 = 68 := by
  match l, h with
  | a :: b :: r, _ =>
    simp only [List.take_succ_cons, List.take_zero, List.cons.injEq, and_true] at h2
    exact h2
theorem bytes_two {l : List UInt8} (h : 2 ≤ l.length) (h0 : l.getD 0 0 = 84) (h1 : l.getD 1 0 = 68) : l.take 2 = [84, 68] := by
  match l, h with
  | a :: b :: r, _ =>
    have e0 : a = 84 := h0
    have e1 : b = 68 := h1
    rw [e0, e1]
    rfl
set_option maxRecDepth 100000 in
set_option maxHeartbeats 1000000 in
theorem rg_3 (A : Option Addr) (l : List UInt8) (n c : Nat) (hn : l.length = n) (w : World) (hr : BytesAt w w.heap.size A l) (h : ¬ n < 9) (h2 : l.take 2 = [84, 68]) (g2 : l.getD 2 0 ≠ 1) : Calls Tryd.prog 11 #[.slice A n c] w (FrRgPost l w) := by
  obtain ⟨ad, rfl⟩ := some_addr hn (by omega) hr
  have hr2 := hr.stepA fz
  have HW := Lib.hid (fun w' B => rg_done (w := w) (w' := w') (Frm.wrongE_3 (l := l) (by rw [hn]; exact h) h2 g2) (by decide) B)
  obtain ⟨g0, g1⟩ := two_bytes (by omega) h2
  have x0 := cell_zero hn (by omega) hr2 0 (by decide)
  rw [add_zero] at x0
  rw [g0] at x0
  have x1 : (w.alloc fz).cell? ⟨ad.block, ad.off + 1, none⟩ = some (.int .u8 ((l.getD 1 0).toNat : Int)) := cell_zero hn (by omega) hr2 1 (by decide)
  rw [g1] at x1
  have x2 := cell_two hn (by omega) hr2
  obtain ⟨y2, hy2, hne2⟩ : ∃ y : UInt8, y = l.getD 2 0 ∧ ((y.toNat : Int) != 1) = true := ⟨_, rfl, by
    rw [bne_iff_ne]
    intro e
    exact g2 (UInt8.toNat_inj.1 (by show _ = 1; omega))⟩
  rw [← hy2] at x2
  clear hn hr h2 g0 g1 g2 hy2 hr2
  go_enter Tryd.func11, Tryd.ntmps11
  go_wp2
  refine bodyPost_ret (v := .tuple #[.slice none 0 0, flt 221 2]) (by simp [results, Tryd.results11, flt, go_sem]) rfl (HW.out _ ?_)
  exact (Below.refl _ w).alloc (Nat.le_refl _) _
set_option maxRecDepth 100000 in
set_option maxHeartbeats 1000000 in
theorem rg_4 (A : Option Addr) (l : List UInt8) (n c : Nat) (hn : l.length = n) (h1 : n ≤ 1000) (w : World) (hr : BytesAt w w.heap.size A l) (h : ¬ n < 9) (h2 : l.take 2 = [84, 68]) (h3 : l.getD 2 0 = 1) (h4 : 200 < Frm.size l) : Calls Tryd.prog 11 #[.slice A n c] w (FrRgPost l w) := by
  obtain ⟨ad, rfl⟩ := some_addr hn (by omega) hr
  have hr2 := hr.stepA fz
  obtain ⟨g0, g1⟩ := two_bytes (by omega) h2
  have x0 := cell_zero hn (by omega) hr2 0 (by decide)
  rw [add_zero] at x0
  rw [g0] at x0
  have x1 : (w.alloc fz).cell? ⟨ad.block, ad.off + 1, none⟩ = some (.int .u8 ((l.getD 1 0).toNat : Int)) := cell_zero hn (by omega) hr2 1 (by decide)
  rw [g1] at x1
  have x2 := cell_two hn (by omega) hr2
  rw [h3] at x2
  have zg := rgSize (some ad) l n c hn (by omega) h1 _ hr2
  have HW := Lib.hid (fun w' B => rg_done (w := w) (w' := w') (Frm.wrongE_4 (l := l) (by rw [hn]; exact h) h2 h3 h4) (by decide) B)
  obtain ⟨sz, hsz⟩ : ∃ x, x = Frm.size l := ⟨_, rfl⟩
  rw [← hsz] at zg h4
  have i4 : (200 : Int) < (sz : Int) := by omega
  clear hn hr h2 h3 hr2 hsz h4 g0 g1
  go_enter Tryd.func11, Tryd.ntmps11
  go_wp2_with (first | (go_at_call 28; refine zg.mono ?_; (rintro e w3 ⟨rfl, B3⟩; have D3 := Lib.hid (step_alloc B3 fz); obtain ⟨⟨a0, a1, a2, a3⟩, C3⟩ := one_at w (w3.alloc fz) D3.out; have E3 := Lib.hid C3; clear C3)))
  refine bodyPost_ret (v := .tuple #[.slice none 0 0, flt 3 3]) (by simp [results, Tryd.results11, flt, go_sem, a0, a1]) rfl (HW.out _ ?_)
  exact (E3.out.setCell (Nat.le_refl _) _).setCell (Nat.le_refl _) _
set_option maxRecDepth 100000 in
set_option maxHeartbeats 1000000 in
theorem rg_5 (A : Option Addr) (l : List UInt8) (n c : Nat) (hn : l.length = n) (h1 : n ≤ 1000) (w : World) (hr : BytesAt w w.heap.size A l) (h : ¬ n < 9) (h2 : l.take 2 = [84, 68]) (h3 : l.getD 2 0 = 1) (h4 : ¬ 200 < Frm.size l) (h5 : l.length ≠ Frm.size l + 9) : Calls Tryd.prog 11 #[.slice A n c] w (FrRgPost l w) := by
  obtain ⟨ad, rfl⟩ := some_addr hn (by omega) hr
  have hr2 := hr.stepA fz
  obtain ⟨g0, g1⟩ := two_bytes (by omega) h2
  have x0 := cell_zero hn (by omega) hr2 0 (by decide)
  rw [add_zero] at x0
  rw [g0] at x0
  have x1 : (w.alloc fz).cell? ⟨ad.block, ad.off + 1, none⟩ = some (.int .u8 ((l.getD 1 0).toNat : Int)) := cell_zero hn (by omega) hr2 1 (by decide)
  rw [g1] at x1
  have x2 := cell_two hn (by omega) hr2
  rw [h3] at x2
  have zg := rgSize (some ad) l n c hn (by omega) h1 _ hr2
  have HW := Lib.hid (fun w' B => rg_done (w := w) (w' := w') (Frm.wrongE_5 (l := l) (by rw [hn]; exact h) h2 h3 h4 h5) (by decide) B)
  obtain ⟨sz, hsz⟩ : ∃ x, x = Frm.size l := ⟨_, rfl⟩
  rw [← hsz] at zg h4 h5
  have i4 : ¬ (200 : Int) < (sz : Int) := by omega
  have e1 : IntKind.i64.wrap ((sz : Int) + 9) = (sz : Int) + 9 := IntWalk.i64_in _ (by omega)
  have i5 : ((n : Int) != (sz : Int) + 9) = true := by rw [bne_iff_ne]; omega
  clear hn hr h2 h3 hr2 hsz h4 h5 g0 g1
  go_enter Tryd.func11, Tryd.ntmps11
  go_wp2_with (first | (go_at_call 28; refine zg.mono ?_; (rintro e w3 ⟨rfl, B3⟩; have D3 := Lib.hid (step_alloc B3 fz); obtain ⟨⟨a0, a1, a2, a3⟩, C3⟩ := one_at w (w3.alloc fz) D3.out; have E3 := Lib.hid C3; clear C3)))
  refine bodyPost_ret (v := .tuple #[.slice none 0 0, flt 4 3]) (by simp [results, Tryd.results11, flt, go_sem, a0, a1]) rfl (HW.out _ ?_)
  exact (E3.out.setCell (Nat.le_refl _) _).setCell (Nat.le_refl _) _
set_option maxRecDepth 100000 in
set_option maxHeartbeats 1000000 in
theorem rg_6 (A : Option Addr) (l : List UInt8) (n c : Nat) (hn : l.length = n) (hc : n ≤ c) (h1 : n ≤ 1000) (w : World) (hr : BytesAt w w.heap.size A l) (h : ¬ n < 9) (h2 : l.take 2 = [84, 68]) (h3 : l.getD 2 0 = 1) (h4 : ¬ 200 < Frm.size l) (h5 : l.length = Frm.size l + 9) (h6 : Crc.sum (Frm.bare l) ≠ Frm.told l) : Calls Tryd.prog 11 #[.slice A n c] w (FrRgPost l w) := by
  obtain ⟨ad, rfl⟩ := some_addr hn (by omega) hr
  have hr2 := hr.stepA fz
  obtain ⟨g0, g1⟩ := two_bytes (by omega) h2
  have x0 := cell_zero hn (by omega) hr2 0 (by decide)
  rw [add_zero] at x0
  rw [g0] at x0
  have x1 : (w.alloc fz).cell? ⟨ad.block, ad.off + 1, none⟩ = some (.int .u8 ((l.getD 1 0).toNat : Int)) := cell_zero hn (by omega) hr2 1 (by decide)
  rw [g1] at x1
  have x2 := cell_two hn (by omega) hr2
  rw [h3] at x2
  have zg := rgSize (some ad) l n c hn (by omega) h1 _ hr2
  have HW := Lib.hid (fun w' B => rg_done (w := w) (w' := w') (Frm.wrongE_6 (l := l) (by rw [hn]; exact h) h2 h3 h4 h5 h6) (by decide) B)
  have zw := fun w hr => rgTold (some ad) l n c (Frm.size l) hn (by omega) h1 w hr
  have zr := fun w hr => rgSum (some ad) l n c (Frm.size l) hn (by omega) h1 w hr
  have zs := fun W => rgCut (some ad) n c (Frm.size l) (by omega) hc W
  have i6 : ((Frm.told l : Int) != (Crc.sum (Frm.bare l) : Int)) = true := by rw [bne_iff_ne]; omega
  rw [show ((Frm.size l + 5 : Nat) : Int) = (n : Int) - 4 by omega] at HW
  obtain ⟨sz, hsz⟩ : ∃ x, x = Frm.size l := ⟨_, rfl⟩
  rw [← hsz] at zg h4 h5 zr zs
  have i4 : ¬ (200 : Int) < (sz : Int) := by omega
  have e1 : IntKind.i64.wrap ((sz : Int) + 9) = (sz : Int) + 9 := IntWalk.i64_in _ (by omega)
  have e2 : IntKind.i64.wrap ((n : Int) - 4) = (n : Int) - 4 := IntWalk.i64_in _ (by omega)
  have i5 : ((n : Int) != (sz : Int) + 9) = false := by rw [bne_eq_false_iff_eq]; omega
  have HR := Lib.hid hr2
  obtain ⟨td, htd⟩ : ∃ x, x = Frm.told l := ⟨_, rfl⟩
  obtain ⟨sm, hsm⟩ : ∃ x, x = Crc.sum (Frm.bare l) := ⟨_, rfl⟩
  rw [← htd] at zw i6
  rw [← hsm] at zr i6
  clear hn hr hc h2 h3 hr2 hsz h4 h5 h6 g0 g1 htd hsm
  go_enter Tryd.func11, Tryd.ntmps11
  go_wp2_with (first
    | (go_at_call 28; refine zg.mono ?_; (rintro e w3 ⟨rfl, B3⟩; have D3 := Lib.hid (step_alloc B3 fz); obtain ⟨⟨a0, a1, a2, a3⟩, C3⟩ := one_at w (w3.alloc fz) D3.out; have E3 := Lib.hid C3; clear C3; have R3 := Lib.hid (HR.out.step D3.out)))
    | (go_at_call 29; refine (zw _ R3.out).mono ?_; (rintro e w4 ⟨rfl, B4⟩; have D4 := Lib.hid (step_alloc (step_trans D3.out B4) fz); obtain ⟨⟨a0, a1, a2, a3⟩, C4⟩ := one_at w (w4.alloc fz) D4.out; have E4 := Lib.hid C4; have R4 := Lib.hid (R3.out.step (step_alloc B4 fz)); clear C4))
    | (go_at_call 25; refine (zr _ R4.out).mono ?_; (rintro e w5 ⟨rfl, rfl⟩)))
  refine bodyPost_ret (v := .tuple #[.slice none 0 0, flt 11 ((n : Int) - 4)]) (by simp [results, Tryd.results11, flt, go_sem, a0, a1]) rfl (HW.out _ ?_)
  exact (E4.out.setCell (Nat.le_refl _) _).setCell (Nat.le_refl _) _
set_option maxRecDepth 100000 in
set_option maxHeartbeats 1000000 in
theorem rg_7 (A : Option Addr) (l : List UInt8) (n c : Nat) (hn : l.length = n) (hc : n ≤ c) (h1 : n ≤ 1000) (w : World) (hr : BytesAt w w.heap.size A l) (h : ¬ n < 9) (h2 : l.take 2 = [84, 68]) (h3 : l.getD 2 0 = 1) (h4 : ¬ 200 < Frm.size l) (h5 : l.length = Frm.size l + 9) (h6 : Crc.sum (Frm.bare l) = Frm.told l) : Calls Tryd.prog 11 #[.slice A n c] w (FrRgPost l w) := by
  obtain ⟨ad, rfl⟩ := some_addr hn (by omega) hr
  have hr2 := hr.stepA fz
  obtain ⟨g0, g1⟩ := two_bytes (by omega) h2
  have x0 := cell_zero hn (by omega) hr2 0 (by decide)
  rw [add_zero] at x0
  rw [g0] at x0
  have x1 : (w.alloc fz).cell? ⟨ad.block, ad.off + 1, none⟩ = some (.int .u8 ((l.getD 1 0).toNat : Int)) := cell_zero hn (by omega) hr2 1 (by decide)
  rw [g1] at x1
  have x2 := cell_two hn (by omega) hr2
  rw [h3] at x2
  have zg := rgSize (some ad) l n c hn (by omega) h1 _ hr2
  have hE := Frm.wrongE_7 (by rw [hn]; exact h) h2 h3 h4 h5 h6
  have eb : Frm.getB l = Frm.pay l := by unfold Frm.getB; rw [if_pos hE.1]
  have hk : (Frm.pay l).length = Frm.size l := by unfold Frm.pay; rw [List.length_take, List.length_drop]; omega
  have HW := Lib.hid (fun (A : Option Addr) (c : Nat) (w' : World) (hW : BytesAt w' w'.heap.size A (Frm.pay l)) (B : Below w.heap.size w w') => show FrRgPost l w (.returned (.tuple #[.slice A (Frm.size l) c, flt 0 0])) w' from ⟨A, c, by rw [eb, hk, hE.1, hE.2], by rw [eb]; exact hW, B⟩)
  have hpa := fun w h => pay_at (w := w) (ad := ad) (l := l) n c hn (by omega) hc h
  have HP := Lib.hid (And.intro hk hpa)
  have zq := fun W => rgPay ad n c (Frm.size l) (by omega) hc W
  have zw := fun w hr => rgTold (some ad) l n c (Frm.size l) hn (by omega) h1 w hr
  have zr := fun w hr => rgSum (some ad) l n c (Frm.size l) hn (by omega) h1 w hr
  have zs := fun W => rgCut (some ad) n c (Frm.size l) (by omega) hc W
  have i6 : ((Frm.told l : Int) != (Crc.sum (Frm.bare l) : Int)) = false := by rw [bne_eq_false_iff_eq]; omega
  obtain ⟨sz, hsz⟩ : ∃ x, x = Frm.size l := ⟨_, rfl⟩
  rw [← hsz] at zg h4 h5 zr zs zq HW HP
  have i4 : ¬ (200 : Int) < (sz : Int) := by omega
  have e1 : IntKind.i64.wrap ((sz : Int) + 9) = (sz : Int) + 9 := IntWalk.i64_in _ (by omega)
  have e2 : IntKind.i64.wrap ((n : Int) - 4) = (n : Int) - 4 := IntWalk.i64_in _ (by omega)
  have e3 : IntKind.i64.wrap (5 + (sz : Int)) = 5 + (sz : Int) := IntWalk.i64_in _ (by omega)
  have i5 : ((n : Int) != (sz : Int) + 9) = false := by rw [bne_eq_false_iff_eq]; omega
  have HR := Lib.hid hr2
  obtain ⟨td, htd⟩ : ∃ x, x = Frm.told l := ⟨_, rfl⟩
  obtain ⟨sm, hsm⟩ : ∃ x, x = Crc.sum (Frm.bare l) := ⟨_, rfl⟩
  rw [← htd] at zw i6
  rw [← hsm] at zr i6
  have H200 : sz ≤ 200 := by omega
  obtain ⟨p, hp⟩ : ∃ x, x = Frm.pay l := ⟨_, rfl⟩
  rw [← hp] at HW HP
  clear hE eb hk hpa hp
  clear hn hr hc h2 h3 hr2 hsz h4 h5 h6 g0 g1 htd hsm
  go_enter Tryd.func11, Tryd.ntmps11
  go_wp2_with (first
    | (go_at_call 28; refine zg.mono ?_; (rintro e w3 ⟨rfl, B3⟩; have D3 := Lib.hid (step_alloc B3 fz); obtain ⟨⟨a0, a1, a2, a3⟩, C3⟩ := one_at w (w3.alloc fz) D3.out; have E3 := Lib.hid C3; clear C3; have R3 := Lib.hid (HR.out.step D3.out)))
    | (go_at_call 29; refine (zw _ R3.out).mono ?_; (rintro e w4 ⟨rfl, B4⟩; have D4 := Lib.hid (step_alloc (step_trans D3.out B4) fz); obtain ⟨⟨a0, a1, a2, a3⟩, C4⟩ := one_at w (w4.alloc fz) D4.out; have E4 := Lib.hid C4; have R4 := Lib.hid (R3.out.step (step_alloc B4 fz)); have own5 := Lib.hid (nil_own w4); clear C4))
    | (go_at_call 25; refine (zr _ R4.out).mono ?_; (rintro e w5 ⟨rfl, rfl⟩))
    | (at_builtin; refine wpList_appendB rfl (.tmp 68) (.tmp 72) 22 rfl rfl (w4.heap.size + 1) _ [] rfl own5.out (some (ad.add 5)) p sz (c - 5) _ rfl HP.out.1 (HP.out.2 _ (R4.out.stepA (.cells #[] 5))) (by have := HP.out.1; simp; omega) (by simp) ?_; (intro v6 w6 ho6 hg6 hat6; rw [List.nil_append] at ho6; have B6 : Below (w4.alloc fz).heap.size (w4.alloc fz) w6 := ((Below.refl _ _).alloc (Nat.le_refl _) _).grown hg6 (by simp) (fun k hk => by have e := Option.some.inj hk; simp only [World.size_alloc]; exact Nat.le_of_eq e); obtain ⟨A6, c6, rfl, hc6⟩ := ho6.form; rw [HP.out.1] at ho6 hc6 ⊢; obtain ⟨⟨a0, a1, a2, a3⟩, C6⟩ := one_at w w6 (step_trans D4.out B6); have E6 := Lib.hid (And.intro C6 (And.intro ho6.bytes D4.out.size)); have own6 := Lib.hid ho6; clear C6 ho6)))
  refine bodyPost_ret (v := .tuple #[.slice A6 sz c6, flt 0 0]) (by simp [results, Tryd.results11, flt, go_sem, a0, a1]) rfl (HW.out A6 c6 _ ?_ ((E6.out.1.setCell (Nat.le_refl _) _).setCell (Nat.le_refl _) _))
  exact rg_keep E6.out.2.1 own6.out (by have := E6.out.2.2; simp at this; simp; omega)
theorem frrefGet_any (A : Option Addr) (l : List UInt8) (n c : Nat) (hn : l.length = n) (hc : n ≤ c) (h1 : n ≤ 1000) (w : World) (hr : BytesAt w w.heap.size A l) : Calls Tryd.prog 11 #[.slice A n c] w (FrRgPost l w) := by
  by_cases g : n < 9
  · exact rg_1 A l n c hn w g
  by_cases g2 : l.take 2 = [84, 68]
  case neg =>
    by_cases x0 : l.getD 0 0 = 84
    · by_cases x1 : l.getD 1 0 = 68
      · exact absurd (bytes_two (by omega) x0 x1) g2
      · exact rg_2b A l n c hn w hr g g2 x0 x1
    · exact rg_2a A l n c hn w hr g g2 x0
  by_cases g3 : l.getD 2 0 = 1
  case neg => exact rg_3 A l n c hn w hr g g2 g3
  by_cases g4 : 200 < Frm.size l
  · exact rg_4 A l n c hn h1 w hr g g2 g3 g4
  by_cases g5 : l.length = Frm.size l + 9
  case neg => exact rg_5 A l n c hn h1 w hr g g2 g3 g4 g5
  by_cases g6 : Crc.sum (Frm.bare l) = Frm.told l
  · exact rg_7 A l n c hn hc h1 w hr g g2 g3 g4 g5 g6
  · exact rg_6 A l n c hn hc h1 w hr g g2 g3 g4 g5 g6
end Go.Proofs.YtfiijnpabmocdaaDoor
