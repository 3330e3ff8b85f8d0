/-
  The walk of NetOrder. Conditions: the calls can be read.
-/
import Derived.Test.YtplfhlmipdlmnaaNtOrder
import Derived.Test.YtplfhlmipdlmnaaNtFullWalk
import Derived.Test.YtplfhlmipdlmnaaRegTail
namespace Go.Proofs.Ytplfhlmipdlmnaa
open Go.RowKit Nt

theorem woI_push (want : List (Nat × Nat)) (x : Int) : (woI want ++ [Value.int .i64 x]).length = want.length + 1 := by rw [List.length_append, woI_len]; rfl
theorem od_cells {w : World} {B : Nat} {A : Option Addr} {x y : UInt8} (h : BytesAt w B A [x, y]) : ∃ ad, A = some ad ∧ w.cell? ad = some (.int .u8 (x.toNat : Int)) ∧ w.cell? ⟨ad.block, ad.off + 1, none⟩ = some (.int .u8 (y.toNat : Int)) := by
  obtain ⟨ad, e, _, hc⟩ := h (by simp)
  have h0 := hc 0 (by simp)
  have h1 := hc 1 (by simp)
  rw [add_zero] at h0
  exact ⟨ad, e, h0, h1⟩
set_option maxRecDepth 100000 in
set_option maxHeartbeats 8000000 in
theorem ntOrder_any (A0 : Option Addr) (ms : List NaM) (c0 : Nat) (cb : List Bool) (hcb : cb.length = 6) (w : World) (hA : NasAt w w.heap.size A0 ms) : Calls Try.prog 7 #[.slice A0 ms.length c0, .agg (cb.map Value.bool).toArray] w fun en w' => en = .returned (.bool true) ∧ Below w.heap.size w w' := by
  obtain ⟨cs, hcs⟩ : ∃ cs, cs = cb.map Value.bool := ⟨_, rfl⟩
  obtain ⟨wb, hwb⟩ : ∃ wb, wb = w.alloc (.cells cs.toArray 54) := ⟨_, rfl⟩
  have Bb : Below w.heap.size w wb := by rw [hwb]; exact step_alloc (Below.refl _ w) _
  have bb : BlkR 54 wb w.heap.size cs := by rw [hwb]; exact BlkR.new w _ _
  obtain ⟨cut, hcut⟩ : ∃ cut : Nat → Bool, cut = fun k => cb.getD k false := ⟨_, rfl⟩
  have hcat : ∀ k, k < 6 → cs[k]? = some (.bool (cut k)) := fun k hk => by
    rw [hcs, hcut, List.getElem?_map, List.getElem?_eq_getElem (by omega)]
    simp [List.getD_eq_getElem?_getD, List.getElem?_eq_getElem (show k < cb.length by omega)]
  have za := ntAwake_any wb
  have zn := fun w1 => nz_new w1 w1 (Below.refl _ w1)
  obtain ⟨n, hn⟩ : ∃ n, n = ms.length := ⟨_, rfl⟩
  obtain ⟨gb, hgb⟩ : ∃ g, g = w.heap.size := ⟨_, rfl⟩
  rw [← hn, ← hcs]
  by_cases h100 : 100 < n
  · have i0 : (100 : Int) < (n : Int) := by omega
    have HB := Lib.hid Bb
    clear hn hA h100 hcs hcut hcat bb Bb hgb
    go_enter Try.func7, Try.ntmps7
    go_wp2_with (first
      | (rw [← hwb]; go_at_call 10; refine za.mono ?_; (rintro e w1 ⟨rfl, B1⟩; have z1 := zn w1))
      | (go_at_call 9; (with_reducible refine z1.mono ?_); (rintro e w2 ⟨rfl, _, B2⟩; have B2 := Lib.hid B2)))
    go_ret
    exact ⟨rfl, step_trans (step_trans HB.out B1) B2.out⟩
  have i0 : ¬ (100 : Int) < (n : Int) := by omega
  have HA := Lib.hid (And.intro hA hn)
  have HN := Lib.hid (show n ≤ 100 by omega)
  have HB := Lib.hid (And.intro Bb (And.intro bb hcat))
  clear hn hA h100 hcs hcut hcat bb Bb
  go_enter Try.func7, Try.ntmps7
  go_wp2_with (first
    | (rw [← hwb]; go_at_call 10; refine za.mono ?_; (rintro e w1 ⟨rfl, B1⟩; have z1 := zn w1))
    | (go_at_call 9; (with_reducible refine z1.mono ?_); (rintro e w2 ⟨rfl, H2, B2⟩; have H2 := Lib.hid (And.intro H2 B2); clear B2)))
  have HW := Lib.hid (step_trans HB.out.1 B1)
  rw [← hgb] at HB ⊢
  clear za zn z1
  have T : Oz w1 (w2.alloc (.cells #[.int .i64 0, .int .i64 1, .int .i64 0, .int .i64 2, .int .i64 1, .int .i64 0, .int .i64 1, .int .i64 2, .int .i64 2, .int .i64 0, .int .i64 2, .int .i64 1] 55)) w1.heap.size Nt.new (.slice none 0 0) [] w2.heap.size := by
    have B := step_alloc (Below.refl _ w2) (.cells #[.int .i64 0, .int .i64 1, .int .i64 0, .int .i64 2, .int .i64 1, .int .i64 0, .int .i64 1, .int .i64 2, .int .i64 2, .int .i64 0, .int .i64 2, .int .i64 1] 55)
    refine ⟨H2.out.1.wrote (Frame.of_below B) (fun j e => e.elim) fun j hj => .inr ?_, OwnR.nil_, BlkR.new w2 lkC _, H2.out.2.size⟩
    rcases hj with hj | hj
    · cases hj
    · rw [hj]; simp
  have YC := Lib.hid (fun (wr : World) (B : Below w1.heap.size w1 wr) (k : Nat) (hk : k < 6) => (((HB.out.2.1.below B1 HB.out.2.1.lt).below B (Nat.lt_of_lt_of_le HB.out.2.1.lt B1.size)).cell (HB.out.2.2 k hk) : wr.cell? ⟨gb, k, none⟩ = some (.bool (cut k))))
  obtain ⟨b, hb⟩ : ∃ b, b = w1.heap.size := ⟨_, rfl⟩
  obtain ⟨gl, hgl⟩ : ∃ g, g = w2.heap.size := ⟨_, rfl⟩
  rw [← hb, ← hgl] at T
  generalize w2.alloc (.cells #[.int .i64 0, .int .i64 1, .int .i64 0, .int .i64 2, .int .i64 1, .int .i64 0, .int .i64 1, .int .i64 2, .int .i64 2, .int .i64 0, .int .i64 2, .int .i64 1] 55) = W4 at T ⊢
  rw [← hb, ← hgl]
  have HT := Lib.hid T
  clear T hb hgl H2 HB hgb hwb B1
  go_loopw [8] (fun ix wr => ∃ (i : Nat) (s : N), ix = .int .i64 (i : Int) ∧ i ≤ 6 ∧ Oz w1 wr b s (.slice none 0 0) [] gl ∧ Oc s cut i) (fun ix _ => 7 - vFl ix)
  case atStart => exact ⟨0, Nt.new, rfl, by decide, HT.out, ⟨rfl, rfl, fun k hk => by omega⟩⟩
  case round =>
    obtain ⟨i, s, rfl, hi, inv, oc⟩ := hrel
    clear HT
    by_cases hlt : i < 6
    · obtain ⟨wd, hwd⟩ : ∃ wd, wd = { wr with drawn := wr.drawn + 1 } := ⟨_, rfl⟩
      have D1 : Below wr.heap.size wr wd := by rw [hwd]; exact (Below.refl _ wr).drew
      have id := inv.step D1
      obtain ⟨y0, y1⟩ := id.links hlt
      have y2 := YC.out wd id.nz.fr i hlt
      have hlt' : (i : Int) < 6 := by omega
      have hw1 : IntKind.i64.wrap ((i : Int) + 1) = (i : Int) + 1 := IntWalk.i64_in _ (by omega)
      have zc := nz_cut id.nz (lkF i : Int) (lkT i : Int) (cut i) 0 _ (by unfold N.cutE; rw [lk_link hlt]; rfl) rfl
      have HV := Lib.hid (And.intro hlt (And.intro (oc.cut hlt) id))
      obtain ⟨cf, hcf⟩ : ∃ x, x = lkF i := ⟨_, rfl⟩
      obtain ⟨ct, hct⟩ : ∃ x, x = lkT i := ⟨_, rfl⟩
      obtain ⟨cc, hcc⟩ : ∃ x, x = cut i := ⟨_, rfl⟩
      rw [← hcf, ← hct, ← hcc] at zc HV
      rw [← hcf] at y0
      rw [← hct] at y1
      rw [← hcc] at y2
      clear inv oc hi hlt D1 id hcf hct hcc
      go_wp2
      refine region_tail 14 (by kernel_rfl) (by kernel_rfl) wd hwd ?_
      clear hwd
      simp only [List.take_succ_cons, List.take_zero, List.drop_succ_cons, List.drop_zero]
      repeat still_step
      refine wpStill_nil ?_
      go_wp2_with (go_at_call 23; (with_reducible refine zc.mono ?_); (rintro e w5 ⟨rfl, k2⟩; have k2 := Lib.hid k2))
      exact ⟨⟨i + 1, _, by go_num, HV.out.1, HV.out.2.2.go k2.out.1 k2.out.2, HV.out.2.1⟩, by have := HV.out.1; simp [vFl]; omega⟩
    · have e6 : i = 6 := by omega
      have hi6 : ¬ (i : Int) < 6 := by omega
      rw [e6] at oc
      have HI := Lib.hid (And.intro inv oc)
      clear inv oc hi hlt e6
      go_wp2
      go_loopw [9, 10] (fun wv ix wr => ∃ (i : Nat) (want : List (Nat × Nat)) (s : N) (Av : Option Addr) (cv : Nat), wv = .slice Av want.length cv ∧ ix = .int .i64 (i : Int) ∧ i ≤ n ∧ Oz w1 wr b s (.slice Av want.length cv) want gl ∧ Oo s cut want i) (fun _ ix _ => 110 - vFl ix)
      case atStart => exact ⟨0, [], s, none, 0, rfl, rfl, Nat.zero_le _, HI.out.1, HI.out.2.oo⟩
      case round =>
        obtain ⟨i, want, s, Av, cv, rfl, rfl, hi, inv, oo⟩ := hrel
        clear HI
        by_cases hlt : i < n
        · obtain ⟨m, hm⟩ : ∃ m, ms[i]? = some m := ⟨_, List.getElem?_eq_getElem (by rw [← HA.out.2]; exact hlt)⟩
          obtain ⟨ad, rfl, hrow⟩ := na_row HA.out.1 (HW.out.trans (inv.nz.fr.mono HW.out.size)) hm
          have c2 : wr.cell? ⟨(ad.add (i * 5)).block, (ad.add (i * 5)).off + 1, none⟩ = some (.int .i64 m.i) := hrow 1 _ rfl
          have hbd := HA.out.1.i m (List.mem_of_getElem? hm)
          obtain ⟨k, hk⟩ := Int.eq_ofNat_of_zero_le (Int.emod_nonneg m.i (b := 6) (by decide))
          have hk6 := Int.emod_lt_of_pos m.i (b := 6) (by decide)
          have zp := pick_any m.i 6 wr hbd.1 hbd.2 (by decide) (by decide)
          rw [hk] at zp hk6
          have hk6 : k < 6 := by omega
          have hk6' : (k : Int) < 6 := by omega
          have hlt' : (i : Int) < (n : Int) := by omega
          have hw1 : IntKind.i64.wrap ((i : Int) + 1) = (i : Int) + 1 := IntWalk.i64_in _ (by have := HN.out; omega)
          obtain ⟨X, hX⟩ : ∃ X : Int, X = ((UInt8.ofNat i).toNat : Int) := ⟨_, rfl⟩
          obtain ⟨Y, hY⟩ : ∃ Y : Int, Y = ((UInt8.ofNat k).toNat : Int) := ⟨_, rfl⟩
          have hu1 : IntKind.u8.wrap (i : Int) = X := by rw [hX]; exact u8_of i
          have hu2 : IntKind.u8.wrap (k : Int) = Y := by rw [hY]; exact u8_of k
          have id := inv.step ((Below.refl _ wr).drew)
          have ia := id.step (step_alloc (Below.refl _ wr.drew) (.cells #[.int .u8 X, .int .u8 Y] 5))
          obtain ⟨y0, y1⟩ := id.links hk6
          obtain ⟨y2, y3⟩ := ia.links hk6
          have hE : N.sendE (lkF k : Int) (lkT k : Int) 2 = 0 := by unfold N.sendE; rw [lk_link hk6, if_neg (by decide), if_neg (by decide)]
          have zs := nz_two id.nz (lkF k : Int) (lkT k : Int) (UInt8.ofNat i) (UInt8.ofNat k) X Y hX hY (by have := oo.lost; have := HN.out; omega) 0 _ hE rfl
          have O2 := Lib.hid (oo.send (k := k) (by have := HN.out; omega) hk6)
          have HV := Lib.hid (And.intro hlt (And.intro hk6 id))
          have HL := Lib.hid (show want.length ≤ i by have := oo.lost; omega)
          obtain ⟨cf, hcf⟩ : ∃ x, x = lkF k := ⟨_, rfl⟩
          obtain ⟨ct, hct⟩ : ∃ x, x = lkT k := ⟨_, rfl⟩
          rw [← hcf, ← hct] at zs O2
          rw [← hcf] at y0 y2
          rw [← hct] at y1 y3
          have HCF := Lib.hid (And.intro hcf hct)
          clear inv oo hi hlt hm hrow hbd hk hk6 hX hY hE id ia hcf hct
          go_wp2_with (go_at_call 16; (with_reducible refine zp.mono ?_); (rintro e w' ⟨rfl, rfl⟩))
          clear zp
          go_region_held3 (fun w' => w'.cell? ⟨gl, k * 2, none⟩ = some (.int .i64 (cf : Int)) ∧ w'.cell? ⟨gl, k * 2 + 1, none⟩ = some (.int .i64 (ct : Int))) (first | exact ⟨y0, y1⟩ | exact ⟨y2, y3⟩ | exact ⟨u0, u1⟩) (first
            | (go_at_call 17; refine zs.mono ?_; (rintro e w3 ⟨rfl, k2, k3⟩; have G3 := HV.out.2.2.go k2 k3; have u0 := G3.blk.cell (lkC_at HV.out.2.1).1; have u1 := G3.blk.cell (lkC_at HV.out.2.1).2; rw [← HCF.out.1] at u0; rw [← HCF.out.2] at u1; have u2 := YC.out w3 G3.nz.fr k HV.out.2.1; have G3 := Lib.hid G3; clear k2 k3)))
          have O2 := Lib.hid O2.out
          cases hc : cut k with
          | true =>
            rw [hc] at u2
            have O3 := O2.out
            rw [hc, if_pos rfl] at O3
            have O3 := Lib.hid O3
            clear hc O2
            go_wp2
            go_roundw
            case rel => exact ⟨i + 1, want, _, Av, cv, rfl, by go_num, HV.out.1, G3.out, O3.out⟩
            case measure => have := HV.out.1; have := HN.out; simp [vFl]; omega
          | false =>
            rw [hc] at u2
            have O3 := O2.out
            rw [hc, if_neg (by decide)] at O3
            have O3 := Lib.hid O3
            have ho4 := Lib.hid (G3.out.step (step_alloc (Below.refl _ w3) (.cells #[.int .i64 (i : Int)] 3)))
            clear hc O2
            go_wp2_with (at_builtin; refine wpList_appendR rfl (.tmp 90) (.tmp 92) elIo rfl w1.heap.size (.slice Av want.length cv) (woI want) rfl ho4.out.own (some ⟨w3.heap.size, 0, none⟩) [.int .i64 (i : Int)] 1 1 (w3.heap.size + 1) rfl rfl ((BlkR.new w3 [.int .i64 (i : Int)] 3).row ⟨[], rfl⟩ (Nat.lt_succ_self _)) (by simp [Value.oneCell']) (by have := HL.out; have := HV.out.1; have := HN.out; rw [woI_len]; unfold maxLen; simp; omega) (by have := HL.out; have := HV.out.1; have := HN.out; rw [woI_len]; simp; omega) ho4.out.nz.fr.size ?_; (intro v5 w5 ho hg hat; obtain ⟨A5, c5, rfl, _⟩ := ho.form; have G5 := ho4.out.push (x := (i, k)) hg ho hat; rw [woI_push] at G5 ⊢; have G5 := Lib.hid G5; clear ho hg hat))
            go_roundw
            case rel => exact ⟨i + 1, want ++ [(i, k)], _, A5, c5, by rw [List.length_append]; rfl, by go_num, HV.out.1, (by have := G5.out; rwa [show want.length + 1 = (want ++ [(i, k)]).length by simp] at this), O3.out⟩
            case measure => have := HV.out.1; have := HN.out; simp [vFl]; omega
        · obtain rfl : i = n := by omega
          have hii : ¬ (i : Int) < (i : Int) := by omega
          have hway : s.way.length = want.length := by rw [oo.way, List.length_map]
          have zc := nz_count inv.nz want.length hway
          obtain ⟨L, hL⟩ : ∃ L, L = s.lost := ⟨_, rfl⟩
          have zl := nz_lost inv.nz L hL.symm
          have hsub : IntKind.i64.wrap ((i : Int) - (want.length : Int)) = (L : Int) := by rw [IntWalk.i64_in _ (by have := oo.lost; have := HN.out; omega)]; have := oo.lost; omega
          have e1 : ((want.length : Int) != (want.length : Int)) = false := by simp
          have e2 : ((L : Int) != (L : Int)) = false := by simp
          have HI := Lib.hid (And.intro inv (And.intro oo (show want.length ≤ 100 by have := oo.lost; have := HN.out; omega)))
          clear inv oo hlt hi hway hL
          go_wp2_with (first
            | (go_at_call 12; (with_reducible refine zc.mono ?_); (rintro e w' ⟨rfl, rfl⟩))
            | (go_at_call 13; (with_reducible refine zl.mono ?_); (rintro e w' ⟨rfl, rfl⟩)))
          clear zc zl hsub e1 e2
          go_loopw [12] (fun jx wr => ∃ (j : Nat) (s : N), jx = .int .i64 (j : Int) ∧ j ≤ want.length ∧ Oz w1 wr b s (.slice Av want.length cv) want gl ∧ Od s want j) (fun jx _ => 110 - vFl jx)
          case atStart => exact ⟨0, s, rfl, Nat.zero_le _, HI.out.1, ⟨HI.out.2.1.way⟩⟩
          case round =>
            obtain ⟨j, s2, rfl, hj, inv, od⟩ := hrel
            have HX := Lib.hid (And.intro HI.out.2.1.lt HI.out.2.2)
            clear HI
            by_cases hlj : j < want.length
            · obtain ⟨x, hx⟩ : ∃ x, want[j]? = some x := ⟨_, List.getElem?_eq_getElem hlj⟩
              obtain ⟨hE, hp, hnx⟩ := od.first hx
              obtain ⟨hx1, hx2⟩ := HX.out.1 x (List.mem_of_getElem? hx)
              obtain ⟨x1, x2⟩ := x
              dsimp only at hx1 hx2
              have hlj' : (j : Int) < (want.length : Int) := by omega
              have hw1 : IntKind.i64.wrap ((j : Int) + 1) = (j : Int) + 1 := IntWalk.i64_in _ (by have := HX.out.2; omega)
              have hc1 : ((UInt8.ofNat x1).toNat : Int) = (x1 : Int) := by rw [UInt8.toNat_ofNat']; have := HN.out; omega
              have hc2 : ((UInt8.ofNat x2).toNat : Int) = (x2 : Int) := by rw [UInt8.toNat_ofNat']; omega
              have hv1 : IntKind.i64.wrap (x1 : Int) = (x1 : Int) := IntWalk.i64_in _ (by have := HN.out; omega)
              have d1 : decide ((5 : Int) < (x2 : Int)) = false := by simp; omega
              have d2 : decide (5 < x2) = false := by simp; omega
              have d3 : (x2 : Int) < 6 := by omega
              have d4 : (0 : Int) ≤ (x2 : Int) := by omega
              have f1 : ((x1 : Int) != (x1 : Int)) = false := by simp
              have f2 : ((lkF x2 : Int) != (lkF x2 : Int)) = false := by simp
              have f3 : ((lkT x2 : Int) != (lkT x2 : Int)) = false := by simp
              have zd := nz_deliver inv.nz 0 (pkO (x1, x2)) 0 _ hp hE rfl
              unfold Tells pkCells pkO at zd
              dsimp only at zd
              have HV := Lib.hid (And.intro hlj (And.intro hnx (And.intro hx (And.intro hx2 (And.intro hc1 (And.intro hc2 inv))))))
              obtain ⟨cf, hcf⟩ : ∃ x, x = lkF x2 := ⟨_, rfl⟩
              obtain ⟨ct, hct⟩ : ∃ x, x = lkT x2 := ⟨_, rfl⟩
              have HCF := Lib.hid (And.intro hcf hct)
              rw [← hcf] at zd f2
              rw [← hct] at zd f3
              clear inv od hj hlj hE hp hnx hx1 hx2 hx hc1 hc2 hcf hct
              go_wp2_with (first
                | (go_at_call 20; (with_reducible refine zd.mono ?_); (rintro e w3 ⟨A, c, rfl, _, o3, k2, k3⟩; have G3 := HV.out.2.2.2.2.2.2.go (k2.less fun _ e => .inl e) k3; have o3 := Lib.hid o3.bytes; have G3 := Lib.hid G3; clear k2 k3))
                | ((with_reducible refine atWorld w3 ?_); refine wpList_allocRow (w := w3) info_pk rfl rfl ?_; (intro w4 b4 B4 s4; have b4 := Lib.hid b4; replace s4 := Lib.hid s4))
                | ((with_reducible refine atWorld w4 ?_); refine wpList_storeRow (w := w4) info_pk rfl (.tmp 13) (.tmp 118) rfl w3.heap.size [.int .i64 (cf : Int), .int .i64 (ct : Int), .slice A 2 c] pkZ rfl rfl rfl rfl (pk3_one _ _ _ _ _) b4.out ?_; (intro w5 b5 B5 s5 k5; have D5 := B4.trans B5; have G5 := G3.out.step D5; have p0 := b5.cell (k := 0) rfl; have p1 := b5.cell (k := 1) rfl; have p2 := b5.cell (k := 2) rfl; obtain ⟨bd, rfl, u0, u1⟩ := od_cells (o3.out.step D5); rw [HV.out.2.2.2.2.1] at u0; rw [HV.out.2.2.2.2.2.1] at u1; obtain ⟨gw, rfl, hg1, hg2, hgn⟩ := G5.own.at_g (by rw [woI_len]; have := HV.out.1; omega); clear hg1 hg2 hgn; have v1 := G5.own.cell (woI_at HV.out.2.2.1); obtain ⟨v2, v3⟩ := G5.links HV.out.2.2.2.1; rw [← HCF.out.1] at v2; rw [← HCF.out.2] at v3; dsimp only at v1; have G5 := Lib.hid G5; replace s5 := Lib.hid s5; clear b5 k5)))
              go_quiet (fail)
              go_wp2
              have G6 := G5.out.step (belowN (Below.refl w5.heap.size w5) nq)
              exact ⟨⟨j + 1, _, by go_num, HV.out.1, G6, HV.out.2.1⟩, by have := HV.out.1; have := HX.out.2; simp [vFl]; omega⟩
            · obtain rfl : j = want.length := by omega
              have hjj : ¬ (want.length : Int) < (want.length : Int) := by omega
              have zc := nz_count inv.nz 0 (by rw [od.way]; simp)
              have HF := Lib.hid inv.nz.fr
              clear inv od hlj hj
              go_wp2_with (go_at_call 12; (with_reducible refine zc.mono ?_); (rintro e w' ⟨rfl, rfl⟩))
              go_ret
              exact ⟨rfl, HW.out.trans (HF.out.mono HW.out.size)⟩
end Go.Proofs.Ytplfhlmipdlmnaa
