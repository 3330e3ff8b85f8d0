/-
  The walk of ClockSums. Conditions: none.
-/
import Derived.Test.YtfopjilncfndnaaCkSums
import Derived.Test.YtfopjilncfndnaaCkDriftWalk
import Derived.Deep.CutRange
namespace Go.Proofs.Ytfopjilncfndnaa
open Go.RowKit Ck

section
variable {t : T3} {A : Option Addr} {l : List T3} {c : Nat} {w : World}
set_option maxRecDepth 100000 in
set_option maxHeartbeats 1000000 in
theorem ckSums_none (he : ¬ Btw 0 M t) : Calls Try.prog 6 #[.agg (t3Cells t).toArray, .slice A l.length c] w fun e w' => e = .returned (.bool true) ∧ Below w.heap.size w w' := by
  obtain ⟨w1, hw1⟩ : ∃ w1, w1 = w.alloc (.cells (t3Cells t).toArray 22) := ⟨_, rfl⟩
  have B1 : Below w.heap.size w w1 := by rw [hw1]; exact step_alloc (Below.refl _ w) _
  have b1 : BlkR 22 w1 w.heap.size (t3Cells t) := by rw [hw1]; exact BlkR.new w _ _
  have HS := Lib.hid b1
  have BB := Lib.hid B1
  have za := ckAwake_any w1
  have zn := fun wy => ckNew_no t he wy
  obtain ⟨xs, hxs⟩ : ∃ xs, xs = t3Cells t := ⟨_, rfl⟩
  have HX := Lib.hid hxs
  rw [← hxs] at hw1 zn ⊢
  obtain ⟨n, hn⟩ : ∃ n, n = l.length := ⟨_, rfl⟩
  rw [← hn]
  clear hxs b1 B1 he hn
  go_enter Try.func6, Try.ntmps6
  go_wp2_with fail
  rw [← hw1]
  clear hw1
  go_wp2_with (first
    | (go_at_call 10; (with_reducible refine za.mono ?_); (rintro e w2 ⟨rfl, B2⟩; have b2 := Lib.hid (HS.out.below B2 HS.out.lt); have zn2 := zn w2; have C2 := Lib.hid (step_trans BB.out B2); clear B2))
    | ((with_reducible refine atWorld w2 ?_); refine wpList_loadRow (w := w2) info_t3 rfl (.tmp 2) rfl w.heap.size 0 xs rfl (by rw [HX.out]; rfl) (rangeOf (by rw [HX.out]; exact b2.out)) ?_)
    | (go_at_call 8; first
      | ((with_reducible refine zn2.mono ?_); (rintro e w3 ⟨rfl, B3⟩; have b3 := Lib.hid (b2.out.below B3 b2.out.lt); have zn3 := zn w3; have C3 := Lib.hid (step_trans C2.out B3); clear B3))
      | ((with_reducible refine zn3.mono ?_); (rintro e w4 ⟨rfl, B4⟩)))
    | ((with_reducible refine atWorld w3 ?_); refine wpList_loadRow (w := w3) info_t3 rfl (.tmp 2) rfl w.heap.size 0 xs rfl (by rw [HX.out]; rfl) (rangeOf (by rw [HX.out]; exact b3.out)) ?_)
  )
  go_ret
  exact ⟨rfl, step_trans C3.out B4⟩
set_option maxRecDepth 100000 in
set_option maxHeartbeats 1000000 in
theorem ckSums_long (he : Btw 0 M t) (hl : 100 < l.length) : Calls Try.prog 6 #[.agg (t3Cells t).toArray, .slice A l.length c] w fun e w' => e = .returned (.bool true) ∧ Below w.heap.size w w' := by
  obtain ⟨w1, hw1⟩ : ∃ w1, w1 = w.alloc (.cells (t3Cells t).toArray 22) := ⟨_, rfl⟩
  have B1 : Below w.heap.size w w1 := by rw [hw1]; exact step_alloc (Below.refl _ w) _
  have b1 : BlkR 22 w1 w.heap.size (t3Cells t) := by rw [hw1]; exact BlkR.new w _ _
  have HS := Lib.hid b1
  have BB := Lib.hid B1
  have za := ckAwake_any w1
  have zn := fun wy B => cz_new t he w wy B
  obtain ⟨xs, hxs⟩ : ∃ xs, xs = t3Cells t := ⟨_, rfl⟩
  have HX := Lib.hid hxs
  rw [← hxs] at hw1 zn ⊢
  obtain ⟨n, hn⟩ : ∃ n, n = l.length := ⟨_, rfl⟩
  rw [← hn] at hl ⊢
  have hl2 : (100 : Int) < (n : Int) := by omega
  clear hxs b1 B1 he hn hl
  go_enter Try.func6, Try.ntmps6
  go_wp2_with fail
  rw [← hw1]
  clear hw1
  go_wp2_with (first
    | (go_at_call 10; (with_reducible refine za.mono ?_); (rintro e w2 ⟨rfl, B2⟩; have b2 := Lib.hid (HS.out.below B2 HS.out.lt); have zn2 := zn w2 (step_trans BB.out B2); have C2 := Lib.hid (step_trans BB.out B2); clear B2))
    | ((with_reducible refine atWorld w2 ?_); refine wpList_loadRow (w := w2) info_t3 rfl (.tmp 2) rfl w.heap.size 0 xs rfl (by rw [HX.out]; rfl) (rangeOf (by rw [HX.out]; exact b2.out)) ?_)
    | (go_at_call 8; first
      | ((with_reducible refine zn2.mono ?_); (rintro e w3 ⟨g1, rfl, H3, _, B3⟩; have b3 := Lib.hid (b2.out.below B3 b2.out.lt); have zn3 := zn w3 H3.fr; have H3 := Lib.hid H3; clear B3))
      | ((with_reducible refine zn3.mono ?_); (rintro e w4 ⟨g2, rfl, H4, _, _⟩; have H4 := Lib.hid H4.fr)))
    | ((with_reducible refine atWorld w3 ?_); refine wpList_loadRow (w := w3) info_t3 rfl (.tmp 2) rfl w.heap.size 0 xs rfl (by rw [HX.out]; rfl) (rangeOf (by rw [HX.out]; exact b3.out)) ?_)
  )
  go_ret
  exact ⟨rfl, H4.out⟩
/-- what stands at the head of the law's loop -/
def SmRel (W : World) (g1 g2 hb : Nat) (t : T3) (l : List T3) (nv dv ix : Value) (wr : World) : Prop := ∃ (i : Nat) (Q : List T3) (As : Option Addr) (cs : Nat), i ≤ l.length ∧ nv = .int .i64 ((St t l i).n : Int) ∧ dv = .slice As Q.length cs ∧ ix = .int .i64 (i : Int) ∧ Sm t (St t l i) Q ∧ Sd W wr g1 g2 hb (St t l i) (new t) (St t l i).t dv Q
/-- .. behind what is done with a tick -/
def SmCut (W : World) (g1 g2 hb : Nat) (t : T3) (s : S) (nv dv : Value) (wx : World) : Prop := ∃ (Q : List T3) (As : Option Addr) (cs : Nat), nv = .int .i64 (s.n : Int) ∧ dv = .slice As Q.length cs ∧ Sm t s Q ∧ Sd W wx g1 g2 hb s (new t) s.t dv Q
/-- .. while its parts are added -/
def SmIn (W : World) (g1 g2 hb : Nat) (s s' : S) (x b : T3) (v : Value) (Q : List T3) (ix : Value) (wr : World) : Prop := ∃ y : Int, (y = 0 ∨ y = 1 ∨ y = 2 ∨ y = 3) ∧ ix = .int .i64 y ∧ Sd W wr g1 g2 hb s s' (pt x b y) v Q
/-- .. while the sums are looked at -/
def SmLook (W : World) (g1 g2 hb : Nat) (s s' : S) (v : Value) (Q : List T3) (ix : Value) (wr : World) : Prop := ∃ a : Nat, a ≤ 3 ∧ ix = .int .i64 (a : Int) ∧ Sd W wr g1 g2 hb s s' s.t v Q
/-- .. while the ticks come in the other order -/
def SmBack (W : World) (g1 g2 hb : Nat) (t : T3) (s : S) (v : Value) (Q : List T3) (ix : Value) (wr : World) : Prop := ∃ (p j : Nat) (s' : S), p + j = Q.length ∧ ix = .int .i64 ((p : Int) - 1) ∧ Sm t s' (Q.reverse.take j) ∧ Sd W wr g1 g2 hb s s' s.t v Q
def vP : Value → Nat
  | .int _ q => (q + 1).toNat
  | _ => 0
set_option maxRecDepth 100000 in
set_option maxHeartbeats 4000000 in
theorem ckSums_main (he : Btw 0 M t) (hl : l.length ≤ 100) (hA : TksAt w w.heap.size A l) : Calls Try.prog 6 #[.agg (t3Cells t).toArray, .slice A l.length c] w fun e w' => e = .returned (.bool true) ∧ Below w.heap.size w w' := by
  obtain ⟨w1, hw1⟩ : ∃ w1, w1 = w.alloc (.cells (t3Cells t).toArray 22) := ⟨_, rfl⟩
  have B1 : Below w.heap.size w w1 := by rw [hw1]; exact step_alloc (Below.refl _ w) _
  have b1 : BlkR 22 w1 w.heap.size (t3Cells t) := by rw [hw1]; exact BlkR.new w _ _
  have HS := Lib.hid b1
  have BB := Lib.hid B1
  have za := ckAwake_any w1
  have HA := Lib.hid hA
  have zn := fun wy B => cz_new t he w wy B
  obtain ⟨xs, hxs⟩ : ∃ xs, xs = t3Cells t := ⟨_, rfl⟩
  have HX := Lib.hid hxs
  rw [← hxs] at hw1 zn ⊢
  obtain ⟨n, hn⟩ : ∃ n, n = l.length := ⟨_, rfl⟩
  rw [← hn] at hl ⊢
  have hl2 : ¬ (100 : Int) < (n : Int) := by omega
  have HL := Lib.hid (And.intro hn hl)
  have HOK := Lib.hid (fun i => St_ok (l := l) he i)
  clear hxs b1 B1 hn hl hA he
  go_enter Try.func6, Try.ntmps6
  go_wp2_with fail
  rw [← hw1]
  clear hw1
  go_wp2_with (first
    | (go_at_call 10; (with_reducible refine za.mono ?_); (rintro e w2 ⟨rfl, B2⟩; have b2 := Lib.hid (HS.out.below B2 HS.out.lt); have zn2 := zn w2 (step_trans BB.out B2); have C2 := Lib.hid (step_trans BB.out B2); clear B2))
    | ((with_reducible refine atWorld w2 ?_); refine wpList_loadRow (w := w2) info_t3 rfl (.tmp 2) rfl w.heap.size 0 xs rfl (by rw [HX.out]; rfl) (rangeOf (by rw [HX.out]; exact b2.out)) ?_)
    | (go_at_call 8; first
      | ((with_reducible refine zn2.mono ?_); (rintro e w3 ⟨g1, rfl, H3, hg1, B3⟩; have b3 := Lib.hid (b2.out.below B3 b2.out.lt); have zn3 := zn w3 H3.fr; have H3 := Lib.hid H3; clear B3 hg1))
      | ((with_reducible refine zn3.mono ?_); (rintro e w4 ⟨g2, rfl, H4, hg2, B4⟩; have b4 := Lib.hid (b3.out.below B4 b3.out.lt); have H3b := Lib.hid (H3.out.step B4); have HG := Lib.hid (show g1 ≠ g2 from fun e => by have := H3.out.blt; omega); have H4 := Lib.hid H4; clear B4 hg2)))
    | ((with_reducible refine atWorld w3 ?_); refine wpList_loadRow (w := w3) info_t3 rfl (.tmp 2) rfl w.heap.size 0 xs rfl (by rw [HX.out]; rfl) (rangeOf (by rw [HX.out]; exact b3.out)) ?_)
    | ((with_reducible refine atWorld w4 ?_); refine wpList_loadRow (w := w4) info_t3 rfl (.tmp 2) rfl w.heap.size 0 xs rfl (by rw [HX.out]; rfl) (rangeOf (by rw [HX.out]; exact b4.out)) ?_)
    | ((with_reducible refine atWorld w4 ?_); refine wpList_allocRow (w := w4) info_t3 rfl rfl ?_; (intro w5 b5 B5 s5; have b5 := Lib.hid b5; have B5 := Lib.hid B5; replace s5 := Lib.hid s5))
    | ((with_reducible refine atWorld w5 ?_); refine wpList_storeRow (w := w5) info_t3 rfl (.tmp 10) (.tmp 53) rfl w4.heap.size xs _ rfl rfl (by rw [HX.out]; rfl) rfl (by rw [HX.out]; exact t3_one _) b5.out ?_; (intro w6 b6 B6 s6 k6; have C6 := B5.out.trans B6; have D6 : Hid (Sd w w6 g1 g2 w4.heap.size (new t) (new t) t (.slice none 0 0) []) := Lib.hid ⟨H3b.out.step C6, H4.out.step C6, (by rw [← HX.out]; exact b6), OwnK.nil_, HG.out, (fun e => by have := H3b.out.blt; omega), (fun e => by have := H4.out.blt; omega), (fun j e => by cases e), H4.out.fr.size⟩; clear b6 B6 k6 C6; replace s6 := Lib.hid s6)))
  clear zn za zn2 zn3 b2 b3 b4 b5 B5
  obtain ⟨hb, hhb⟩ : ∃ hb, hb = w4.heap.size := ⟨_, rfl⟩
  rw [← hhb] at D6 ⊢
  clear hhb
  go_loopw [11, 12, 13] (fun nv dv ix wr => SmRel w g1 g2 hb t l nv dv ix wr) (fun _ _ ix _ => 101 - vI ix)
  case atStart => exact ⟨0, [], none, 0, Nat.zero_le _, rfl, rfl, rfl, Sm.new_ t, D6.out⟩
  case round =>
    obtain ⟨i, Q, As, cs, hi, rfl, rfl, rfl, sm, inv⟩ := hrel
    rw [← HL.out.1] at hi
    have hok := HOK.out i
    have hsn := St_n t l i
    obtain ⟨s, hs⟩ : ∃ s, s = St t l i := ⟨_, rfl⟩
    have HQ := Lib.hid hs
    rw [← hs] at inv hok hsn sm ⊢
    have hqn := sm.n
    have HI := Lib.hid (And.intro hi (And.intro hsn hqn))
    have HO := Lib.hid hok
    have HM := Lib.hid sm
    obtain ⟨q, hq⟩ : ∃ q, q = Q.length := ⟨_, rfl⟩
    have HZ := Lib.hid hq
    rw [← hq] at inv ⊢
    clear hs hi hsn hok sm hqn hq
    by_cases hin : i = n
    · have hin' : ¬ (i : Int) < (n : Int) := by omega
      have hwq : IntKind.i64.wrap ((q : Int) - 1) = (q : Int) - 1 := IntWalk.i64_in _ (by have := HI.out; have := HL.out; have := HZ.out; omega)
      have HV := Lib.hid inv
      clear inv hin
      go_wp2
      clear hwq
      go_loopw [16] (fun ix wr => SmBack w g1 g2 hb t s (.slice As q cs) Q ix wr) (fun ix _ => vP ix)
      case atStart => exact ⟨q, 0, new t, HZ.out, rfl, Sm.new_ t, HV.out⟩
      case round =>
        obtain ⟨p', j, s', hpj, rfl, sm', inv⟩ := hrel
        clear HV
        by_cases hp0 : p' = 0
        · subst hp0
          have hneg : ¬ (0 : Int) ≤ ((0 : Nat) : Int) - 1 := by omega
          have hjq : j = Q.reverse.length := by rw [List.length_reverse]; omega
          rw [hjq, List.take_length] at sm'
          obtain rfl := HM.out.same sm'
          have zt1 := cz_ticks inv.c (s'.n : Int) rfl
          have zt2 := cz_ticks inv.d (s'.n : Int) rfl
          have zk1 := cz_kept inv.c s'.kept rfl
          have zk2 := cz_kept inv.d s'.kept rfl
          have z10 := cz_now inv.c 0 s'.t.a rfl
          have z11 := cz_now inv.c 1 s'.t.b rfl
          have z12 := cz_now inv.c 2 s'.t.c rfl
          have z20 := cz_now inv.d 0 s'.t.a rfl
          have z21 := cz_now inv.d 1 s'.t.b rfl
          have z22 := cz_now inv.d 2 s'.t.c rfl
          have e0 : ((s'.n : Int) == (s'.n : Int)) = true := by simp
          have e1 : (s'.kept == s'.kept) = true := by simp
          have e2 : (s'.t.a == s'.t.a) = true := by simp
          have e3 : (s'.t.b == s'.t.b) = true := by simp
          have e4 : (s'.t.c == s'.t.c) = true := by simp
          have HB := Lib.hid inv.c.fr
          clear inv sm' hpj hjq
          go_wp2_with (first
            | (go_at_call 13; with_reducible first
              | (refine zt1.mono ?_; (rintro e w' ⟨rfl, rfl⟩))
              | (refine zt2.mono ?_; (rintro e w' ⟨rfl, rfl⟩)))
            | (go_at_call 14; with_reducible first
              | (refine zk1.mono ?_; (rintro e w' ⟨rfl, rfl⟩))
              | (refine zk2.mono ?_; (rintro e w' ⟨rfl, rfl⟩)))
            | (go_at_call 15; with_reducible first
              | (refine z10.mono ?_; (rintro e w' ⟨rfl, rfl⟩))
              | (refine z11.mono ?_; (rintro e w' ⟨rfl, rfl⟩))
              | (refine z12.mono ?_; (rintro e w' ⟨rfl, rfl⟩))
              | (refine z20.mono ?_; (rintro e w' ⟨rfl, rfl⟩))
              | (refine z21.mono ?_; (rintro e w' ⟨rfl, rfl⟩))
              | (refine z22.mono ?_; (rintro e w' ⟨rfl, rfl⟩))))
          go_ret
          exact ⟨rfl, HB.out⟩
        · obtain ⟨p, rfl⟩ : ∃ p, p' = p + 1 := ⟨p' - 1, by omega⟩
          have ep : ((p + 1 : Nat) : Int) - 1 = (p : Int) := by omega
          rw [ep]
          obtain ⟨m, hm⟩ : ∃ m, Q[p]? = some m := ⟨_, List.getElem?_eq_getElem (by omega)⟩
          have hr : Q.reverse[j]? = some m := by rw [List.getElem?_reverse (by omega), show Q.length - 1 - j = p by omega]; exact hm
          have hE := HM.out.rev HO.out sm' hr
          have sm2 := sm'.tick hE
          rw [show Q.reverse.take j ++ [m] = Q.reverse.take (j + 1) by rw [List.take_add_one, hr]; rfl] at sm2
          have hn2 : s'.n ≤ 100 := by have := sm'.n; rw [List.length_take] at this; have := HI.out; have := HL.out; omega
          have zt := cz_tick inv.d m (by omega) 0 (s'.tick m) hE rfl
          have own := inv.own
          rw [← HZ.out] at own
          obtain ⟨gv, hgv, _, _⟩ := own.at_g (by have := HZ.out; omega)
          subst hgv
          have y0 : wr.cell? ⟨gv, p * 3, none⟩ = some (.int .i64 m.a) := own.cell rfl (by rw [← Nat.add_zero (p * 3)]; exact flk_at t3_len Q p m hm 0 _ rfl)
          have y1 : wr.cell? ⟨gv, p * 3 + 1, none⟩ = some (.int .i64 m.b) := own.cell rfl (flk_at t3_len Q p m hm 1 _ rfl)
          have y2 : wr.cell? ⟨gv, p * 3 + 2, none⟩ = some (.int .i64 m.c) := own.cell rfl (flk_at t3_len Q p m hm 2 _ rfl)
          have hpq : (p : Int) < (q : Int) := by have := HZ.out; omega
          have hwp : IntKind.i64.wrap ((p : Int) - 1) = (p : Int) - 1 := IntWalk.i64_in _ (by have := HI.out; have := HL.out; have := HZ.out; omega)
          have SM2 := Lib.hid sm2
          have HJ := Lib.hid (show p + (j + 1) = Q.length by omega)
          have HV := Lib.hid inv
          clear inv sm' sm2 hpj hm hr hE hn2 own ep hp0
          go_wp2_with (go_at_call 11; refine zt.mono ?_; (rintro e w6 ⟨rfl, H6, F6⟩; have D6 := Lib.hid (HV.out.tickD H6 F6); clear H6 F6))
          exact ⟨⟨p, j + 1, _, HJ.out, rfl, SM2.out, D6.out⟩, by simp [vP]⟩
    · have hin' : (i : Int) < (n : Int) := by have := HI.out; omega
      have hwi : IntKind.i64.wrap ((i : Int) + 1) = (i : Int) + 1 := IntWalk.i64_in _ (by have := HI.out; have := HL.out; omega)
      obtain ⟨m, hm⟩ : ∃ m, l[i]? = some m := ⟨_, List.getElem?_eq_getElem (by have := HI.out; have := HL.out; omega)⟩
      have NX := And.intro (show i + 1 ≤ n by have := HI.out; omega) (St_succ (t := t) hm)
      rw [← HQ.out] at NX
      obtain ⟨ad, rfl, Y⟩ := tk_cells HA.out hm
      obtain ⟨y0, y1, y2⟩ := Y wr inv.c.fr
      have Y := Lib.hid Y
      obtain ⟨s2, hs2⟩ : ∃ s2, s2 = s.tick m := ⟨_, rfl⟩
      obtain ⟨E, hE⟩ : ∃ E, E = s.tickE m := ⟨_, rfl⟩
      have zt := cz_tick inv.c m (by have := HI.out; have := HL.out; omega) E s2 hE.symm hs2.symm
      rw [← hs2] at NX
      have NX := Lib.hid NX
      have HS2 := Lib.hid hs2
      have HE := Lib.hid hE
      have HV := Lib.hid inv
      clear inv hin hm hs2 hE
      obtain ⟨eb, heb⟩ : ∃ eb, (E == 0) = eb := ⟨_, rfl⟩
      go_upto_if 66 with (go_at_call 11; refine zt.mono ?_; (rintro e w6 ⟨rfl, H6, F6⟩; have D6 := Lib.hid (HV.out.tickC H6 F6); clear H6 F6))
      have HEB := Lib.hid heb
      clear zt y0 y1 y2 HV heb
      go_cut [11, 12, 14] from 66 to 91 (fun nv dv kv wx => SmCut w g1 g2 hb t s2 nv dv wx)
      case first =>
        cases eb with
        | true =>
          have hE0 : E = 0 := by simpa using HEB.out
          have hE2 : s.tickE m = 0 := by rw [← HE.out]; exact hE0
          have SM2 := HM.out.tick hE2
          obtain ⟨hn0, hf0⟩ := tickE_0.1 hE2
          have hok := HO.out
          unfold S.Ok Btw M at hok
          unfold Ck.Neg at hn0
          unfold Full M at hf0
          have hw0 : IntKind.i64.wrap (s.t.a + m.a) = s.t.a + m.a := IntWalk.i64_in _ (by omega)
          have hw1 : IntKind.i64.wrap (s.t.b + m.b) = s.t.b + m.b := IntWalk.i64_in _ (by omega)
          have hw2 : IntKind.i64.wrap (s.t.c + m.c) = s.t.c + m.c := IntWalk.i64_in _ (by omega)
          rw [← HS2.out] at SM2
          have hs2t : s2.t = pt s.t m 3 := by rw [HS2.out, pt_3]; unfold S.tick; rw [if_pos hE2]; rfl
          have hs2n : s2.n = s.n + 1 := by rw [HS2.out]; unfold S.tick; rw [if_pos hE2]; rfl
          have hwn : IntKind.i64.wrap ((s.n : Int) + 1) = (s.n : Int) + 1 := IntWalk.i64_in _ (by have := HI.out; have := HL.out; omega)
          have SM2 := Lib.hid SM2
          have HT := Lib.hid (And.intro hs2t hs2n)
          clear hn0 hf0 hok hE2 hs2t hs2n hE0
          go_wp2
          go_loopw [14] (fun ix wr => SmIn w g1 g2 hb s2 (new t) s.t m (.slice As q cs) Q ix wr) (fun ix _ => 3 - vI ix)
          case atStart => exact ⟨0, .inl rfl, rfl, D6.out⟩
          case round =>
            obtain ⟨y, hy, rfl, inv⟩ := hrel
            clear D6
            obtain ⟨wd, hwd⟩ : ∃ wd, wd = { wr with drawn := wr.drawn + 1 } := ⟨_, rfl⟩
            have SW : Hid (Sd w wd g1 g2 hb s2 (new t) (pt s.t m y) (.slice As q cs) Q) := Lib.hid (by rw [hwd]; exact inv.step (Below.refl _ wr).drew)
            obtain ⟨y0, y1, y2⟩ := Y.out wd SW.out.c.fr
            have rd := SW.out.blk
            rcases hy with rfl | rfl | rfl | rfl
            · have y := rd.cell (k := 0) (u := .int .i64 s.t.a) rfl
              have z := rd.frozen 0
              obtain ⟨q1, q2⟩ := t3_set rd 0 (.int .i64 (s.t.a + m.a))
              rw [ps_set (k := 0) (j := 0) (v := s.t.a + m.a) rfl rfl] at q1
              have Q1 := Lib.hid (SW.out.blk_ q1 q2)
              clear rd q1 q2 inv
              go_wp2
              refine region_tail 12 (by kernel_rfl) (by kernel_rfl) wd hwd ?_
              clear hwd
              simp only [List.take_succ_cons, List.take_zero, List.drop_succ_cons, List.drop_zero]
              repeat still_step
              refine wpStill_nil ?_
              go_wp2
              exact ⟨⟨1, .inr (.inl rfl), rfl, Q1.out⟩, by decide⟩
            · have y := rd.cell (k := 1) (u := .int .i64 s.t.b) rfl
              have z := rd.frozen 1
              obtain ⟨q1, q2⟩ := t3_set rd 1 (.int .i64 (s.t.b + m.b))
              rw [ps_set (k := 1) (j := 1) (v := s.t.b + m.b) rfl rfl] at q1
              have Q1 := Lib.hid (SW.out.blk_ q1 q2)
              clear rd q1 q2 inv
              go_wp2
              refine region_tail 12 (by kernel_rfl) (by kernel_rfl) wd hwd ?_
              clear hwd
              simp only [List.take_succ_cons, List.take_zero, List.drop_succ_cons, List.drop_zero]
              repeat still_step
              refine wpStill_nil ?_
              go_wp2
              exact ⟨⟨2, .inr (.inr (.inl rfl)), rfl, Q1.out⟩, by decide⟩
            · have y := rd.cell (k := 2) (u := .int .i64 s.t.c) rfl
              have z := rd.frozen 2
              obtain ⟨q1, q2⟩ := t3_set rd 2 (.int .i64 (s.t.c + m.c))
              rw [ps_set (k := 2) (j := 2) (v := s.t.c + m.c) rfl rfl] at q1
              have Q1 := Lib.hid (SW.out.blk_ q1 q2)
              clear rd q1 q2 inv
              go_wp2
              refine region_tail 12 (by kernel_rfl) (by kernel_rfl) wd hwd ?_
              clear hwd
              simp only [List.take_succ_cons, List.take_zero, List.drop_succ_cons, List.drop_zero]
              repeat still_step
              refine wpStill_nil ?_
              go_wp2
              exact ⟨⟨3, .inr (.inr (.inr rfl)), rfl, Q1.out⟩, by decide⟩
            · rw [← HT.out.1] at inv
              clear y0 y1 y2 rd SW hwd
              obtain ⟨y0, y1, y2⟩ := Y.out wr inv.c.fr
              have inv2 := inv.step (step_alloc (Below.refl _ wr) (.cells #[.int .i64 m.a, .int .i64 m.b, .int .i64 m.c] 22))
              have ow := inv2.own
              rw [← HZ.out] at ow
              have OW := Lib.hid ow
              have HB := Lib.hid inv2.c.fr.size
              have IV := Lib.hid inv2
              have HSL := Lib.hid (show q ≤ 100 by have := HI.out; have := HL.out; have := HZ.out; omega)
              clear inv inv2 ow
              go_wp2_with (at_builtin; refine wpList_appendK rfl (.tmp 85) (.tmp 90) el3 rfl (.slice As q cs) q (Q.flatMap t3Cells) [.int .i64 m.a, .int .i64 m.b, .int .i64 m.c] 1 w.heap.size rfl OW.out ⟨wr.heap.size, 0, none⟩ 1 rfl rfl (fun j u hu => by rw [addr_zero_add]; exact (BlkR.new wr [.int .i64 m.a, .int .i64 m.b, .int .i64 m.c] 22).cell hu) (t3_one m) (by have := HSL.out; unfold maxLen; omega) (by have := HSL.out; omega) HB.out ?_; (intro v4 w4 h4 g4 a4; rw [HZ.out] at h4; have h5 := IV.out.push (b := m) h4 g4 a4; have h5 := Lib.hid h5; clear h4 g4 a4))
              go_meet
              obtain ⟨A4, c4, e4, _⟩ := h5.out.own.form
              exact ⟨Q ++ [m], A4, c4, by rw [HT.out.2]; rfl, e4, SM2.out, h5.out⟩
        | false =>
          have hE0 : E ≠ 0 := by simpa using HEB.out
          have hss : s2 = s := by rw [HS2.out]; exact kb_no (by rw [← HE.out]; exact hE0)
          have HSS := Lib.hid hss
          clear hss hE0
          go_wp2
          go_meet
          have h := HSS.out
          subst h
          exact ⟨Q, As, cs, rfl, by rw [← HZ.out], HM.out, D6.out⟩
      case rest =>
        obtain ⟨Q2, As2, cs2, rfl, rfl, sm2, inv2⟩ := hcut
        have SM2 := Lib.hid sm2
        have IV2 := Lib.hid inv2
        have ok2 : s2.Ok := by rw [HS2.out]; exact S.tick_ok HO.out
        have OK2 := Lib.hid ok2
        obtain ⟨q2, hq2⟩ : ∃ q2, q2 = Q2.length := ⟨_, rfl⟩
        rw [← hq2] at inv2 IV2 ⊢
        have HZ2 := Lib.hid hq2
        clear sm2 inv2 ok2 hq2 D6
        go_wp2
        go_loopw [15] (fun ix wr => SmLook w g1 g2 hb s2 (new t) (.slice As2 q2 cs2) Q2 ix wr) (fun ix _ => 3 - vI ix)
        case atStart => exact ⟨0, by decide, rfl, IV2.out⟩
        case round =>
          obtain ⟨a, ha, rfl, inv⟩ := hrel
          by_cases ha3 : (a : Int) < 3
          · obtain ⟨na, hna⟩ : ∃ na, na = s2.now (a : Int) := ⟨_, rfl⟩
            have y := inv.blk.cell (t3_now (s := s2) (a := a) (by omega))
            rw [← hna] at y
            have zn := fun N => cz_now ((inv.step (belowN (Below.refl _ wr) N)).c) (a : Int) na hna.symm
            have m1 := S.now_le OK2.out (a : Int)
            rw [← hna] at m1
            unfold M at m1
            have e0 : (na != na) = false := by simp
            have g1' : ¬ (1099511627776 : Int) < na := by omega
            have g2' : decide ((1099511627776 : Int) < na) = false := by rw [decide_eq_false_iff_not]; omega
            have HA3 := Lib.hid ha3
            have J := Lib.hid inv
            clear inv hna m1 ha
            go_wp2_with fail
            go_quiet ((go_at_call 15; with_reducible first | exact quietN (zn _) | exact quietA (zn _)))
            go_wp2
            exact ⟨⟨a + 1, by have := HA3.out; omega, by go_num, J.out.step (belowN (Below.refl _ wr) nq)⟩, by have := HA3.out; simp [vI]; omega⟩
          · have J := Lib.hid inv
            clear inv
            go_wp2
            refine ⟨⟨i + 1, Q2, As2, cs2, by rw [← HL.out.1]; exact NX.out.1, by rw [NX.out.2], by rw [← HZ2.out], by go_num, by rw [NX.out.2]; exact SM2.out, ?_⟩, by have := HI.out.1; have := HL.out.2; simp [vI]; omega⟩
            rw [NX.out.2]
            exact J.out
/-- ClockSums, whatever comes in -/
theorem ckSums_any (hA : TksAt w w.heap.size A l) : Calls Try.prog 6 #[.agg (t3Cells t).toArray, .slice A l.length c] w fun e w' => e = .returned (.bool true) ∧ Below w.heap.size w w' := by
  by_cases he : Btw 0 M t
  · by_cases hl : l.length ≤ 100
    · exact ckSums_main he hl hA
    · exact ckSums_long he (by omega)
  · exact ckSums_none he
end
end Go.Proofs.Ytfopjilncfndnaa
