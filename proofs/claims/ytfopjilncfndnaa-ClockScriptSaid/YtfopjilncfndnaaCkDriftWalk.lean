/-
  The walk of ClockDrifts, the ticks gone through. Conditions: none.
-/
import Derived.Test.YtfopjilncfndnaaCkDrift
import Derived.Deep.CutRange
namespace Go.Proofs.Ytfopjilncfndnaa
open Go.RowKit Ck

section
variable {t : T3} {A : Option Addr} {l : List T3} {c : Nat} {fr : Int} {w : World}
/-- what stands at the head of the law's loop -/
def DrRel (W : World) (g hb : Nat) (t : T3) (l : List T3) (f : Nat) (kv sv ix : Value) (wr : World) : Prop := ∃ i : Nat, i ≤ l.length ∧ kv = .bool (St t l i).kept ∧ sv = .int .i64 (sinV t l f i : Int) ∧ ix = .int .i64 (i : Int) ∧ Dr W wr g hb (St t l i) (wasV t l f i)
/-- .. and behind the moment that is remembered -/
def DrCut (W : World) (g hb : Nat) (s : S) (x : T3) (q : Nat) (sv : Value) (wx : World) : Prop := sv = .int .i64 (q : Int) ∧ Dr W wx g hb s x
/-- .. within a tick -/
def DrIn (W : World) (g hb : Nat) (s : S) (x : T3) (k0 : Bool) (b : T3) (kv ix : Value) (wr : World) : Prop := ∃ y : Int, (y = 0 ∨ y = 1 ∨ y = 2 ∨ y = 3) ∧ ix = .int .i64 y ∧ kv = .bool (kb k0 b y) ∧ Dr W wr g hb s x
/-- .. behind the loop -/
def DrEnd (W : World) (g hb : Nat) (s : S) (x : T3) (ix : Value) (wr : World) : Prop := ∃ a : Nat, a ≤ 3 ∧ ix = .int .i64 (a : Int) ∧ Dr W wr g hb s x
theorem t3_now {s : S} {a : Nat} (h : a < 3) : (t3Cells s.t)[a]? = some (.int .i64 (s.now (a : Int))) := by
  rcases (show a = 0 ∨ a = 1 ∨ a = 2 by omega) with rfl | rfl | rfl <;> rfl
theorem tk_cells {W : World} {A : Option Addr} {l : List T3} {m : T3} {k : Nat} (hA : TksAt W W.heap.size A l) (hm : l[k]? = some m) : ∃ ad, A = some ad ∧ ∀ wx, Below W.heap.size W wx →
    wx.cell? (ad.add (k * 3)) = some (.int .i64 m.a) ∧ wx.cell? ⟨(ad.add (k * 3)).block, (ad.add (k * 3)).off + 1, none⟩ = some (.int .i64 m.b) ∧ wx.cell? ⟨(ad.add (k * 3)).block, (ad.add (k * 3)).off + 2, none⟩ = some (.int .i64 m.c) := by
  obtain ⟨ad, rfl, _⟩ := tk_at hA (Below.refl _ W) hm
  refine ⟨ad, rfl, fun wx B => ?_⟩
  obtain ⟨ad', e, r⟩ := tk_at hA B hm
  cases e
  exact r
set_option maxRecDepth 100000 in
set_option maxHeartbeats 4000000 in
theorem ckDrifts_main (he : Btw 0 M t) (hl : l.length ≤ 200) (hf : -9223372036854775808 ≤ fr ∧ fr ≤ 9223372036854775807) (hA : TksAt w w.heap.size A l) : Calls Try.prog 5 #[.agg (t3Cells t).toArray, .slice A l.length c, .int .i64 fr] w fun e w' => e = .returned (.bool true) ∧ Below w.heap.size w w' := by
  obtain ⟨w1, hw1⟩ : ∃ w1, w1 = w.alloc (.cells (t3Cells t).toArray 22) := ⟨_, rfl⟩
  have B1 : Below w.heap.size w w1 := by rw [hw1]; exact step_alloc (Below.refl _ w) _
  have b1 : BlkR 22 w1 w.heap.size (t3Cells t) := by rw [hw1]; exact BlkR.new w _ _
  have HS := Lib.hid b1
  have BB := Lib.hid B1
  have HA := Lib.hid hA
  have za := ckAwake_any w1
  have zn := fun wy B => cz_new t he w wy B
  obtain ⟨xs, hxs⟩ : ∃ xs, xs = t3Cells t := ⟨_, rfl⟩
  have HX := Lib.hid hxs
  rw [← hxs] at hw1 zn ⊢
  obtain ⟨n, hn⟩ : ∃ n, n = l.length := ⟨_, rfl⟩
  have hf1 := Int.emod_nonneg fr (b := (n : Int) + 1) (by omega)
  have hf2 := Int.emod_lt_of_pos fr (b := (n : Int) + 1) (by omega)
  obtain ⟨f, hff⟩ : ∃ f : Nat, (f : Int) = fr % ((n : Int) + 1) := ⟨(fr % ((n : Int) + 1)).toNat, by omega⟩
  have hfn : f ≤ n := by omega
  have zp := fun wy => pick_any fr ((n : Int) + 1) wy hf.1 hf.2 (by omega) (by omega)
  rw [← hff] at zp
  rw [← hn] at hl ⊢
  have hl2 : (n : Int) ≤ 200 := by omega
  have hwn : IntKind.i64.wrap ((n : Int) + 1) = (n : Int) + 1 := IntWalk.i64_in _ (by omega)
  have HL := Lib.hid (And.intro hn hl)
  have HOK := Lib.hid (fun i => St_ok (l := l) he i)
  have HF := Lib.hid hfn
  clear hxs b1 B1 hn hl hf1 hf2 hff hfn hA he
  go_enter Try.func5, Try.ntmps5
  go_wp2_with fail
  rw [← hw1]
  clear hw1
  go_wp2_with (first
    | (go_at_call 10; (with_reducible refine za.mono ?_); (rintro e w2 ⟨rfl, B2⟩; have b2 := Lib.hid (HS.out.below B2 HS.out.lt); have zn2 := zn w2 (step_trans BB.out B2); clear B2))
    | ((with_reducible refine atWorld w2 ?_); refine wpList_loadRow (w := w2) info_t3 rfl (.tmp 3) rfl w.heap.size 0 xs rfl (by rw [HX.out]; rfl) (rangeOf (by rw [HX.out]; exact b2.out)) ?_)
    | (go_at_call 8; (with_reducible refine zn2.mono ?_); (rintro e w3 ⟨g, rfl, H3, _, _⟩; have zp3 := zp w3; have H3 := Lib.hid H3))
    | (go_at_call 17; (with_reducible refine zp3.mono ?_); (rintro e w4 ⟨rfl, rfl⟩))
    | ((with_reducible refine atWorld w3 ?_); refine wpList_allocRow (w := w3) info_t3 rfl rfl ?_; (intro w5 b5 B5 s5; have D5 : Hid (Dr w w5 g w3.heap.size (St t l 0) (wasV t l f 0)) := Lib.hid ⟨H3.out.step B5, b5, (fun e => by have := H3.out.blt; omega), H3.out.fr.size⟩; clear b5; replace s5 := Lib.hid s5)))
  clear zp zp3 zn2 hwn b2 B5
  obtain ⟨hb, hhb⟩ : ∃ hb, hb = w3.heap.size := ⟨_, rfl⟩
  rw [← hhb] at D5 ⊢
  clear hhb
  go_loopw [10, 12, 13] (fun kv sv ix wr => DrRel w g hb t l f kv sv ix wr) (fun _ _ ix _ => 201 - vI ix)
  case atStart => exact ⟨0, Nat.zero_le _, rfl, rfl, rfl, D5.out⟩
  case round =>
    obtain ⟨i, hi, rfl, rfl, rfl, inv⟩ := hrel
    rw [← HL.out.1] at hi
    have hwi : IntKind.i64.wrap ((i : Int) + 1) = (i : Int) + 1 := IntWalk.i64_in _ (by omega)
    have hii : (i : Int) ≤ (n : Int) := by omega
    have hok := HOK.out i
    have hsn := St_n t l i
    obtain ⟨s, hs⟩ : ∃ s, s = St t l i := ⟨_, rfl⟩
    have HQ := Lib.hid hs
    rw [← hs] at inv hok hsn ⊢
    have inv0 := Lib.hid inv
    obtain ⟨x0, hx0⟩ : ∃ x0, x0 = wasV t l f i := ⟨_, rfl⟩
    obtain ⟨q0, hq0⟩ : ∃ q0, q0 = sinV t l f i := ⟨_, rfl⟩
    obtain ⟨x1, hx1⟩ : ∃ x1, x1 = wasV t l f (i + 1) := ⟨_, rfl⟩
    obtain ⟨q1, hq1⟩ : ∃ q1, q1 = sinV t l f (i + 1) := ⟨_, rfl⟩
    rw [← hx0] at inv inv0
    rw [← hq0]
    have HV := Lib.hid (And.intro hx0 (And.intro hq0 (And.intro hx1 hq1)))
    have HI := Lib.hid (And.intro hi hsn)
    have HO := Lib.hid hok
    obtain ⟨k0, hk0⟩ : ∃ k0, k0 = s.kept := ⟨_, rfl⟩
    have HK := Lib.hid hk0
    rw [← hk0]
    clear hs hx0 hq0 hx1 hq1 hi hsn hok hk0
    go_upto_if 54 with fail
    go_cut [12] from 54 to 63 (fun sv wx => DrCut w g hb s x1 q1 sv wx)
    case first =>
      by_cases hfi : i = f
      · have hfi' : ((i : Int) == (f : Int)) = true := by simp; omega
        have n0 := cz_now inv.ck 0 s.t.a rfl
        have n1 := cz_now inv.ck 1 s.t.b rfl
        have n2 := cz_now inv.ck 2 s.t.c rfl
        have HFI := Lib.hid hfi
        clear inv hfi
        go_wp2_with (first
          | (go_at_call 15; with_reducible first
            | (refine n0.mono ?_; (rintro e w' ⟨rfl, rfl⟩))
            | (refine n1.mono ?_; (rintro e w' ⟨rfl, rfl⟩))
            | (refine n2.mono ?_; (rintro e w' ⟨rfl, rfl⟩)))
          | ((with_reducible refine atWorld wr ?_); refine wpList_storeRow (w := wr) info_t3 rfl (.tmp 11) (.tmp 61) rfl hb (t3Cells s.t) (t3Cells x0) rfl rfl rfl rfl (t3_one _) inv0.out.was ?_; (intro w6 b6 B6 s6 k6; have D6 := inv0.out.store b6 B6 s6 k6; have zt := cz_ticks D6.ck (s.n : Int) rfl; have D6 := Lib.hid D6; clear b6 B6 k6; replace s6 := Lib.hid s6))
          | (go_at_call 13; (with_reducible refine zt.mono ?_); (rintro e w7 ⟨rfl, rfl⟩)))
        go_meet
        obtain ⟨_, _, v3, v4⟩ := HV.out
        have e := HFI.out
        subst e
        rw [wasV_eq, ← HQ.out] at v3
        rw [sinV_eq, ← HQ.out] at v4
        exact ⟨by rw [v4], by rw [v3]; exact D6.out⟩
      · have hfi' : ((i : Int) == (f : Int)) = false := by simp; omega
        have HFI := Lib.hid hfi
        clear inv hfi
        go_wp2
        go_meet
        obtain ⟨v1, v2, v3, v4⟩ := HV.out
        rw [wasV_ne (fun e => HFI.out e.symm), ← v1] at v3
        rw [sinV_ne (fun e => HFI.out e.symm), ← v2] at v4
        exact ⟨by rw [v4], by rw [v3]; exact inv0.out⟩
    case rest =>
      obtain ⟨rfl, inv1⟩ := hcut
      clear inv0 inv
      by_cases hin : i = n
      · have hin' : ((i : Int) == (n : Int)) = true := by simp; omega
        have hq1 : x1 = (St t l f).t ∧ q1 = (St t l f).n := by
          obtain ⟨_, _, v3, v4⟩ := HV.out
          have e : f < i + 1 := by have := HF.out; omega
          rw [v3, v4]
          exact ⟨if_pos e, if_pos e⟩
        obtain ⟨u, hu⟩ : ∃ u, u = St t l f := ⟨_, rfl⟩
        have hun := St_n t l f
        have huo := HOK.out f
        rw [← hu] at hq1 hun huo
        obtain ⟨rfl, rfl⟩ := hq1
        have HD := Lib.hid (show s.kept = true → ∀ a : Int, 0 ≤ a → a < 3 → 90 * ((s.n : Int) - (u.n : Int)) ≤ s.now a - u.now a ∧ s.now a - u.now a ≤ 110 * ((s.n : Int) - (u.n : Int)) from fun e => by
          rw [HQ.out] at e ⊢
          rw [hu]
          exact (drift (by have := HF.out; omega) e).2)
        have hwa : IntKind.i64.wrap (90 * ((s.n : Int) - (u.n : Int))) = 90 * ((s.n : Int) - (u.n : Int)) := IntWalk.i64_in _ (by have := HI.out; have := HF.out; have := HL.out; omega)
        have hwb : IntKind.i64.wrap (110 * ((s.n : Int) - (u.n : Int))) = 110 * ((s.n : Int) - (u.n : Int)) := IntWalk.i64_in _ (by have := HI.out; have := HF.out; have := HL.out; omega)
        obtain ⟨m, hm⟩ : ∃ m, m = (s.n : Int) - (u.n : Int) := ⟨_, rfl⟩
        have zt := cz_ticks inv1.ck (s.n : Int) rfl
        have J1 := Lib.hid inv1
        rw [← hm] at hwa hwb HD
        have hwm : IntKind.i64.wrap ((s.n : Int) - (u.n : Int)) = m := by rw [hm]; exact IntWalk.i64_in _ (by have := HI.out; have := HF.out; have := HL.out; omega)
        have HUO := Lib.hid huo
        clear inv1 hm hu hun huo hin
        go_wp2_with (go_at_call 13; (with_reducible refine zt.mono ?_); (rintro e w7 ⟨rfl, rfl⟩))
        clear zt hwm
        go_loopw [17] (fun ix wr => DrEnd w g hb s u.t ix wr) (fun ix _ => 3 - vI ix)
        case atStart => exact ⟨0, by decide, rfl, J1.out⟩
        case round =>
          obtain ⟨a, ha, rfl, I9⟩ := hrel
          cases k0 with
          | false =>
            have HB := Lib.hid I9.ck.fr
            clear I9
            by_cases ha3 : (a : Int) < 3
            · go_wp2
              go_ret
              exact ⟨rfl, HB.out⟩
            · go_wp2
              go_ret
              exact ⟨rfl, HB.out⟩
          | true =>
            by_cases ha3 : (a : Int) < 3
            · obtain ⟨na, hna⟩ : ∃ na, na = s.now (a : Int) := ⟨_, rfl⟩
              obtain ⟨ua, hua⟩ : ∃ ua, ua = u.now (a : Int) := ⟨_, rfl⟩
              have y := I9.was.cell (t3_now (s := u) (a := a) (by omega))
              rw [← hua] at y
              have zn := fun N => cz_now ((I9.step (belowN (Below.refl _ wr) N)).ck) (a : Int) na hna.symm
              have hd := HD.out HK.out.symm (a : Int) (by omega) ha3
              have m1 := S.now_le HO.out (a : Int)
              have m2 := S.now_le HUO.out (a : Int)
              rw [← hna] at hd m1
              rw [← hua] at hd m2
              unfold M at m1 m2
              obtain ⟨X, hX⟩ : ∃ X, X = na - ua := ⟨_, rfl⟩
              have hws : IntKind.i64.wrap (na - ua) = X := by rw [hX]; exact IntWalk.i64_in _ (by omega)
              rw [← hX] at hd
              have g1 : ¬ X < 90 * m := by omega
              have g2 : ¬ 110 * m < X := by omega
              have hw90 : IntKind.i64.wrap (90 * X) = 90 * X := IntWalk.i64_in _ (by omega)
              have HXB := Lib.hid (And.intro hd ha3)
              have J9 := Lib.hid I9
              clear I9 hna hua hd m1 m2 hX ha
              go_wp2_with fail
              go_quiet ((go_at_call 15; with_reducible first | exact quietN (zn _) | exact quietA (zn _)))
              go_wp2
              have K9 := Lib.hid (J9.out.step (belowN (Below.refl _ wr) nq))
              clear y zn hws g1 g2
              obtain ⟨wq, hwq⟩ : ∃ wq, wq = wr.drewN nq := ⟨_, rfl⟩
              rw [← hwq] at K9 ⊢
              clear hwq
              go_loopw [19] (fun ix wr => DrEnd w g hb s u.t ix wr) (fun ix _ => 3 - vI ix)
              case atStart => exact ⟨0, by decide, rfl, K9.out⟩
              case round =>
                obtain ⟨b, hb3, rfl, I9⟩ := hrel
                by_cases hb4 : (b : Int) < 3
                · obtain ⟨nb, hnb⟩ : ∃ nb, nb = s.now (b : Int) := ⟨_, rfl⟩
                  obtain ⟨ub, hub⟩ : ∃ ub, ub = u.now (b : Int) := ⟨_, rfl⟩
                  have y := I9.was.cell (t3_now (s := u) (a := b) (by omega))
                  rw [← hub] at y
                  have zn := fun N => cz_now ((I9.step (belowN (Below.refl _ wr) N)).ck) (b : Int) nb hnb.symm
                  have hd := HD.out HK.out.symm (b : Int) (by omega) hb4
                  have m1 := S.now_le HO.out (b : Int)
                  have m2 := S.now_le HUO.out (b : Int)
                  rw [← hnb] at hd m1
                  rw [← hub] at hd m2
                  unfold M at m1 m2
                  obtain ⟨Y2, hY⟩ : ∃ Y, Y = nb - ub := ⟨_, rfl⟩
                  have hws : IntKind.i64.wrap (nb - ub) = Y2 := by rw [hY]; exact IntWalk.i64_in _ (by omega)
                  rw [← hY] at hd
                  have g1 : decide (110 * Y2 < 90 * X) = false := by have := HXB.out; rw [decide_eq_false_iff_not]; omega
                  have g2 : ¬ 110 * Y2 < 90 * X := by have := HXB.out; omega
                  have hw110 : IntKind.i64.wrap (110 * Y2) = 110 * Y2 := IntWalk.i64_in _ (by omega)
                  have J10 := Lib.hid I9
                  have HB4 := Lib.hid hb4
                  clear I9 hnb hub hd m1 m2 hY hb3
                  go_wp2_with fail
                  go_quiet ((go_at_call 15; with_reducible first | exact quietN (zn _) | exact quietA (zn _)))
                  go_wp2
                  exact ⟨⟨b + 1, by have := HB4.out; omega, by go_num, J10.out.step (belowN (Below.refl _ wr) nq)⟩, by have := HB4.out; simp [vI]; omega⟩
                · have J10 := Lib.hid I9
                  have HB4 := Lib.hid HXB.out.2
                  clear I9
                  go_wp2
                  exact ⟨⟨a + 1, by have := HB4.out; omega, by go_num, J10.out⟩, by have := HB4.out; simp [vI]; omega⟩
            · have HB := Lib.hid I9.ck.fr
              clear I9
              go_wp2
              go_ret
              exact ⟨rfl, HB.out⟩
      · have hin' : ((i : Int) == (n : Int)) = false := by simp; omega
        have hin2 : (i : Int) < (n : Int) := by have := HI.out; omega
        obtain ⟨m, hm⟩ : ∃ m, l[i]? = some m := ⟨_, List.getElem?_eq_getElem (by have := HI.out; have := HL.out; omega)⟩
        have NX := And.intro (show i + 1 ≤ n by have := HI.out; omega) (St_succ (t := t) hm)
        rw [← HQ.out] at NX
        have NX := Lib.hid NX
        obtain ⟨ad, rfl, Y⟩ := tk_cells HA.out hm
        have Y := Lib.hid Y
        clear hin hm
        rcases tickE_cases s m with hE | hE | hE
        · have zt := cz_tick inv1.ck m (by have := HI.out; omega) 5 s hE (kb_no (by rw [hE]; decide))
          have HE := Lib.hid hE
          clear hE
          obtain ⟨y0, y1, y2⟩ := Y.out wc inv1.ck.fr
          have J1 := Lib.hid inv1
          clear inv1
          go_wp2_with (go_at_call 11; refine zt.mono ?_; (rintro e w6 ⟨rfl, H6, F6⟩; have D6 := Lib.hid (J1.out.tick H6 F6); clear H6 F6))
          clear y0 y1 y2 zt
          go_loopw [10, 15] (fun kv ix wr => kv = .bool k0 ∧ ix = .int .i64 0 ∧ Dr w wr g hb s x1) (fun _ _ _ => 0)
          case atStart => exact ⟨rfl, rfl, D6.out⟩
          case round =>
            obtain ⟨rfl, rfl, I9⟩ := hrel
            have zk := cz_kept I9.ck k0 HK.out.symm
            have e0 : (k0 != k0) = false := by simp
            have I9 := Lib.hid I9
            go_wp2_with (go_at_call 14; (with_reducible refine zk.mono ?_); (rintro e w9 ⟨rfl, rfl⟩))
            refine ⟨⟨i + 1, by rw [← HL.out.1]; exact NX.out.1, ?_, ?_, by go_num, ?_⟩, by have := HI.out.1; have := HL.out.2; simp [vI]; omega⟩
            · rw [NX.out.2, kb_no (by rw [HE.out]; decide), HK.out]
            · rw [HV.out.2.2.2]
            · rw [NX.out.2, kb_no (by rw [HE.out]; decide), ← HV.out.2.2.1]
              exact I9.out
        · have zt := cz_tick inv1.ck m (by have := HI.out; omega) 8 s hE (kb_no (by rw [hE]; decide))
          have HE := Lib.hid hE
          clear hE
          obtain ⟨y0, y1, y2⟩ := Y.out wc inv1.ck.fr
          have J1 := Lib.hid inv1
          clear inv1
          go_wp2_with (go_at_call 11; refine zt.mono ?_; (rintro e w6 ⟨rfl, H6, F6⟩; have D6 := Lib.hid (J1.out.tick H6 F6); clear H6 F6))
          clear y0 y1 y2 zt
          go_loopw [10, 15] (fun kv ix wr => kv = .bool k0 ∧ ix = .int .i64 0 ∧ Dr w wr g hb s x1) (fun _ _ _ => 0)
          case atStart => exact ⟨rfl, rfl, D6.out⟩
          case round =>
            obtain ⟨rfl, rfl, I9⟩ := hrel
            have zk := cz_kept I9.ck k0 HK.out.symm
            have e0 : (k0 != k0) = false := by simp
            have I9 := Lib.hid I9
            go_wp2_with (go_at_call 14; (with_reducible refine zk.mono ?_); (rintro e w9 ⟨rfl, rfl⟩))
            refine ⟨⟨i + 1, by rw [← HL.out.1]; exact NX.out.1, ?_, ?_, by go_num, ?_⟩, by have := HI.out.1; have := HL.out.2; simp [vI]; omega⟩
            · rw [NX.out.2, kb_no (by rw [HE.out]; decide), HK.out]
            · rw [HV.out.2.2.2]
            · rw [NX.out.2, kb_no (by rw [HE.out]; decide), ← HV.out.2.2.1]
              exact I9.out
        · have zt := cz_tick inv1.ck m (by have := HI.out; omega) 0 (s.tick m) hE rfl
          have HE := kb_3 hE
          clear hE
          obtain ⟨y0, y1, y2⟩ := Y.out wc inv1.ck.fr
          have J1 := Lib.hid inv1
          obtain ⟨s2, hs2⟩ : ∃ s2, s2 = s.tick m := ⟨_, rfl⟩
          have NX := NX.out
          rw [← hs2] at zt HE NX
          rw [← HK.out] at HE
          have HE := Lib.hid HE
          have NX := Lib.hid NX
          clear inv1 hs2
          go_wp2_with (go_at_call 11; refine zt.mono ?_; (rintro e w6 ⟨rfl, H6, F6⟩; have D6 := Lib.hid (J1.out.tick H6 F6); clear H6 F6))
          clear y0 y1 y2 zt
          go_loopw [10, 15] (fun kv ix wr => DrIn w g hb s2 x1 k0 m kv ix wr) (fun _ ix _ => 3 - vI ix)
          case atStart => exact ⟨0, .inl rfl, rfl, by rw [kb_0], D6.out⟩
          case round =>
            obtain ⟨y, hy, rfl, rfl, I9⟩ := hrel
            obtain ⟨y0, y1, y2⟩ := Y.out wr I9.ck.fr
            have zk := cz_kept I9.ck (kb k0 m 3) HE.out.symm
            have I9 := Lib.hid I9
            rcases hy with rfl | rfl | rfl | rfl
            · cases hK : kb k0 m 0 with
              | false =>
                have HK2 := Lib.hid (kb_off hK (y := 1) (by decide))
                clear hK
                go_wp2
                exact ⟨⟨1, .inr (.inl rfl), rfl, by rw [HK2.out], I9.out⟩, by decide⟩
              | true =>
                have HK2 := Lib.hid (kb_step (v := m.a) (k := 0) rfl rfl hK)
                clear hK
                by_cases h90 : 90 ≤ m.a
                · by_cases h110 : m.a ≤ 110
                  · have HC := Lib.hid (And.intro h90 h110)
                    go_wp2
                    exact ⟨⟨1, .inr (.inl rfl), rfl, by rw [show kb k0 m 1 = true from HK2.out.trans (decide_eq_true HC.out)], I9.out⟩, by decide⟩
                  · have HC := Lib.hid h110
                    go_wp2
                    exact ⟨⟨1, .inr (.inl rfl), rfl, by rw [show kb k0 m 1 = false from HK2.out.trans (decide_eq_false fun e => HC.out e.2)], I9.out⟩, by decide⟩
                · have HC := Lib.hid h90
                  go_wp2
                  exact ⟨⟨1, .inr (.inl rfl), rfl, by rw [show kb k0 m 1 = false from HK2.out.trans (decide_eq_false fun e => HC.out e.1)], I9.out⟩, by decide⟩
            · cases hK : kb k0 m 1 with
              | false =>
                have HK2 := Lib.hid (kb_off hK (y := 2) (by decide))
                clear hK
                go_wp2
                exact ⟨⟨2, .inr (.inr (.inl rfl)), rfl, by rw [HK2.out], I9.out⟩, by decide⟩
              | true =>
                have HK2 := Lib.hid (kb_step (v := m.b) (k := 1) rfl rfl hK)
                clear hK
                by_cases h90 : 90 ≤ m.b
                · by_cases h110 : m.b ≤ 110
                  · have HC := Lib.hid (And.intro h90 h110)
                    go_wp2
                    exact ⟨⟨2, .inr (.inr (.inl rfl)), rfl, by rw [show kb k0 m 2 = true from HK2.out.trans (decide_eq_true HC.out)], I9.out⟩, by decide⟩
                  · have HC := Lib.hid h110
                    go_wp2
                    exact ⟨⟨2, .inr (.inr (.inl rfl)), rfl, by rw [show kb k0 m 2 = false from HK2.out.trans (decide_eq_false fun e => HC.out e.2)], I9.out⟩, by decide⟩
                · have HC := Lib.hid h90
                  go_wp2
                  exact ⟨⟨2, .inr (.inr (.inl rfl)), rfl, by rw [show kb k0 m 2 = false from HK2.out.trans (decide_eq_false fun e => HC.out e.1)], I9.out⟩, by decide⟩
            · cases hK : kb k0 m 2 with
              | false =>
                have HK2 := Lib.hid (kb_off hK (y := 3) (by decide))
                clear hK
                go_wp2
                exact ⟨⟨3, .inr (.inr (.inr rfl)), rfl, by rw [HK2.out], I9.out⟩, by decide⟩
              | true =>
                have HK2 := Lib.hid (kb_step (v := m.c) (k := 2) rfl rfl hK)
                clear hK
                by_cases h90 : 90 ≤ m.c
                · by_cases h110 : m.c ≤ 110
                  · have HC := Lib.hid (And.intro h90 h110)
                    go_wp2
                    exact ⟨⟨3, .inr (.inr (.inr rfl)), rfl, by rw [show kb k0 m 3 = true from HK2.out.trans (decide_eq_true HC.out)], I9.out⟩, by decide⟩
                  · have HC := Lib.hid h110
                    go_wp2
                    exact ⟨⟨3, .inr (.inr (.inr rfl)), rfl, by rw [show kb k0 m 3 = false from HK2.out.trans (decide_eq_false fun e => HC.out e.2)], I9.out⟩, by decide⟩
                · have HC := Lib.hid h90
                  go_wp2
                  exact ⟨⟨3, .inr (.inr (.inr rfl)), rfl, by rw [show kb k0 m 3 = false from HK2.out.trans (decide_eq_false fun e => HC.out e.1)], I9.out⟩, by decide⟩
            · obtain ⟨k3, hk3⟩ : ∃ k3, k3 = kb k0 m 3 := ⟨_, rfl⟩
              rw [← hk3] at zk ⊢
              have e0 : (k3 != k3) = false := by simp
              have HK3 := Lib.hid hk3
              clear hk3
              go_wp2_with (go_at_call 14; (with_reducible refine zk.mono ?_); (rintro e w9 ⟨rfl, rfl⟩))
              refine ⟨⟨i + 1, by rw [← HL.out.1]; exact NX.out.1, ?_, ?_, by go_num, ?_⟩, by have := HI.out.1; have := HL.out.2; simp [vI]; omega⟩
              · rw [NX.out.2, ← HE.out, HK3.out]
              · rw [HV.out.2.2.2]
              · rw [NX.out.2, ← HV.out.2.2.1]
                exact I9.out
/-- ClockDrifts, whatever comes in -/
theorem ckDrifts_any (hf : -9223372036854775808 ≤ fr ∧ fr ≤ 9223372036854775807) (hA : TksAt w w.heap.size A l) : Calls Try.prog 5 #[.agg (t3Cells t).toArray, .slice A l.length c, .int .i64 fr] w fun e w' => e = .returned (.bool true) ∧ Below w.heap.size w w' := by
  by_cases he : Btw 0 M t
  · by_cases hl : l.length ≤ 200
    · exact ckDrifts_main he hl hf hA
    · exact ckDrifts_long he (by omega)
  · exact ckDrifts_none he
end
end Go.Proofs.Ytfopjilncfndnaa
