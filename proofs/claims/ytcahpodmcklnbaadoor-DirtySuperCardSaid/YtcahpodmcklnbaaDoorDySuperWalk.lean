/-
  The walk of DirtySuper. Conditions: the table of crc lies as the program's text lays it; what came in can be read.
-/
import Derived.Test.YtcahpodmcklnbaaDoorDyRound
namespace Go.Proofs.YtcahpodmcklnbaaDoor
open Go.RowKit Fix

def vNu : Value → Nat
  | .int _ q => q.toNat
  | _ => 0
theorem stepU_of {S T : DS} {p k n : Int} {v s : Nat} {e : Int} (h : Dy.step S p k n v s = (T, e)) : Dy.stepS S p k n v s = if e = 0 then Dy.want k n v s else s := by unfold Dy.stepS; rw [h]
namespace Dy
theorem want_two (n : Int) (v s : Nat) : want 2 n v s = cut s v := by
  unfold want
  rw [if_neg (by decide), if_neg (by decide)]
theorem bad_two {k n : Int} (h : bad k n = true) : k ≠ 2 := by
  rintro rfl
  unfold bad at h
  simp at h
end Dy
/-- the least, the most: what is told of them -/
structure DuSet (s lo hi : Nat) : Prop where
  low : Dy.Sub lo s
  up : Dy.Sub s hi
  l64 : lo < 2 ^ 64
  h64 : hi < 2 ^ 64
theorem DuSet.and {s lo hi : Nat} (h : DuSet s lo hi) (hs : s < 2 ^ 64) : bits .and .u64 (s : Int) (lo : Int) = (lo : Int) := by
  rw [u64_and_nat s lo hs h.l64, h.low.and h.l64]
theorem DuSet.none_ {s lo hi : Nat} (h : DuSet s lo hi) (hs : s < 2 ^ 64) : bits .andNot .u64 (s : Int) (hi : Int) = 0 := by
  rw [mpCut s hi hs h.h64, h.up.none_ hs h.h64]
  rfl
set_option maxRecDepth 100000 in
set_option maxHeartbeats 16000000 in
theorem super_any (A0 : Option Addr) (l : List D10M) (c0 : Nat) (w : World) (ht : TabAt w) (hA : D10sAt w w.heap.size A0 l) (hms : l.length ≤ 9223372036854775807) :
    Calls Tryd.prog 5 #[.slice A0 l.length c0] w fun e w' => e = .returned (.bool true) ∧ Below w.heap.size w w' := by
  have zs := fun w t => start_made w t
  have zw := fun w t => awake_any w t
  obtain ⟨n, hn⟩ : ∃ n, n = l.length := ⟨_, rfl⟩
  rw [← hn] at hms ⊢
  have HA := Lib.hid (And.intro hA hn)
  have HT := Lib.hid ht
  clear hA hn ht
  go_enter Tryd.func5, Tryd.ntmps5
  go_wp2_with (first
    | (go_at_call 13; refine (zw w HT.out).mono ?_; (rintro e w1 ⟨rfl, B1⟩; have t1 := HT.out.below B1 (Nat.le_refl _)))
    | (go_at_call 14; refine (zs w1 t1).mono ?_; (rintro e w2 ⟨b, F0, S0, g0, rfl, D0, i0, o0, B2⟩)))
  have I0 : DkInv w w2 b 0 F0 S0 g0 1 0 := ⟨⟨D0.d, D0.m, D0.ap, fun k hk => Nat.le_trans B1.size (D0.far k hk), Nat.le_trans B1.size D0.gn⟩, step_trans B1 B2, i0, by omega, by omega⟩
  replace I0 := Lib.hid I0
  clear D0 i0 o0 B1 B2 t1 zs zw
  go_loopw [5, 6, 7, 8] (fun pm lv hv' ix wr => ∃ k F S g N s lo hi, pm = .pointer (some ⟨g, 0, none⟩) ∧ lv = .int .u64 ((lo : Nat) : Int) ∧ hv' = .int .u64 ((hi : Nat) : Int) ∧ ix = .int .i64 ((k : Nat) : Int) ∧ k ≤ n ∧ k ≤ 20 ∧ DkInv w wr b k F S g N s ∧ DuSet s lo hi) (fun _ _ _ ix _ => 21 - vNu ix)
  case atStart => exact ⟨0, F0, S0, g0, 1, 0, 0, 0, rfl, rfl, rfl, rfl, Nat.zero_le _, Nat.zero_le _, I0.out, ⟨Dy.Sub.refl _, Dy.Sub.refl _, by decide, by decide⟩⟩
  case round =>
    obtain ⟨k, F, S, g, N, s, lo, hi, rfl, rfl, rfl, rfl, hk, hk2, inv, su⟩ := hrel
    clear I0
    by_cases hlt : k < n
    · by_cases h20 : k < 20
      · obtain ⟨m, hm⟩ : ∃ m, l[k]? = some m := ⟨_, List.getElem?_eq_getElem (by rw [← HA.out.2]; exact hlt)⟩
        have hmem := List.mem_of_getElem? hm
        obtain ⟨ad, rfl, y0, y1, y2, y3, y4, y5⟩ := d10_at HA.out.1 inv.below hm
        have hlt' : (k : Int) < (n : Int) := by omega
        have h20' : (k : Int) < 20 := by omega
        have hw1 : IntKind.i64.wrap ((k : Int) + 1) = (k : Int) + 1 := IntWalk.i64_in _ (by omega)
        have X1 := Lib.hid (fun (u : World) (B : Below wr.heap.size wr u) (x : BlkR 54 u wr.heap.size (d10Cells m)) => inv.start B x)
        have stn := HA.out.1.n m hmem
        have hv := HA.out.1.v m hmem
        have hr := HA.out.1.k m hmem
        have hc := HA.out.1.c m hmem
        have iv := inv.inv
        have hs := iv.lt
        have hN : N < 1000 := by have := inv.few; omega
        have hO : S.ops ≤ 900000 := by have := inv.ops; omega
        have HI := Lib.hid (And.intro inv.ops inv.few)
        have BW := Lib.hid inv.below
        clear inv hm hmem
        by_cases hk10 : 10 < m.keeps.length
        · have i2 : (10 : Int) < (m.keeps.length : Int) := by omega
          clear stn hv hr hc iv hs hN hO HI hk10 su
          go_wp2_with (first
            | ((with_reducible refine atWorld wr ?_); refine wpList_allocRow (w := wr) d10Ty rfl rfl ?_; (intro w1 b1 B1 s1; have b1 := Lib.hid b1))
            | ((with_reducible refine atWorld w1 ?_); refine wpList_storeRow (w := w1) d10Ty rfl (.tmp 9) (.tmp 37) rfl wr.heap.size (d10Cells m) d10Z rfl rfl rfl rfl (d10_one m) b1.out ?_; (intro w2 b2 B2 s2 k2; have B12 : Below wr.heap.size wr w2 := B1.trans B2; have M2 := Lib.hid (X1.out w2 B12 b2); obtain ⟨e20, e21, e22, e23, e24, e25⟩ := M2.out.cells; clear b1 B1 s1 b2 B2 s2 k2)))
          go_ret
          exact ⟨rfl, BW.out.trans (B12.mono BW.out.size)⟩
        · have i2 : ¬ (10 : Int) < (m.keeps.length : Int) := by omega
          by_cases hk0 : m.k < 0
          · clear stn hv hr hc iv hs hN hO HI hk10 su
            go_wp2_with (first
              | ((with_reducible refine atWorld wr ?_); refine wpList_allocRow (w := wr) d10Ty rfl rfl ?_; (intro w1 b1 B1 s1; have b1 := Lib.hid b1))
              | ((with_reducible refine atWorld w1 ?_); refine wpList_storeRow (w := w1) d10Ty rfl (.tmp 9) (.tmp 37) rfl wr.heap.size (d10Cells m) d10Z rfl rfl rfl rfl (d10_one m) b1.out ?_; (intro w2 b2 B2 s2 k2; have B12 : Below wr.heap.size wr w2 := B1.trans B2; have M2 := Lib.hid (X1.out w2 B12 b2); obtain ⟨e20, e21, e22, e23, e24, e25⟩ := M2.out.cells; clear b1 B1 s1 b2 B2 s2 k2)))
            go_ret
            exact ⟨rfl, BW.out.trans (B12.mono BW.out.size)⟩
          · by_cases hk3 : 2 < m.k
            · clear stn hv hr hc iv hs hN hO HI hk10 su
              go_wp2_with (first
                | ((with_reducible refine atWorld wr ?_); refine wpList_allocRow (w := wr) d10Ty rfl rfl ?_; (intro w1 b1 B1 s1; have b1 := Lib.hid b1))
                | ((with_reducible refine atWorld w1 ?_); refine wpList_storeRow (w := w1) d10Ty rfl (.tmp 9) (.tmp 37) rfl wr.heap.size (d10Cells m) d10Z rfl rfl rfl rfl (d10_one m) b1.out ?_; (intro w2 b2 B2 s2 k2; have B12 : Below wr.heap.size wr w2 := B1.trans B2; have M2 := Lib.hid (X1.out w2 B12 b2); obtain ⟨e20, e21, e22, e23, e24, e25⟩ := M2.out.cells; clear b1 B1 s1 b2 B2 s2 k2)))
              go_ret
              exact ⟨rfl, BW.out.trans (B12.mono BW.out.size)⟩
            · have hk4 : m.k = 0 ∨ m.k = 1 ∨ m.k = 2 := by omega
              obtain ⟨WM, hWM⟩ : ∃ WM, WM = Dy.want m.k m.n m.v hi := ⟨_, rfl⟩
              have hWM64 : WM < 2 ^ 64 := by rw [hWM]; exact Dy.want_lt _ _ hv su.h64
              have a1 := mpOr hi WM su.h64 hWM64
              have sW : Dy.Sub (Dy.want m.k m.n m.v s) (hi ||| WM) := by rw [hWM]; exact (su.up.want_want hv m.k m.n).trans (Dy.Sub.or_right _ _)
              have sS : Dy.Sub s (hi ||| WM) := su.up.trans (Dy.Sub.or_left _ _)
              have h64 : hi ||| WM < 2 ^ 64 := Nat.or_lt_two_pow su.h64 hWM64
              have hw64 := Dy.want_lt m.k m.n hv hs
              have zWM := fun u F T sA (M : DkAt w b g sA F T wr.heap.size m u) => dk_want M hi hv su.h64
              rw [← hWM] at zWM
              obtain ⟨HM, hHM⟩ : ∃ HM, HM = hi ||| WM := ⟨_, rfl⟩
              rw [← hHM] at a1 sW sS h64
              by_cases hst : m.stop < 0
              · have hst2 : ¬ (0 : Int) ≤ m.stop := by omega
                obtain ⟨T, e, N', q1, q2, q3, q4⟩ := iv.calm hN m.k m.n hv
                have zd := fun u F (M : DkAt w b g s F S wr.heap.size m u) => dk_does M hk4 hv HT.out (by omega)
                rw [stepU_of q1, q1] at zd
                rcases q4 with ⟨rfl, i1, q5⟩ | ⟨rfl, hb, rfl, i1⟩
                · rw [if_pos rfl] at zd
                  obtain ⟨r, hrr⟩ : ∃ r, r = Dy.want m.k m.n m.v s := ⟨_, rfl⟩
                  have zb := fun u F g (M : DkAt w b g r F T wr.heap.size m u) => dk_bits M
                  have zWM := fun u F (M : DkAt w b g r F T wr.heap.size m u) => zWM u F T r M
                  by_cases hk5 : m.k = 2
                  · have t2 : (m.k == 2) = true := by simpa using hk5
                    have t3 : (m.k != 2) = false := by simp [hk5]
                    have a2 := mpCut lo m.v su.l64 hv
                    have D : DuSet (Dy.want m.k m.n m.v s) (Dy.cut lo m.v) HM := ⟨by rw [hk5, Dy.want_two]; exact su.low.cut_cut hv, sW, Dy.cut_lt _ su.l64, h64⟩
                    rw [← hrr] at zd i1 D
                    have HU : Hid (Dy.Inv T N' r ∧ T.ops ≤ 4 * (k + 1) + 4 ∧ N' ≤ k + 1 + 1 ∧ DuSet r (Dy.cut lo m.v) HM) := Lib.hid ⟨i1, by have := HI.out; omega, by have := HI.out; omega, D⟩
                    have a3 := D.and i1.lt
                    have a4 := D.none_ i1.lt
                    obtain ⟨LN, hLN⟩ : ∃ LN, LN = (Dy.cut lo m.v) := ⟨_, rfl⟩
                    rw [← hLN] at a2 a3 HU
                    unfold d10Cells at zWM
                    clear stn hv hr hc iv hs hN hO HI hk10 q1 q2 q3 i1 hk4 hk5 D su sW sS h64 hw64 hWM64 hWM hHM q5 hrr hLN
                    go_wp2_with (first
                      | ((with_reducible refine atWorld wr ?_); refine wpList_allocRow (w := wr) d10Ty rfl rfl ?_; (intro w1 b1 B1 s1; have b1 := Lib.hid b1))
                      | ((with_reducible refine atWorld w1 ?_); refine wpList_storeRow (w := w1) d10Ty rfl (.tmp 9) (.tmp 37) rfl wr.heap.size (d10Cells m) d10Z rfl rfl rfl rfl (d10_one m) b1.out ?_; (intro w2 b2 B2 s2 k2; have B12 : Below wr.heap.size wr w2 := B1.trans B2; have M2 := Lib.hid (X1.out w2 B12 b2); obtain ⟨e20, e21, e22, e23, e24, e25⟩ := M2.out.cells; clear b1 B1 s1 b2 B2 s2 k2))
                      | ((with_reducible refine atWorld w2 ?_); refine wpList_loadRow (w := w2) d10Ty rfl (.tmp 63) rfl wr.heap.size 0 (d10Cells m) rfl rfl (rangeOf M2.out.x) ?_)
                      | (go_at_call 18; refine (zd w2 F M2.out).mono ?_; (rintro e w6 ⟨F6, rfl, M6⟩; have M6 := Lib.hid M6; obtain ⟨e60, e61, e62, e63, e64, e65⟩ := M6.out.cells))
                      | ((with_reducible refine atWorld w6 ?_); refine wpList_loadRow (w := w6) d10Ty rfl (.tmp 67) rfl wr.heap.size 0 (d10Cells m) rfl rfl (rangeOf M6.out.x) ?_)
                      | (go_at_call 15; first
                        | ((with_reducible refine (zWM w6 F6 M6.out).mono ?_); (rintro e w7 ⟨rfl, M7⟩; have M7 := Lib.hid M7; obtain ⟨e70, e71, e72, e73, e74, e75⟩ := M7.out.cells)))
                      | (go_at_call 11; refine (zb w7 F6 g M7.out).mono ?_; (rintro e w' ⟨rfl, rfl⟩)))
                    go_roundw
                    case rel => exact ⟨k + 1, F6, T, g, _, _, _, _, rfl, rfl, rfl, by go_num, by omega, by omega, M7.out.next HU.out.1 HU.out.2.1 HU.out.2.2.1, HU.out.2.2.2⟩
                    case measure => simp [vNu]; omega
                  · have t2 : (m.k == 2) = false := by simpa using hk5
                    have t3 : (m.k != 2) = true := by simp [hk5]
                    have D : DuSet (Dy.want m.k m.n m.v s) (Dy.want m.k m.n m.v lo) HM := ⟨su.low.want_want hv _ _, sW, Dy.want_lt _ _ hv su.l64, h64⟩
                    rw [← hrr] at zd i1 D
                    have HU : Hid (Dy.Inv T N' r ∧ T.ops ≤ 4 * (k + 1) + 4 ∧ N' ≤ k + 1 + 1 ∧ DuSet r (Dy.want m.k m.n m.v lo) HM) := Lib.hid ⟨i1, by have := HI.out; omega, by have := HI.out; omega, D⟩
                    have a3 := D.and i1.lt
                    have a4 := D.none_ i1.lt
                    obtain ⟨LN, hLN⟩ : ∃ LN, LN = (Dy.want m.k m.n m.v lo) := ⟨_, rfl⟩
                    have zWL := fun u F (M : DkAt w b g r F T wr.heap.size m u) => dk_want M lo hv su.l64
                    rw [← hLN] at zWL a3 HU
                    unfold d10Cells at zWM zWL
                    clear stn hv hr hc iv hs hN hO HI hk10 q1 q2 q3 i1 hk4 hk5 D su sW sS h64 hw64 hWM64 hWM hHM q5 hrr hLN
                    go_wp2_with (first
                      | ((with_reducible refine atWorld wr ?_); refine wpList_allocRow (w := wr) d10Ty rfl rfl ?_; (intro w1 b1 B1 s1; have b1 := Lib.hid b1))
                      | ((with_reducible refine atWorld w1 ?_); refine wpList_storeRow (w := w1) d10Ty rfl (.tmp 9) (.tmp 37) rfl wr.heap.size (d10Cells m) d10Z rfl rfl rfl rfl (d10_one m) b1.out ?_; (intro w2 b2 B2 s2 k2; have B12 : Below wr.heap.size wr w2 := B1.trans B2; have M2 := Lib.hid (X1.out w2 B12 b2); obtain ⟨e20, e21, e22, e23, e24, e25⟩ := M2.out.cells; clear b1 B1 s1 b2 B2 s2 k2))
                      | ((with_reducible refine atWorld w2 ?_); refine wpList_loadRow (w := w2) d10Ty rfl (.tmp 63) rfl wr.heap.size 0 (d10Cells m) rfl rfl (rangeOf M2.out.x) ?_)
                      | (go_at_call 18; refine (zd w2 F M2.out).mono ?_; (rintro e w6 ⟨F6, rfl, M6⟩; have M6 := Lib.hid M6; obtain ⟨e60, e61, e62, e63, e64, e65⟩ := M6.out.cells))
                      | ((with_reducible refine atWorld w6 ?_); refine wpList_loadRow (w := w6) d10Ty rfl (.tmp 67) rfl wr.heap.size 0 (d10Cells m) rfl rfl (rangeOf M6.out.x) ?_)
                      | ((with_reducible refine atWorld w7 ?_); refine wpList_loadRow (w := w7) d10Ty rfl (.tmp 85) rfl wr.heap.size 0 (d10Cells m) rfl rfl (rangeOf M7.out.x) ?_)
                      | (go_at_call 15; first
                        | ((with_reducible refine (zWM w6 F6 M6.out).mono ?_); (rintro e w7 ⟨rfl, M7⟩; have M7 := Lib.hid M7; obtain ⟨e70, e71, e72, e73, e74, e75⟩ := M7.out.cells))
                        | ((with_reducible refine (zWL w7 F6 M7.out).mono ?_); (rintro e w8 ⟨rfl, M8⟩; have M8 := Lib.hid M8; obtain ⟨e80, e81, e82, e83, e84, e85⟩ := M8.out.cells)))
                      | (go_at_call 11; refine (zb w8 F6 g M8.out).mono ?_; (rintro e w' ⟨rfl, rfl⟩)))
                    go_roundw
                    case rel => exact ⟨k + 1, F6, T, g, _, _, _, _, rfl, rfl, rfl, by go_num, by omega, by omega, M8.out.next HU.out.1 HU.out.2.1 HU.out.2.2.1, HU.out.2.2.2⟩
                    case measure => simp [vNu]; omega
                · rw [if_neg (by decide)] at zd
                  have hk5 : m.k ≠ 2 := Dy.bad_two hb
                  have t2 : (m.k == 2) = false := by simpa using hk5
                  have t3 : (m.k != 2) = true := by simp [hk5]
                  obtain ⟨r, hrr⟩ : ∃ r, r = s := ⟨_, rfl⟩
                  have zb := fun u F g (M : DkAt w b g r F T wr.heap.size m u) => dk_bits M
                  have zWM := fun u F (M : DkAt w b g r F T wr.heap.size m u) => zWM u F T r M
                  have D : DuSet s lo HM := ⟨su.low, sS, su.l64, h64⟩
                  subst hrr
                  have HU : Hid (Dy.Inv T N' r ∧ T.ops ≤ 4 * (k + 1) + 4 ∧ N' ≤ k + 1 + 1 ∧ DuSet r lo HM) := Lib.hid ⟨i1, by have := HI.out; omega, by have := HI.out; omega, D⟩
                  have a3 := D.and i1.lt
                  have a4 := D.none_ i1.lt
                  unfold d10Cells at zWM
                  clear stn hv hr hc iv hs hN hO HI hk10 q1 q2 q3 i1 hk4 hk5 D su sW sS h64 hw64 hWM64 hWM hHM hb
                  go_wp2_with (first
                    | ((with_reducible refine atWorld wr ?_); refine wpList_allocRow (w := wr) d10Ty rfl rfl ?_; (intro w1 b1 B1 s1; have b1 := Lib.hid b1))
                    | ((with_reducible refine atWorld w1 ?_); refine wpList_storeRow (w := w1) d10Ty rfl (.tmp 9) (.tmp 37) rfl wr.heap.size (d10Cells m) d10Z rfl rfl rfl rfl (d10_one m) b1.out ?_; (intro w2 b2 B2 s2 k2; have B12 : Below wr.heap.size wr w2 := B1.trans B2; have M2 := Lib.hid (X1.out w2 B12 b2); obtain ⟨e20, e21, e22, e23, e24, e25⟩ := M2.out.cells; clear b1 B1 s1 b2 B2 s2 k2))
                    | ((with_reducible refine atWorld w2 ?_); refine wpList_loadRow (w := w2) d10Ty rfl (.tmp 63) rfl wr.heap.size 0 (d10Cells m) rfl rfl (rangeOf M2.out.x) ?_)
                    | (go_at_call 18; refine (zd w2 F M2.out).mono ?_; (rintro e w6 ⟨F6, rfl, M6⟩; have M6 := Lib.hid M6; obtain ⟨e60, e61, e62, e63, e64, e65⟩ := M6.out.cells))
                    | ((with_reducible refine atWorld w6 ?_); refine wpList_loadRow (w := w6) d10Ty rfl (.tmp 67) rfl wr.heap.size 0 (d10Cells m) rfl rfl (rangeOf M6.out.x) ?_)
                    | (go_at_call 15; first
                      | ((with_reducible refine (zWM w6 F6 M6.out).mono ?_); (rintro e w7 ⟨rfl, M7⟩; have M7 := Lib.hid M7; obtain ⟨e70, e71, e72, e73, e74, e75⟩ := M7.out.cells)))
                    | (go_at_call 11; refine (zb w7 F6 g M7.out).mono ?_; (rintro e w' ⟨rfl, rfl⟩)))
                  go_roundw
                  case rel => exact ⟨k + 1, F6, T, g, _, _, _, _, rfl, rfl, rfl, by go_num, by omega, by omega, M7.out.next HU.out.1 HU.out.2.1 HU.out.2.2.1, HU.out.2.2.2⟩
                  case measure => simp [vNu]; omega
              · have hst2 : (0 : Int) ≤ m.stop := by omega
                obtain ⟨T, e, N', q1, q2, q3, q3b, q5, q4⟩ := iv.stop hN m.k m.n hv m.stop.toNat m.keeps m.tear
                have zf := fun u (M : DkAt w b g s F S wr.heap.size m u) => dk_fuse M m.stop stn.1 stn.2
                rw [show S.fuse m.stop = ({ S with left := some m.stop.toNat }, 0) by unfold DS.fuse; rw [iv.q.out]; simp [hst]] at zf
                obtain ⟨S1, hS1⟩ : ∃ S1 : DS, S1 = { S with left := some m.stop.toNat } := ⟨_, rfl⟩
                have ho1 : S1.ops = S.ops := by rw [hS1]
                rw [← hS1] at zf q1
                have zd := fun u F (M : DkAt w b g s F S1 wr.heap.size m u) => dk_does M hk4 hv HT.out (by omega)
                rw [stepU_of q1, q1] at zd
                obtain ⟨U, hU⟩ : ∃ U, U = T.crash m.keeps m.tear := ⟨_, rfl⟩
                have zc := fun u F sA (M : DkAt w b g sA F T wr.heap.size m u) => dk_crash M m.keeps m.AK m.keeps.length m.ck m.tear hr rfl hc
                rw [← hU] at zc q4 q3b
                clear hU hS1 q5
                rcases q4 with ⟨rfl, i1⟩ | ⟨rfl, hb, i1⟩ | ⟨rfl, hws, i1⟩
                · rw [if_pos rfl] at zd
                  obtain ⟨r, hrr⟩ : ∃ r, r = Dy.want m.k m.n m.v s := ⟨_, rfl⟩
                  by_cases hk5 : m.k = 2
                  · have t2 : (m.k == 2) = true := by simpa using hk5
                    have t3 : (m.k != 2) = false := by simp [hk5]
                    have a2 := mpCut lo m.v su.l64 hv
                    have D : DuSet (Dy.want m.k m.n m.v s) (Dy.cut lo m.v) HM := ⟨by rw [hk5, Dy.want_two]; exact su.low.cut_cut hv, sW, Dy.cut_lt _ su.l64, h64⟩
                    rw [← hrr] at zd i1 D
                    have zc := fun u F (M : DkAt w b g r F T wr.heap.size m u) => zc u F r M
                    have zWM := fun u F (M : DkAt w b g r F T wr.heap.size m u) => zWM u F T r M
                    have zo := fun u F (M : DkAt w b g r F U wr.heap.size m u) => dk_open M HT.out i1.opens.1
                    rw [i1.opens.2] at zo
                    have zb := fun u F g (M : DkAt w b g r F U wr.heap.size m u) => dk_bits M
                    have HU : Hid (Dy.Inv U N' r ∧ U.ops ≤ 4 * (k + 1) + 4 ∧ N' ≤ k + 1 + 1 ∧ DuSet r (Dy.cut lo m.v) HM) := Lib.hid ⟨i1, by have := HI.out; omega, by have := HI.out; omega, D⟩
                    have a3 := D.and i1.lt
                    have a4 := D.none_ i1.lt
                    obtain ⟨LN, hLN⟩ : ∃ LN, LN = (Dy.cut lo m.v) := ⟨_, rfl⟩
                    rw [← hLN] at a2 a3 HU
                    unfold d10Cells at zWM
                    clear stn hv hr hc iv hs hN hO HI hk10 q1 q2 q3 i1 hk4 hk5 D su sW sS h64 hw64 hWM64 hWM hHM q3b ho1 hrr hLN
                    go_wp2_with (first
                      | ((with_reducible refine atWorld wr ?_); refine wpList_allocRow (w := wr) d10Ty rfl rfl ?_; (intro w1 b1 B1 s1; have b1 := Lib.hid b1))
                      | ((with_reducible refine atWorld w1 ?_); refine wpList_storeRow (w := w1) d10Ty rfl (.tmp 9) (.tmp 37) rfl wr.heap.size (d10Cells m) d10Z rfl rfl rfl rfl (d10_one m) b1.out ?_; (intro w2 b2 B2 s2 k2; have B12 : Below wr.heap.size wr w2 := B1.trans B2; have M2 := Lib.hid (X1.out w2 B12 b2); obtain ⟨e20, e21, e22, e23, e24, e25⟩ := M2.out.cells; clear b1 B1 s1 b2 B2 s2 k2))
                      | (go_at_call 16; refine (zf w2 M2.out).mono ?_; (rintro e w4 ⟨F4, rfl, M4⟩; have M4 := Lib.hid M4; obtain ⟨e40, e41, e42, e43, e44, e45⟩ := M4.out.cells))
                      | ((with_reducible refine atWorld w4 ?_); refine wpList_loadRow (w := w4) d10Ty rfl (.tmp 63) rfl wr.heap.size 0 (d10Cells m) rfl rfl (rangeOf M4.out.x) ?_)
                      | (go_at_call 18; refine (zd w4 F4 M4.out).mono ?_; (rintro e w6 ⟨F6, rfl, M6⟩; have M6 := Lib.hid M6; obtain ⟨e60, e61, e62, e63, e64, e65⟩ := M6.out.cells))
                      | ((with_reducible refine atWorld w6 ?_); refine wpList_loadRow (w := w6) d10Ty rfl (.tmp 67) rfl wr.heap.size 0 (d10Cells m) rfl rfl (rangeOf M6.out.x) ?_)
                      | (go_at_call 15; first
                        | ((with_reducible refine (zWM w6 F6 M6.out).mono ?_); (rintro e w7 ⟨rfl, M7⟩; have M7 := Lib.hid M7; obtain ⟨e70, e71, e72, e73, e74, e75⟩ := M7.out.cells)))
                      | (go_at_call 19; refine (zc w7 F6 M7.out).mono ?_; (rintro e w9 ⟨F9, rfl, M9⟩; have M9 := Lib.hid M9; obtain ⟨e90, e91, e92, e93, e94, e95⟩ := M9.out.cells))
                      | (go_at_call 7; refine (zo w9 F9 M9.out).mono ?_; (rintro e w10 ⟨g10, rfl, M10⟩; have M10 := Lib.hid M10))
                      | (go_at_call 11; refine (zb w10 F9 g10 M10.out).mono ?_; (rintro e w' ⟨rfl, rfl⟩)))
                    go_roundw
                    case rel => exact ⟨k + 1, F9, U, g10, _, _, _, _, rfl, rfl, rfl, by go_num, by omega, by omega, M10.out.next HU.out.1 HU.out.2.1 HU.out.2.2.1, HU.out.2.2.2⟩
                    case measure => simp [vNu]; omega
                  · have t2 : (m.k == 2) = false := by simpa using hk5
                    have t3 : (m.k != 2) = true := by simp [hk5]
                    have D : DuSet (Dy.want m.k m.n m.v s) (Dy.want m.k m.n m.v lo) HM := ⟨su.low.want_want hv _ _, sW, Dy.want_lt _ _ hv su.l64, h64⟩
                    rw [← hrr] at zd i1 D
                    have zc := fun u F (M : DkAt w b g r F T wr.heap.size m u) => zc u F r M
                    have zWM := fun u F (M : DkAt w b g r F T wr.heap.size m u) => zWM u F T r M
                    have zo := fun u F (M : DkAt w b g r F U wr.heap.size m u) => dk_open M HT.out i1.opens.1
                    rw [i1.opens.2] at zo
                    have zb := fun u F g (M : DkAt w b g r F U wr.heap.size m u) => dk_bits M
                    have HU : Hid (Dy.Inv U N' r ∧ U.ops ≤ 4 * (k + 1) + 4 ∧ N' ≤ k + 1 + 1 ∧ DuSet r (Dy.want m.k m.n m.v lo) HM) := Lib.hid ⟨i1, by have := HI.out; omega, by have := HI.out; omega, D⟩
                    have a3 := D.and i1.lt
                    have a4 := D.none_ i1.lt
                    obtain ⟨LN, hLN⟩ : ∃ LN, LN = (Dy.want m.k m.n m.v lo) := ⟨_, rfl⟩
                    have zWL := fun u F (M : DkAt w b g r F T wr.heap.size m u) => dk_want M lo hv su.l64
                    rw [← hLN] at zWL a3 HU
                    unfold d10Cells at zWM zWL
                    clear stn hv hr hc iv hs hN hO HI hk10 q1 q2 q3 i1 hk4 hk5 D su sW sS h64 hw64 hWM64 hWM hHM q3b ho1 hrr hLN
                    go_wp2_with (first
                      | ((with_reducible refine atWorld wr ?_); refine wpList_allocRow (w := wr) d10Ty rfl rfl ?_; (intro w1 b1 B1 s1; have b1 := Lib.hid b1))
                      | ((with_reducible refine atWorld w1 ?_); refine wpList_storeRow (w := w1) d10Ty rfl (.tmp 9) (.tmp 37) rfl wr.heap.size (d10Cells m) d10Z rfl rfl rfl rfl (d10_one m) b1.out ?_; (intro w2 b2 B2 s2 k2; have B12 : Below wr.heap.size wr w2 := B1.trans B2; have M2 := Lib.hid (X1.out w2 B12 b2); obtain ⟨e20, e21, e22, e23, e24, e25⟩ := M2.out.cells; clear b1 B1 s1 b2 B2 s2 k2))
                      | (go_at_call 16; refine (zf w2 M2.out).mono ?_; (rintro e w4 ⟨F4, rfl, M4⟩; have M4 := Lib.hid M4; obtain ⟨e40, e41, e42, e43, e44, e45⟩ := M4.out.cells))
                      | ((with_reducible refine atWorld w4 ?_); refine wpList_loadRow (w := w4) d10Ty rfl (.tmp 63) rfl wr.heap.size 0 (d10Cells m) rfl rfl (rangeOf M4.out.x) ?_)
                      | (go_at_call 18; refine (zd w4 F4 M4.out).mono ?_; (rintro e w6 ⟨F6, rfl, M6⟩; have M6 := Lib.hid M6; obtain ⟨e60, e61, e62, e63, e64, e65⟩ := M6.out.cells))
                      | ((with_reducible refine atWorld w6 ?_); refine wpList_loadRow (w := w6) d10Ty rfl (.tmp 67) rfl wr.heap.size 0 (d10Cells m) rfl rfl (rangeOf M6.out.x) ?_)
                      | ((with_reducible refine atWorld w7 ?_); refine wpList_loadRow (w := w7) d10Ty rfl (.tmp 85) rfl wr.heap.size 0 (d10Cells m) rfl rfl (rangeOf M7.out.x) ?_)
                      | (go_at_call 15; first
                        | ((with_reducible refine (zWM w6 F6 M6.out).mono ?_); (rintro e w7 ⟨rfl, M7⟩; have M7 := Lib.hid M7; obtain ⟨e70, e71, e72, e73, e74, e75⟩ := M7.out.cells))
                        | ((with_reducible refine (zWL w7 F6 M7.out).mono ?_); (rintro e w8 ⟨rfl, M8⟩; have M8 := Lib.hid M8; obtain ⟨e80, e81, e82, e83, e84, e85⟩ := M8.out.cells)))
                      | (go_at_call 19; refine (zc w8 F6 M8.out).mono ?_; (rintro e w9 ⟨F9, rfl, M9⟩; have M9 := Lib.hid M9; obtain ⟨e90, e91, e92, e93, e94, e95⟩ := M9.out.cells))
                      | (go_at_call 7; refine (zo w9 F9 M9.out).mono ?_; (rintro e w10 ⟨g10, rfl, M10⟩; have M10 := Lib.hid M10))
                      | (go_at_call 11; refine (zb w10 F9 g10 M10.out).mono ?_; (rintro e w' ⟨rfl, rfl⟩)))
                    go_roundw
                    case rel => exact ⟨k + 1, F9, U, g10, _, _, _, _, rfl, rfl, rfl, by go_num, by omega, by omega, M10.out.next HU.out.1 HU.out.2.1 HU.out.2.2.1, HU.out.2.2.2⟩
                    case measure => simp [vNu]; omega
                · rw [if_neg (by decide)] at zd
                  have hk5 : m.k ≠ 2 := Dy.bad_two hb
                  have t2 : (m.k == 2) = false := by simpa using hk5
                  have t3 : (m.k != 2) = true := by simp [hk5]
                  obtain ⟨r, hrr⟩ : ∃ r, r = s := ⟨_, rfl⟩
                  have D : DuSet s lo HM := ⟨su.low, sS, su.l64, h64⟩
                  subst hrr
                  have zc := fun u F (M : DkAt w b g r F T wr.heap.size m u) => zc u F r M
                  have zWM := fun u F (M : DkAt w b g r F T wr.heap.size m u) => zWM u F T r M
                  have zo := fun u F (M : DkAt w b g r F U wr.heap.size m u) => dk_open M HT.out i1.opens.1
                  rw [i1.opens.2] at zo
                  have zb := fun u F g (M : DkAt w b g r F U wr.heap.size m u) => dk_bits M
                  have HU : Hid (Dy.Inv U N' r ∧ U.ops ≤ 4 * (k + 1) + 4 ∧ N' ≤ k + 1 + 1 ∧ DuSet r lo HM) := Lib.hid ⟨i1, by have := HI.out; omega, by have := HI.out; omega, D⟩
                  have a3 := D.and i1.lt
                  have a4 := D.none_ i1.lt
                  unfold d10Cells at zWM
                  clear stn hv hr hc iv hs hN hO HI hk10 q1 q2 q3 i1 hk4 hk5 D su sW sS h64 hw64 hWM64 hWM hHM q3b ho1 hb
                  go_wp2_with (first
                    | ((with_reducible refine atWorld wr ?_); refine wpList_allocRow (w := wr) d10Ty rfl rfl ?_; (intro w1 b1 B1 s1; have b1 := Lib.hid b1))
                    | ((with_reducible refine atWorld w1 ?_); refine wpList_storeRow (w := w1) d10Ty rfl (.tmp 9) (.tmp 37) rfl wr.heap.size (d10Cells m) d10Z rfl rfl rfl rfl (d10_one m) b1.out ?_; (intro w2 b2 B2 s2 k2; have B12 : Below wr.heap.size wr w2 := B1.trans B2; have M2 := Lib.hid (X1.out w2 B12 b2); obtain ⟨e20, e21, e22, e23, e24, e25⟩ := M2.out.cells; clear b1 B1 s1 b2 B2 s2 k2))
                    | (go_at_call 16; refine (zf w2 M2.out).mono ?_; (rintro e w4 ⟨F4, rfl, M4⟩; have M4 := Lib.hid M4; obtain ⟨e40, e41, e42, e43, e44, e45⟩ := M4.out.cells))
                    | ((with_reducible refine atWorld w4 ?_); refine wpList_loadRow (w := w4) d10Ty rfl (.tmp 63) rfl wr.heap.size 0 (d10Cells m) rfl rfl (rangeOf M4.out.x) ?_)
                    | (go_at_call 18; refine (zd w4 F4 M4.out).mono ?_; (rintro e w6 ⟨F6, rfl, M6⟩; have M6 := Lib.hid M6; obtain ⟨e60, e61, e62, e63, e64, e65⟩ := M6.out.cells))
                    | ((with_reducible refine atWorld w6 ?_); refine wpList_loadRow (w := w6) d10Ty rfl (.tmp 67) rfl wr.heap.size 0 (d10Cells m) rfl rfl (rangeOf M6.out.x) ?_)
                    | (go_at_call 15; first
                      | ((with_reducible refine (zWM w6 F6 M6.out).mono ?_); (rintro e w7 ⟨rfl, M7⟩; have M7 := Lib.hid M7; obtain ⟨e70, e71, e72, e73, e74, e75⟩ := M7.out.cells)))
                    | (go_at_call 19; refine (zc w7 F6 M7.out).mono ?_; (rintro e w9 ⟨F9, rfl, M9⟩; have M9 := Lib.hid M9; obtain ⟨e90, e91, e92, e93, e94, e95⟩ := M9.out.cells))
                    | (go_at_call 7; refine (zo w9 F9 M9.out).mono ?_; (rintro e w10 ⟨g10, rfl, M10⟩; have M10 := Lib.hid M10))
                    | (go_at_call 11; refine (zb w10 F9 g10 M10.out).mono ?_; (rintro e w' ⟨rfl, rfl⟩)))
                  go_roundw
                  case rel => exact ⟨k + 1, F9, U, g10, _, _, _, _, rfl, rfl, rfl, by go_num, by omega, by omega, M10.out.next HU.out.1 HU.out.2.1 HU.out.2.2.1, HU.out.2.2.2⟩
                  case measure => simp [vNu]; omega
                · rw [if_neg (by decide)] at zd
                  obtain ⟨r, i1, hrw⟩ : ∃ r, Dy.Inv U N' r ∧ (r = Dy.want m.k m.n m.v s ∨ r = s) := i1.elim (fun x => ⟨_, x, .inl rfl⟩) fun x => ⟨_, x, .inr rfl⟩
                  have sR : Dy.Sub r HM := by rcases hrw with h | h <;> rw [h] <;> assumption
                  have zc := fun u F (M : DkAt w b g s F T wr.heap.size m u) => zc u F s M
                  have zWM := fun u F (M : DkAt w b g s F T wr.heap.size m u) => zWM u F T s M
                  have zo := fun u F (M : DkAt w b g s F U wr.heap.size m u) => dk_open M HT.out i1.opens.1
                  rw [i1.opens.2] at zo
                  have zb := fun u F g (M : DkAt w b g r F U wr.heap.size m u) => dk_bits M
                  by_cases hk5 : m.k = 2
                  · have t2 : (m.k == 2) = true := by simpa using hk5
                    have t3 : (m.k != 2) = false := by simp [hk5]
                    have a2 := mpCut lo m.v su.l64 hv
                    have D : DuSet r (Dy.cut lo m.v) HM := by
                      refine ⟨?_, sR, Dy.cut_lt _ su.l64, h64⟩
                      rcases hrw with h | h
                      · rw [h, hk5, Dy.want_two]; exact su.low.cut_cut hv
                      · rw [h]; exact (Dy.Sub.cut_self lo hv).trans su.low
                    have HU : Hid (Dy.Inv U N' r ∧ U.ops ≤ 4 * (k + 1) + 4 ∧ N' ≤ k + 1 + 1 ∧ DuSet r (Dy.cut lo m.v) HM) := Lib.hid ⟨i1, by have := HI.out; omega, by have := HI.out; omega, D⟩
                    have a3 := D.and i1.lt
                    have a4 := D.none_ i1.lt
                    obtain ⟨LN, hLN⟩ : ∃ LN, LN = (Dy.cut lo m.v) := ⟨_, rfl⟩
                    rw [← hLN] at a2 a3 HU
                    unfold d10Cells at zWM
                    clear stn hv hr hc iv hs hN hO HI hk10 q1 q2 q3 i1 hk4 hk5 D su sW sS h64 hw64 hWM64 hWM hHM q3b ho1 hrw sR hws hLN
                    go_wp2_with (first
                      | ((with_reducible refine atWorld wr ?_); refine wpList_allocRow (w := wr) d10Ty rfl rfl ?_; (intro w1 b1 B1 s1; have b1 := Lib.hid b1))
                      | ((with_reducible refine atWorld w1 ?_); refine wpList_storeRow (w := w1) d10Ty rfl (.tmp 9) (.tmp 37) rfl wr.heap.size (d10Cells m) d10Z rfl rfl rfl rfl (d10_one m) b1.out ?_; (intro w2 b2 B2 s2 k2; have B12 : Below wr.heap.size wr w2 := B1.trans B2; have M2 := Lib.hid (X1.out w2 B12 b2); obtain ⟨e20, e21, e22, e23, e24, e25⟩ := M2.out.cells; clear b1 B1 s1 b2 B2 s2 k2))
                      | (go_at_call 16; refine (zf w2 M2.out).mono ?_; (rintro e w4 ⟨F4, rfl, M4⟩; have M4 := Lib.hid M4; obtain ⟨e40, e41, e42, e43, e44, e45⟩ := M4.out.cells))
                      | ((with_reducible refine atWorld w4 ?_); refine wpList_loadRow (w := w4) d10Ty rfl (.tmp 63) rfl wr.heap.size 0 (d10Cells m) rfl rfl (rangeOf M4.out.x) ?_)
                      | (go_at_call 18; refine (zd w4 F4 M4.out).mono ?_; (rintro e w6 ⟨F6, rfl, M6⟩; have M6 := Lib.hid M6; obtain ⟨e60, e61, e62, e63, e64, e65⟩ := M6.out.cells))
                      | ((with_reducible refine atWorld w6 ?_); refine wpList_loadRow (w := w6) d10Ty rfl (.tmp 67) rfl wr.heap.size 0 (d10Cells m) rfl rfl (rangeOf M6.out.x) ?_)
                      | (go_at_call 15; first
                        | ((with_reducible refine (zWM w6 F6 M6.out).mono ?_); (rintro e w7 ⟨rfl, M7⟩; have M7 := Lib.hid M7; obtain ⟨e70, e71, e72, e73, e74, e75⟩ := M7.out.cells)))
                      | (go_at_call 19; refine (zc w7 F6 M7.out).mono ?_; (rintro e w9 ⟨F9, rfl, M9⟩; have M9 := Lib.hid M9; obtain ⟨e90, e91, e92, e93, e94, e95⟩ := M9.out.cells))
                      | (go_at_call 7; refine (zo w9 F9 M9.out).mono ?_; (rintro e w10 ⟨g10, rfl, M10⟩; have M10 := Lib.hid M10))
                      | (go_at_call 11; refine (zb w10 F9 g10 M10.out).mono ?_; (rintro e w' ⟨rfl, rfl⟩)))
                    go_roundw
                    case rel => exact ⟨k + 1, F9, U, g10, _, _, _, _, rfl, rfl, rfl, by go_num, by omega, by omega, M10.out.next HU.out.1 HU.out.2.1 HU.out.2.2.1, HU.out.2.2.2⟩
                    case measure => simp [vNu]; omega
                  · have t2 : (m.k == 2) = false := by simpa using hk5
                    have t3 : (m.k != 2) = true := by simp [hk5]
                    have D : DuSet r lo HM := by
                      refine ⟨?_, sR, su.l64, h64⟩
                      rcases hrw with h | h
                      · rw [h]; exact su.low.trans (Dy.Sub.up hk5 hk4 m.n)
                      · rw [h]; exact su.low
                    have HU : Hid (Dy.Inv U N' r ∧ U.ops ≤ 4 * (k + 1) + 4 ∧ N' ≤ k + 1 + 1 ∧ DuSet r lo HM) := Lib.hid ⟨i1, by have := HI.out; omega, by have := HI.out; omega, D⟩
                    have a3 := D.and i1.lt
                    have a4 := D.none_ i1.lt
                    unfold d10Cells at zWM
                    clear stn hv hr hc iv hs hN hO HI hk10 q1 q2 q3 i1 hk4 hk5 D su sW sS h64 hw64 hWM64 hWM hHM q3b ho1 hrw sR hws
                    go_wp2_with (first
                      | ((with_reducible refine atWorld wr ?_); refine wpList_allocRow (w := wr) d10Ty rfl rfl ?_; (intro w1 b1 B1 s1; have b1 := Lib.hid b1))
                      | ((with_reducible refine atWorld w1 ?_); refine wpList_storeRow (w := w1) d10Ty rfl (.tmp 9) (.tmp 37) rfl wr.heap.size (d10Cells m) d10Z rfl rfl rfl rfl (d10_one m) b1.out ?_; (intro w2 b2 B2 s2 k2; have B12 : Below wr.heap.size wr w2 := B1.trans B2; have M2 := Lib.hid (X1.out w2 B12 b2); obtain ⟨e20, e21, e22, e23, e24, e25⟩ := M2.out.cells; clear b1 B1 s1 b2 B2 s2 k2))
                      | (go_at_call 16; refine (zf w2 M2.out).mono ?_; (rintro e w4 ⟨F4, rfl, M4⟩; have M4 := Lib.hid M4; obtain ⟨e40, e41, e42, e43, e44, e45⟩ := M4.out.cells))
                      | ((with_reducible refine atWorld w4 ?_); refine wpList_loadRow (w := w4) d10Ty rfl (.tmp 63) rfl wr.heap.size 0 (d10Cells m) rfl rfl (rangeOf M4.out.x) ?_)
                      | (go_at_call 18; refine (zd w4 F4 M4.out).mono ?_; (rintro e w6 ⟨F6, rfl, M6⟩; have M6 := Lib.hid M6; obtain ⟨e60, e61, e62, e63, e64, e65⟩ := M6.out.cells))
                      | ((with_reducible refine atWorld w6 ?_); refine wpList_loadRow (w := w6) d10Ty rfl (.tmp 67) rfl wr.heap.size 0 (d10Cells m) rfl rfl (rangeOf M6.out.x) ?_)
                      | (go_at_call 15; first
                        | ((with_reducible refine (zWM w6 F6 M6.out).mono ?_); (rintro e w7 ⟨rfl, M7⟩; have M7 := Lib.hid M7; obtain ⟨e70, e71, e72, e73, e74, e75⟩ := M7.out.cells)))
                      | (go_at_call 19; refine (zc w7 F6 M7.out).mono ?_; (rintro e w9 ⟨F9, rfl, M9⟩; have M9 := Lib.hid M9; obtain ⟨e90, e91, e92, e93, e94, e95⟩ := M9.out.cells))
                      | (go_at_call 7; refine (zo w9 F9 M9.out).mono ?_; (rintro e w10 ⟨g10, rfl, M10⟩; have M10 := Lib.hid M10))
                      | (go_at_call 11; refine (zb w10 F9 g10 M10.out).mono ?_; (rintro e w' ⟨rfl, rfl⟩)))
                    go_roundw
                    case rel => exact ⟨k + 1, F9, U, g10, _, _, _, _, rfl, rfl, rfl, by go_num, by omega, by omega, M10.out.next HU.out.1 HU.out.2.1 HU.out.2.2.1, HU.out.2.2.2⟩
                    case measure => simp [vNu]; omega
      · obtain rfl : k = 20 := by omega
        have hB := Lib.hid inv.below
        clear inv su
        go_wp2
        go_ret
        exact ⟨rfl, hB.out⟩
    · obtain rfl : k = n := by omega
      have hB := Lib.hid inv.below
      clear inv su
      go_wp2
      go_ret
      exact ⟨rfl, hB.out⟩
end Go.Proofs.YtcahpodmcklnbaaDoor
