/-
  The walk of DirtyKeeps. Conditions: the table of crc lies as the program's text lays it; what came in can be read.
-/
import Derived.Test.YtcahpodmcklnbaaDoorDyRound
namespace Go.Proofs.YtcahpodmcklnbaaDoor
open Go.RowKit Fix

def vNk : Value → Nat
  | .int _ q => q.toNat
  | _ => 0
theorem stepS_of {S T : DS} {p k n : Int} {v s : Nat} {e : Int} (h : Dy.step S p k n v s = (T, e)) : Dy.stepS S p k n v s = if e = 0 then Dy.want k n v s else s := by unfold Dy.stepS; rw [h]
set_option maxRecDepth 100000 in
set_option maxHeartbeats 16000000 in
theorem keeps_any (A0 : Option Addr) (l : List D10M) (c0 : Nat) (w : World) (ht : TabAt w) (hA : D10sAt w w.heap.size A0 l) (hms : l.length ≤ 9223372036854775807) :
    Calls Tryd.prog 4 #[.slice A0 l.length c0] w fun e w' => e = .returned (.bool true) ∧ Below w.heap.size w w' := by
  have zs := fun w t => start_made w t
  have zw := fun w t => awake_any w t
  obtain ⟨n, hn⟩ : ∃ n, n = l.length := ⟨_, rfl⟩
  rw [← hn] at hms ⊢
  have HA := Lib.hid (And.intro hA hn)
  have HT := Lib.hid ht
  clear hA hn ht
  go_enter Tryd.func4, Tryd.ntmps4
  go_wp2_with (first
    | (go_at_call 13; refine (zw w HT.out).mono ?_; (rintro e w1 ⟨rfl, B1⟩; have t1 := HT.out.below B1 (Nat.le_refl _)))
    | (go_at_call 14; refine (zs w1 t1).mono ?_; (rintro e w2 ⟨b, F0, S0, g0, rfl, D0, i0, o0, B2⟩)))
  have I0 : DkInv w w2 b 0 F0 S0 g0 1 0 := ⟨⟨D0.d, D0.m, D0.ap, fun k hk => Nat.le_trans B1.size (D0.far k hk), Nat.le_trans B1.size D0.gn⟩, step_trans B1 B2, i0, by omega, by omega⟩
  replace I0 := Lib.hid I0
  clear D0 i0 o0 B1 B2 t1 zs zw
  go_loopw [5, 6, 7] (fun pm nw ix wr => ∃ k F S g N s, pm = .pointer (some ⟨g, 0, none⟩) ∧ nw = .int .u64 ((s : Nat) : Int) ∧ ix = .int .i64 ((k : Nat) : Int) ∧ k ≤ n ∧ k ≤ 20 ∧ DkInv w wr b k F S g N s) (fun _ _ ix _ => 21 - vNk ix)
  case atStart => exact ⟨0, F0, S0, g0, 1, 0, rfl, rfl, rfl, Nat.zero_le _, Nat.zero_le _, I0.out⟩
  case round =>
    obtain ⟨k, F, S, g, N, s, rfl, rfl, rfl, hk, hk2, inv⟩ := hrel
    clear I0
    by_cases hlt : k < n
    · by_cases h20 : k < 20
      · obtain ⟨m, hm⟩ : ∃ m, l[k]? = some m := ⟨_, List.getElem?_eq_getElem (by rw [← HA.out.2]; exact hlt)⟩
        have hmem := List.mem_of_getElem? hm
        obtain ⟨ad, rfl, y0, y1, y2, y3, y4, y5⟩ := d10_at HA.out.1 inv.below hm
        have hlt' : (k : Int) < (n : Int) := by omega
        have h20' : (k : Int) < 20 := by omega
        have hw1 : IntKind.i64.wrap ((k : Int) + 1) = (k : Int) + 1 := IntWalk.i64_in _ (by omega)
        have X1 := Lib.hid (fun (u : World) (B : Below wr.heap.size wr u) (x : BlkR 54 u wr.heap.size (d10Cells m)) => inv.start B x)
        have stn := HA.out.1.n m hmem
        have hv := HA.out.1.v m hmem
        have hr := HA.out.1.k m hmem
        have hc := HA.out.1.c m hmem
        have iv := inv.inv
        have hs := iv.lt
        have hN : N < 1000 := by have := inv.few; omega
        have hO : S.ops ≤ 900000 := by have := inv.ops; omega
        have HI := Lib.hid (And.intro inv.ops inv.few)
        have BW := Lib.hid inv.below
        clear inv hm hmem
        by_cases hk10 : 10 < m.keeps.length
        · have i2 : (10 : Int) < (m.keeps.length : Int) := by omega
          clear stn hv hr hc iv hs hN hO HI hk10
          go_wp2_with (first
            | ((with_reducible refine atWorld wr ?_); refine wpList_allocRow (w := wr) d10Ty rfl rfl ?_; (intro w1 b1 B1 s1; have b1 := Lib.hid b1))
            | ((with_reducible refine atWorld w1 ?_); refine wpList_storeRow (w := w1) d10Ty rfl (.tmp 8) (.tmp 38) rfl wr.heap.size (d10Cells m) d10Z rfl rfl rfl rfl (d10_one m) b1.out ?_; (intro w2 b2 B2 s2 k2; have B12 : Below wr.heap.size wr w2 := B1.trans B2; have M2 := Lib.hid (X1.out w2 B12 b2); obtain ⟨e20, e21, e22, e23, e24, e25⟩ := M2.out.cells; clear b1 B1 s1 b2 B2 s2 k2)))
          go_ret
          exact ⟨rfl, BW.out.trans (B12.mono BW.out.size)⟩
        · have i2 : ¬ (10 : Int) < (m.keeps.length : Int) := by omega
          by_cases hk0 : m.k < 0
          · clear stn hv hr hc iv hs hN hO HI hk10
            go_wp2_with (first
              | ((with_reducible refine atWorld wr ?_); refine wpList_allocRow (w := wr) d10Ty rfl rfl ?_; (intro w1 b1 B1 s1; have b1 := Lib.hid b1))
              | ((with_reducible refine atWorld w1 ?_); refine wpList_storeRow (w := w1) d10Ty rfl (.tmp 8) (.tmp 38) rfl wr.heap.size (d10Cells m) d10Z rfl rfl rfl rfl (d10_one m) b1.out ?_; (intro w2 b2 B2 s2 k2; have B12 : Below wr.heap.size wr w2 := B1.trans B2; have M2 := Lib.hid (X1.out w2 B12 b2); obtain ⟨e20, e21, e22, e23, e24, e25⟩ := M2.out.cells; clear b1 B1 s1 b2 B2 s2 k2)))
            go_ret
            exact ⟨rfl, BW.out.trans (B12.mono BW.out.size)⟩
          · by_cases hk3 : 2 < m.k
            · clear stn hv hr hc iv hs hN hO HI hk10
              go_wp2_with (first
                | ((with_reducible refine atWorld wr ?_); refine wpList_allocRow (w := wr) d10Ty rfl rfl ?_; (intro w1 b1 B1 s1; have b1 := Lib.hid b1))
                | ((with_reducible refine atWorld w1 ?_); refine wpList_storeRow (w := w1) d10Ty rfl (.tmp 8) (.tmp 38) rfl wr.heap.size (d10Cells m) d10Z rfl rfl rfl rfl (d10_one m) b1.out ?_; (intro w2 b2 B2 s2 k2; have B12 : Below wr.heap.size wr w2 := B1.trans B2; have M2 := Lib.hid (X1.out w2 B12 b2); obtain ⟨e20, e21, e22, e23, e24, e25⟩ := M2.out.cells; clear b1 B1 s1 b2 B2 s2 k2)))
              go_ret
              exact ⟨rfl, BW.out.trans (B12.mono BW.out.size)⟩
            · have hk4 : m.k = 0 ∨ m.k = 1 ∨ m.k = 2 := by omega
              have zW := fun u (M : DkAt w b g s F S wr.heap.size m u) => dk_want M s hv hs
              obtain ⟨o, ho⟩ : ∃ o : Nat, o = S.ops := ⟨_, rfl⟩
              by_cases hst : m.stop < 0
              · have hst2 : ¬ (0 : Int) ≤ m.stop := by omega
                obtain ⟨T, e, N', q1, q2, q3, q4⟩ := iv.calm hN m.k m.n hv
                have zq1 := fun u F (M : DkAt w b g s F S wr.heap.size m u) => dk_ops M (by omega)
                have zd := fun u F (M : DkAt w b g s F S wr.heap.size m u) => dk_does M hk4 hv HT.out (by omega)
                rw [stepS_of q1, q1] at zd
                rw [← ho] at zq1
                rcases q4 with ⟨rfl, i1, q5⟩ | ⟨rfl, hb, rfl, i1⟩
                · rw [if_pos rfl] at zd
                  have HU : Hid (Dy.Inv T N' (Dy.want m.k m.n m.v s) ∧ T.ops ≤ 4 * (k + 1) + 4 ∧ N' ≤ k + 1 + 1) := Lib.hid ⟨i1, by have := HI.out; omega, by have := HI.out; omega⟩
                  by_cases hws : Dy.want m.k m.n m.v s = s
                  · rw [hws] at zW zd HU
                    have zq2 := fun u F (M : DkAt w b g s F T wr.heap.size m u) => dk_ops M (by omega)
                    rw [q5 hws, ← ho] at zq2
                    have zb := fun u F (M : DkAt w b g s F T wr.heap.size m u) => dk_bits M
                    clear stn hv hr hc iv hs hN hO HI hk10 q1 q2 q3 q5 i1 hws ho hk4
                    go_wp2_with (first
                      | ((with_reducible refine atWorld wr ?_); refine wpList_allocRow (w := wr) d10Ty rfl rfl ?_; (intro w1 b1 B1 s1; have b1 := Lib.hid b1))
                      | ((with_reducible refine atWorld w1 ?_); refine wpList_storeRow (w := w1) d10Ty rfl (.tmp 8) (.tmp 38) rfl wr.heap.size (d10Cells m) d10Z rfl rfl rfl rfl (d10_one m) b1.out ?_; (intro w2 b2 B2 s2 k2; have B12 : Below wr.heap.size wr w2 := B1.trans B2; have M2 := Lib.hid (X1.out w2 B12 b2); obtain ⟨e20, e21, e22, e23, e24, e25⟩ := M2.out.cells; clear b1 B1 s1 b2 B2 s2 k2))
                      | ((with_reducible refine atWorld w2 ?_); refine wpList_loadRow (w := w2) d10Ty rfl (.tmp 54) rfl wr.heap.size 0 (d10Cells m) rfl rfl (rangeOf M2.out.x) ?_)
                      | (go_at_call 15; refine (zW w2 M2.out).mono ?_; (rintro e w3 ⟨rfl, M3⟩; have M3 := Lib.hid M3; obtain ⟨e30, e31, e32, e33, e34, e35⟩ := M3.out.cells))
                      | (go_at_call 17; first
                        | ((with_reducible refine (zq1 w3 F M3.out).mono ?_); (rintro e w5 ⟨rfl, M5⟩; have M5 := Lib.hid M5; obtain ⟨e50, e51, e52, e53, e54, e55⟩ := M5.out.cells))
                        | ((with_reducible refine (zq2 w6 F6 M6.out).mono ?_); (rintro e w7 ⟨rfl, M7⟩; have M7 := Lib.hid M7; obtain ⟨e70, e71, e72, e73, e74, e75⟩ := M7.out.cells)))
                      | ((with_reducible refine atWorld w5 ?_); refine wpList_loadRow (w := w5) d10Ty rfl (.tmp 69) rfl wr.heap.size 0 (d10Cells m) rfl rfl (rangeOf M5.out.x) ?_)
                      | (go_at_call 18; refine (zd w5 F M5.out).mono ?_; (rintro e w6 ⟨F6, rfl, M6⟩; have M6 := Lib.hid M6; obtain ⟨e60, e61, e62, e63, e64, e65⟩ := M6.out.cells))
                      | (go_at_call 11; first
                        | ((with_reducible refine (zb w7 F6 M7.out).mono ?_); (rintro e w' ⟨rfl, rfl⟩))))
                    go_roundw
                    case rel => exact ⟨k + 1, F6, T, g, _, _, rfl, rfl, by go_num, by omega, by omega, M7.out.next HU.out.1 HU.out.2.1 HU.out.2.2⟩
                    case measure => simp [vNk]; omega
                  · have zb := fun u F (M : DkAt w b g (Dy.want m.k m.n m.v s) F T wr.heap.size m u) => dk_bits M
                    obtain ⟨W, hW⟩ : ∃ W, W = Dy.want m.k m.n m.v s := ⟨_, rfl⟩
                    rw [← hW] at zW zd zb HU hws
                    have n1 : ((W : Int) == (s : Int)) = false := by simp; omega
                    clear stn hv hr hc iv hs hN hO HI hk10 q1 q2 q3 q5 i1 hws ho hk4 hW
                    go_wp2_with (first
                      | ((with_reducible refine atWorld wr ?_); refine wpList_allocRow (w := wr) d10Ty rfl rfl ?_; (intro w1 b1 B1 s1; have b1 := Lib.hid b1))
                      | ((with_reducible refine atWorld w1 ?_); refine wpList_storeRow (w := w1) d10Ty rfl (.tmp 8) (.tmp 38) rfl wr.heap.size (d10Cells m) d10Z rfl rfl rfl rfl (d10_one m) b1.out ?_; (intro w2 b2 B2 s2 k2; have B12 : Below wr.heap.size wr w2 := B1.trans B2; have M2 := Lib.hid (X1.out w2 B12 b2); obtain ⟨e20, e21, e22, e23, e24, e25⟩ := M2.out.cells; clear b1 B1 s1 b2 B2 s2 k2))
                      | ((with_reducible refine atWorld w2 ?_); refine wpList_loadRow (w := w2) d10Ty rfl (.tmp 54) rfl wr.heap.size 0 (d10Cells m) rfl rfl (rangeOf M2.out.x) ?_)
                      | (go_at_call 15; refine (zW w2 M2.out).mono ?_; (rintro e w3 ⟨rfl, M3⟩; have M3 := Lib.hid M3; obtain ⟨e30, e31, e32, e33, e34, e35⟩ := M3.out.cells))
                      | (go_at_call 17; first
                        | ((with_reducible refine (zq1 w3 F M3.out).mono ?_); (rintro e w5 ⟨rfl, M5⟩; have M5 := Lib.hid M5; obtain ⟨e50, e51, e52, e53, e54, e55⟩ := M5.out.cells)))
                      | ((with_reducible refine atWorld w5 ?_); refine wpList_loadRow (w := w5) d10Ty rfl (.tmp 69) rfl wr.heap.size 0 (d10Cells m) rfl rfl (rangeOf M5.out.x) ?_)
                      | (go_at_call 18; refine (zd w5 F M5.out).mono ?_; (rintro e w6 ⟨F6, rfl, M6⟩; have M6 := Lib.hid M6; obtain ⟨e60, e61, e62, e63, e64, e65⟩ := M6.out.cells))
                      | (go_at_call 11; first
                        | ((with_reducible refine (zb w6 F6 M6.out).mono ?_); (rintro e w' ⟨rfl, rfl⟩))))
                    go_roundw
                    case rel => exact ⟨k + 1, F6, T, g, _, _, rfl, rfl, by go_num, by omega, by omega, M6.out.next HU.out.1 HU.out.2.1 HU.out.2.2⟩
                    case measure => simp [vNk]; omega
                · rw [if_neg (by decide)] at zd
                  have hws := Dy.bad_want hb m.v s
                  rw [hws] at zW
                  have HU : Hid (Dy.Inv T N' s ∧ T.ops ≤ 4 * (k + 1) + 4 ∧ N' ≤ k + 1 + 1) := Lib.hid ⟨i1, by have := HI.out; omega, by have := HI.out; omega⟩
                  have zq2 := fun u F (M : DkAt w b g s F T wr.heap.size m u) => dk_ops M (by omega)
                  rw [← ho] at zq2
                  have zb := fun u F (M : DkAt w b g s F T wr.heap.size m u) => dk_bits M
                  clear stn hv hr hc iv hs hN hO HI hk10 q1 q2 q3 i1 hws hb ho hk4
                  go_wp2_with (first
                    | ((with_reducible refine atWorld wr ?_); refine wpList_allocRow (w := wr) d10Ty rfl rfl ?_; (intro w1 b1 B1 s1; have b1 := Lib.hid b1))
                    | ((with_reducible refine atWorld w1 ?_); refine wpList_storeRow (w := w1) d10Ty rfl (.tmp 8) (.tmp 38) rfl wr.heap.size (d10Cells m) d10Z rfl rfl rfl rfl (d10_one m) b1.out ?_; (intro w2 b2 B2 s2 k2; have B12 : Below wr.heap.size wr w2 := B1.trans B2; have M2 := Lib.hid (X1.out w2 B12 b2); obtain ⟨e20, e21, e22, e23, e24, e25⟩ := M2.out.cells; clear b1 B1 s1 b2 B2 s2 k2))
                    | ((with_reducible refine atWorld w2 ?_); refine wpList_loadRow (w := w2) d10Ty rfl (.tmp 54) rfl wr.heap.size 0 (d10Cells m) rfl rfl (rangeOf M2.out.x) ?_)
                    | (go_at_call 15; refine (zW w2 M2.out).mono ?_; (rintro e w3 ⟨rfl, M3⟩; have M3 := Lib.hid M3; obtain ⟨e30, e31, e32, e33, e34, e35⟩ := M3.out.cells))
                    | (go_at_call 17; first
                      | ((with_reducible refine (zq1 w3 F M3.out).mono ?_); (rintro e w5 ⟨rfl, M5⟩; have M5 := Lib.hid M5; obtain ⟨e50, e51, e52, e53, e54, e55⟩ := M5.out.cells))
                      | ((with_reducible refine (zq2 w6 F6 M6.out).mono ?_); (rintro e w7 ⟨rfl, M7⟩; have M7 := Lib.hid M7; obtain ⟨e70, e71, e72, e73, e74, e75⟩ := M7.out.cells)))
                    | ((with_reducible refine atWorld w5 ?_); refine wpList_loadRow (w := w5) d10Ty rfl (.tmp 69) rfl wr.heap.size 0 (d10Cells m) rfl rfl (rangeOf M5.out.x) ?_)
                    | (go_at_call 18; refine (zd w5 F M5.out).mono ?_; (rintro e w6 ⟨F6, rfl, M6⟩; have M6 := Lib.hid M6; obtain ⟨e60, e61, e62, e63, e64, e65⟩ := M6.out.cells))
                    | (go_at_call 11; first
                      | ((with_reducible refine (zb w7 F6 M7.out).mono ?_); (rintro e w' ⟨rfl, rfl⟩))))
                  go_roundw
                  case rel => exact ⟨k + 1, F6, T, g, _, _, rfl, rfl, by go_num, by omega, by omega, M7.out.next HU.out.1 HU.out.2.1 HU.out.2.2⟩
                  case measure => simp [vNk]; omega
              · have hst2 : (0 : Int) ≤ m.stop := by omega
                obtain ⟨T, e, N', q1, q2, q3, q3b, q5, q4⟩ := iv.stop hN m.k m.n hv m.stop.toNat m.keeps m.tear
                have zf := fun u (M : DkAt w b g s F S wr.heap.size m u) => dk_fuse M m.stop stn.1 stn.2
                rw [show S.fuse m.stop = ({ S with left := some m.stop.toNat }, 0) by unfold DS.fuse; rw [iv.q.out]; simp [hst]] at zf
                obtain ⟨S1, hS1⟩ : ∃ S1 : DS, S1 = { S with left := some m.stop.toNat } := ⟨_, rfl⟩
                have ho1 : S1.ops = S.ops := by rw [hS1]
                rw [← hS1] at zf q1
                have zq1 := fun u F (M : DkAt w b g s F S1 wr.heap.size m u) => dk_ops M (by omega)
                have zd := fun u F (M : DkAt w b g s F S1 wr.heap.size m u) => dk_does M hk4 hv HT.out (by omega)
                rw [stepS_of q1, q1] at zd
                rw [ho1, ← ho] at zq1
                obtain ⟨U, hU⟩ : ∃ U, U = T.crash m.keeps m.tear := ⟨_, rfl⟩
                have zc := fun u F sA (M : DkAt w b g sA F T wr.heap.size m u) => dk_crash M m.keeps m.AK m.keeps.length m.ck m.tear hr rfl hc
                rw [← hU] at zc q4 q3b
                clear hU hS1
                rcases q4 with ⟨rfl, i1⟩ | ⟨rfl, hb, i1⟩ | ⟨rfl, hws, i1⟩
                · rw [if_pos rfl] at zd
                  by_cases hws : Dy.want m.k m.n m.v s = s
                  · rw [hws] at zW zd i1
                    have HU : Hid (Dy.Inv U N' s ∧ U.ops ≤ 4 * (k + 1) + 4 ∧ N' ≤ k + 1 + 1) := Lib.hid ⟨i1, by have := HI.out; omega, by have := HI.out; omega⟩
                    have zc := fun u F (M : DkAt w b g s F T wr.heap.size m u) => zc u F s M
                    have zo := fun u F (M : DkAt w b g s F U wr.heap.size m u) => dk_open M HT.out i1.opens.1
                    rw [i1.opens.2] at zo
                    have zb := fun u F (M : DkAt w b g s F T wr.heap.size m u) => dk_bits M
                    have zb2 := fun u F g (M : DkAt w b g s F U wr.heap.size m u) => dk_bits M
                    have zq2 := fun u F (M : DkAt w b g s F T wr.heap.size m u) => dk_ops M (by omega)
                    rw [q5 hws, ← ho] at zq2
                    clear stn hv hr hc iv hs hN hO HI hk10 q1 q2 q3 q3b q5 i1 hws ho ho1 hk4
                    go_wp2_with (first
                      | ((with_reducible refine atWorld wr ?_); refine wpList_allocRow (w := wr) d10Ty rfl rfl ?_; (intro w1 b1 B1 s1; have b1 := Lib.hid b1))
                      | ((with_reducible refine atWorld w1 ?_); refine wpList_storeRow (w := w1) d10Ty rfl (.tmp 8) (.tmp 38) rfl wr.heap.size (d10Cells m) d10Z rfl rfl rfl rfl (d10_one m) b1.out ?_; (intro w2 b2 B2 s2 k2; have B12 : Below wr.heap.size wr w2 := B1.trans B2; have M2 := Lib.hid (X1.out w2 B12 b2); obtain ⟨e20, e21, e22, e23, e24, e25⟩ := M2.out.cells; clear b1 B1 s1 b2 B2 s2 k2))
                      | ((with_reducible refine atWorld w2 ?_); refine wpList_loadRow (w := w2) d10Ty rfl (.tmp 54) rfl wr.heap.size 0 (d10Cells m) rfl rfl (rangeOf M2.out.x) ?_)
                      | (go_at_call 15; refine (zW w2 M2.out).mono ?_; (rintro e w3 ⟨rfl, M3⟩; have M3 := Lib.hid M3; obtain ⟨e30, e31, e32, e33, e34, e35⟩ := M3.out.cells))
                      | (go_at_call 16; refine (zf w3 M3.out).mono ?_; (rintro e w4 ⟨F4, rfl, M4⟩; have M4 := Lib.hid M4; obtain ⟨e40, e41, e42, e43, e44, e45⟩ := M4.out.cells))
                      | (go_at_call 17; first
                        | ((with_reducible refine (zq1 w4 F4 M4.out).mono ?_); (rintro e w5 ⟨rfl, M5⟩; have M5 := Lib.hid M5; obtain ⟨e50, e51, e52, e53, e54, e55⟩ := M5.out.cells))
                        | ((with_reducible refine (zq2 w6 F6 M6.out).mono ?_); (rintro e w7 ⟨rfl, M7⟩; have M7 := Lib.hid M7; obtain ⟨e70, e71, e72, e73, e74, e75⟩ := M7.out.cells)))
                      | ((with_reducible refine atWorld w5 ?_); refine wpList_loadRow (w := w5) d10Ty rfl (.tmp 69) rfl wr.heap.size 0 (d10Cells m) rfl rfl (rangeOf M5.out.x) ?_)
                      | (go_at_call 18; refine (zd w5 F4 M5.out).mono ?_; (rintro e w6 ⟨F6, rfl, M6⟩; have M6 := Lib.hid M6; obtain ⟨e60, e61, e62, e63, e64, e65⟩ := M6.out.cells))
                      | (go_at_call 19; refine (zc w7 F6 M7.out).mono ?_; (rintro e w8 ⟨F8, rfl, M8⟩; have M8 := Lib.hid M8; obtain ⟨e80, e81, e82, e83, e84, e85⟩ := M8.out.cells))
                      | (go_at_call 7; refine (zo w8 F8 M8.out).mono ?_; (rintro e w9 ⟨g9, rfl, M9⟩; have M9 := Lib.hid M9; obtain ⟨e90, e91, e92, e93, e94, e95⟩ := M9.out.cells))
                      | (go_at_call 11; first
                        | ((with_reducible refine (zb w7 F6 M7.out).mono ?_); (rintro e w' ⟨rfl, rfl⟩))
                        | ((with_reducible refine (zb2 w9 F8 g9 M9.out).mono ?_); (rintro e w' ⟨rfl, rfl⟩))))
                    go_roundw
                    case rel => exact ⟨k + 1, F8, U, g9, _, _, rfl, rfl, by go_num, by omega, by omega, M9.out.next HU.out.1 HU.out.2.1 HU.out.2.2⟩
                    case measure => simp [vNk]; omega
                  · obtain ⟨W, hW⟩ : ∃ W, W = Dy.want m.k m.n m.v s := ⟨_, rfl⟩
                    rw [← hW] at zW zd i1 hws
                    have HU : Hid (Dy.Inv U N' W ∧ U.ops ≤ 4 * (k + 1) + 4 ∧ N' ≤ k + 1 + 1) := Lib.hid ⟨i1, by have := HI.out; omega, by have := HI.out; omega⟩
                    have zc := fun u F (M : DkAt w b g W F T wr.heap.size m u) => zc u F W M
                    have zo := fun u F (M : DkAt w b g W F U wr.heap.size m u) => dk_open M HT.out i1.opens.1
                    rw [i1.opens.2] at zo
                    have zb := fun u F (M : DkAt w b g W F T wr.heap.size m u) => dk_bits M
                    have zb2 := fun u F g (M : DkAt w b g W F U wr.heap.size m u) => dk_bits M
                    have n1 : ((W : Int) == (s : Int)) = false := by simp; omega
                    clear stn hv hr hc iv hs hN hO HI hk10 q1 q2 q3 q3b q5 i1 hws ho ho1 hk4 hW
                    go_wp2_with (first
                      | ((with_reducible refine atWorld wr ?_); refine wpList_allocRow (w := wr) d10Ty rfl rfl ?_; (intro w1 b1 B1 s1; have b1 := Lib.hid b1))
                      | ((with_reducible refine atWorld w1 ?_); refine wpList_storeRow (w := w1) d10Ty rfl (.tmp 8) (.tmp 38) rfl wr.heap.size (d10Cells m) d10Z rfl rfl rfl rfl (d10_one m) b1.out ?_; (intro w2 b2 B2 s2 k2; have B12 : Below wr.heap.size wr w2 := B1.trans B2; have M2 := Lib.hid (X1.out w2 B12 b2); obtain ⟨e20, e21, e22, e23, e24, e25⟩ := M2.out.cells; clear b1 B1 s1 b2 B2 s2 k2))
                      | ((with_reducible refine atWorld w2 ?_); refine wpList_loadRow (w := w2) d10Ty rfl (.tmp 54) rfl wr.heap.size 0 (d10Cells m) rfl rfl (rangeOf M2.out.x) ?_)
                      | (go_at_call 15; refine (zW w2 M2.out).mono ?_; (rintro e w3 ⟨rfl, M3⟩; have M3 := Lib.hid M3; obtain ⟨e30, e31, e32, e33, e34, e35⟩ := M3.out.cells))
                      | (go_at_call 16; refine (zf w3 M3.out).mono ?_; (rintro e w4 ⟨F4, rfl, M4⟩; have M4 := Lib.hid M4; obtain ⟨e40, e41, e42, e43, e44, e45⟩ := M4.out.cells))
                      | (go_at_call 17; first
                        | ((with_reducible refine (zq1 w4 F4 M4.out).mono ?_); (rintro e w5 ⟨rfl, M5⟩; have M5 := Lib.hid M5; obtain ⟨e50, e51, e52, e53, e54, e55⟩ := M5.out.cells)))
                      | ((with_reducible refine atWorld w5 ?_); refine wpList_loadRow (w := w5) d10Ty rfl (.tmp 69) rfl wr.heap.size 0 (d10Cells m) rfl rfl (rangeOf M5.out.x) ?_)
                      | (go_at_call 18; refine (zd w5 F4 M5.out).mono ?_; (rintro e w6 ⟨F6, rfl, M6⟩; have M6 := Lib.hid M6; obtain ⟨e60, e61, e62, e63, e64, e65⟩ := M6.out.cells))
                      | (go_at_call 19; refine (zc w6 F6 M6.out).mono ?_; (rintro e w8 ⟨F8, rfl, M8⟩; have M8 := Lib.hid M8; obtain ⟨e80, e81, e82, e83, e84, e85⟩ := M8.out.cells))
                      | (go_at_call 7; refine (zo w8 F8 M8.out).mono ?_; (rintro e w9 ⟨g9, rfl, M9⟩; have M9 := Lib.hid M9; obtain ⟨e90, e91, e92, e93, e94, e95⟩ := M9.out.cells))
                      | (go_at_call 11; first
                        | ((with_reducible refine (zb w6 F6 M6.out).mono ?_); (rintro e w' ⟨rfl, rfl⟩))
                        | ((with_reducible refine (zb2 w9 F8 g9 M9.out).mono ?_); (rintro e w' ⟨rfl, rfl⟩))))
                    go_roundw
                    case rel => exact ⟨k + 1, F8, U, g9, _, _, rfl, rfl, by go_num, by omega, by omega, M9.out.next HU.out.1 HU.out.2.1 HU.out.2.2⟩
                    case measure => simp [vNk]; omega
                · rw [if_neg (by decide)] at zd
                  have hws := Dy.bad_want hb m.v s
                  rw [hws] at zW
                  have HU : Hid (Dy.Inv U N' s ∧ U.ops ≤ 4 * (k + 1) + 4 ∧ N' ≤ k + 1 + 1) := Lib.hid ⟨i1, by have := HI.out; omega, by have := HI.out; omega⟩
                  have zc := fun u F (M : DkAt w b g s F T wr.heap.size m u) => zc u F s M
                  have zo := fun u F (M : DkAt w b g s F U wr.heap.size m u) => dk_open M HT.out i1.opens.1
                  rw [i1.opens.2] at zo
                  have zb := fun u F (M : DkAt w b g s F T wr.heap.size m u) => dk_bits M
                  have zb2 := fun u F g (M : DkAt w b g s F U wr.heap.size m u) => dk_bits M
                  have zq2 := fun u F (M : DkAt w b g s F T wr.heap.size m u) => dk_ops M (by omega)
                  rw [q5 hws, ← ho] at zq2
                  clear stn hv hr hc iv hs hN hO HI hk10 q1 q2 q3 q3b q5 i1 hws ho ho1 hk4 hb
                  go_wp2_with (first
                    | ((with_reducible refine atWorld wr ?_); refine wpList_allocRow (w := wr) d10Ty rfl rfl ?_; (intro w1 b1 B1 s1; have b1 := Lib.hid b1))
                    | ((with_reducible refine atWorld w1 ?_); refine wpList_storeRow (w := w1) d10Ty rfl (.tmp 8) (.tmp 38) rfl wr.heap.size (d10Cells m) d10Z rfl rfl rfl rfl (d10_one m) b1.out ?_; (intro w2 b2 B2 s2 k2; have B12 : Below wr.heap.size wr w2 := B1.trans B2; have M2 := Lib.hid (X1.out w2 B12 b2); obtain ⟨e20, e21, e22, e23, e24, e25⟩ := M2.out.cells; clear b1 B1 s1 b2 B2 s2 k2))
                    | ((with_reducible refine atWorld w2 ?_); refine wpList_loadRow (w := w2) d10Ty rfl (.tmp 54) rfl wr.heap.size 0 (d10Cells m) rfl rfl (rangeOf M2.out.x) ?_)
                    | (go_at_call 15; refine (zW w2 M2.out).mono ?_; (rintro e w3 ⟨rfl, M3⟩; have M3 := Lib.hid M3; obtain ⟨e30, e31, e32, e33, e34, e35⟩ := M3.out.cells))
                    | (go_at_call 16; refine (zf w3 M3.out).mono ?_; (rintro e w4 ⟨F4, rfl, M4⟩; have M4 := Lib.hid M4; obtain ⟨e40, e41, e42, e43, e44, e45⟩ := M4.out.cells))
                    | (go_at_call 17; first
                      | ((with_reducible refine (zq1 w4 F4 M4.out).mono ?_); (rintro e w5 ⟨rfl, M5⟩; have M5 := Lib.hid M5; obtain ⟨e50, e51, e52, e53, e54, e55⟩ := M5.out.cells))
                      | ((with_reducible refine (zq2 w6 F6 M6.out).mono ?_); (rintro e w7 ⟨rfl, M7⟩; have M7 := Lib.hid M7; obtain ⟨e70, e71, e72, e73, e74, e75⟩ := M7.out.cells)))
                    | ((with_reducible refine atWorld w5 ?_); refine wpList_loadRow (w := w5) d10Ty rfl (.tmp 69) rfl wr.heap.size 0 (d10Cells m) rfl rfl (rangeOf M5.out.x) ?_)
                    | (go_at_call 18; refine (zd w5 F4 M5.out).mono ?_; (rintro e w6 ⟨F6, rfl, M6⟩; have M6 := Lib.hid M6; obtain ⟨e60, e61, e62, e63, e64, e65⟩ := M6.out.cells))
                    | (go_at_call 19; refine (zc w7 F6 M7.out).mono ?_; (rintro e w8 ⟨F8, rfl, M8⟩; have M8 := Lib.hid M8; obtain ⟨e80, e81, e82, e83, e84, e85⟩ := M8.out.cells))
                    | (go_at_call 7; refine (zo w8 F8 M8.out).mono ?_; (rintro e w9 ⟨g9, rfl, M9⟩; have M9 := Lib.hid M9; obtain ⟨e90, e91, e92, e93, e94, e95⟩ := M9.out.cells))
                    | (go_at_call 11; first
                      | ((with_reducible refine (zb w7 F6 M7.out).mono ?_); (rintro e w' ⟨rfl, rfl⟩))
                      | ((with_reducible refine (zb2 w9 F8 g9 M9.out).mono ?_); (rintro e w' ⟨rfl, rfl⟩))))
                  go_roundw
                  case rel => exact ⟨k + 1, F8, U, g9, _, _, rfl, rfl, by go_num, by omega, by omega, M9.out.next HU.out.1 HU.out.2.1 HU.out.2.2⟩
                  case measure => simp [vNk]; omega
                · rw [if_neg (by decide)] at zd
                  obtain ⟨W, hW⟩ : ∃ W, W = Dy.want m.k m.n m.v s := ⟨_, rfl⟩
                  rw [← hW] at zW i1 hws
                  have n1 : ((W : Int) == (s : Int)) = false := by simp; omega
                  have n2 : ((s : Int) != (W : Int)) = true := by simp; omega
                  have n3 : ((W : Int) != (s : Int)) = true := by simp; omega
                  rcases i1 with i1 | i1
                  · have HU : Hid (Dy.Inv U N' W ∧ U.ops ≤ 4 * (k + 1) + 4 ∧ N' ≤ k + 1 + 1) := Lib.hid ⟨i1, by have := HI.out; omega, by have := HI.out; omega⟩
                    have zc := fun u F (M : DkAt w b g s F T wr.heap.size m u) => zc u F s M
                    have zo := fun u F (M : DkAt w b g s F U wr.heap.size m u) => dk_open M HT.out i1.opens.1
                    rw [i1.opens.2] at zo
                    have zb := fun u F (M : DkAt w b g s F T wr.heap.size m u) => dk_bits M
                    have zb2 := fun u F g (M : DkAt w b g W F U wr.heap.size m u) => dk_bits M
                    clear stn hv hr hc iv hs hN hO HI hk10 q1 q2 q3 q3b q5 i1 hws ho ho1 hk4 hW
                    go_wp2_with (first
                      | ((with_reducible refine atWorld wr ?_); refine wpList_allocRow (w := wr) d10Ty rfl rfl ?_; (intro w1 b1 B1 s1; have b1 := Lib.hid b1))
                      | ((with_reducible refine atWorld w1 ?_); refine wpList_storeRow (w := w1) d10Ty rfl (.tmp 8) (.tmp 38) rfl wr.heap.size (d10Cells m) d10Z rfl rfl rfl rfl (d10_one m) b1.out ?_; (intro w2 b2 B2 s2 k2; have B12 : Below wr.heap.size wr w2 := B1.trans B2; have M2 := Lib.hid (X1.out w2 B12 b2); obtain ⟨e20, e21, e22, e23, e24, e25⟩ := M2.out.cells; clear b1 B1 s1 b2 B2 s2 k2))
                      | ((with_reducible refine atWorld w2 ?_); refine wpList_loadRow (w := w2) d10Ty rfl (.tmp 54) rfl wr.heap.size 0 (d10Cells m) rfl rfl (rangeOf M2.out.x) ?_)
                      | (go_at_call 15; refine (zW w2 M2.out).mono ?_; (rintro e w3 ⟨rfl, M3⟩; have M3 := Lib.hid M3; obtain ⟨e30, e31, e32, e33, e34, e35⟩ := M3.out.cells))
                      | (go_at_call 16; refine (zf w3 M3.out).mono ?_; (rintro e w4 ⟨F4, rfl, M4⟩; have M4 := Lib.hid M4; obtain ⟨e40, e41, e42, e43, e44, e45⟩ := M4.out.cells))
                      | (go_at_call 17; first
                        | ((with_reducible refine (zq1 w4 F4 M4.out).mono ?_); (rintro e w5 ⟨rfl, M5⟩; have M5 := Lib.hid M5; obtain ⟨e50, e51, e52, e53, e54, e55⟩ := M5.out.cells)))
                      | ((with_reducible refine atWorld w5 ?_); refine wpList_loadRow (w := w5) d10Ty rfl (.tmp 69) rfl wr.heap.size 0 (d10Cells m) rfl rfl (rangeOf M5.out.x) ?_)
                      | (go_at_call 18; refine (zd w5 F4 M5.out).mono ?_; (rintro e w6 ⟨F6, rfl, M6⟩; have M6 := Lib.hid M6; obtain ⟨e60, e61, e62, e63, e64, e65⟩ := M6.out.cells))
                      | (go_at_call 19; refine (zc w6 F6 M6.out).mono ?_; (rintro e w8 ⟨F8, rfl, M8⟩; have M8 := Lib.hid M8; obtain ⟨e80, e81, e82, e83, e84, e85⟩ := M8.out.cells))
                      | (go_at_call 7; refine (zo w8 F8 M8.out).mono ?_; (rintro e w9 ⟨g9, rfl, M9⟩; have M9 := Lib.hid M9; obtain ⟨e90, e91, e92, e93, e94, e95⟩ := M9.out.cells))
                      | (go_at_call 11; first
                        | ((with_reducible refine (zb w6 F6 M6.out).mono ?_); (rintro e w' ⟨rfl, rfl⟩))
                        | ((with_reducible refine (zb2 w9 F8 g9 M9.out).mono ?_); (rintro e w' ⟨rfl, rfl⟩))))
                    go_roundw
                    case rel => exact ⟨k + 1, F8, U, g9, _, _, rfl, rfl, by go_num, by omega, by omega, M9.out.next HU.out.1 HU.out.2.1 HU.out.2.2⟩
                    case measure => simp [vNk]; omega
                  · have HU : Hid (Dy.Inv U N' s ∧ U.ops ≤ 4 * (k + 1) + 4 ∧ N' ≤ k + 1 + 1) := Lib.hid ⟨i1, by have := HI.out; omega, by have := HI.out; omega⟩
                    have zc := fun u F (M : DkAt w b g s F T wr.heap.size m u) => zc u F s M
                    have zo := fun u F (M : DkAt w b g s F U wr.heap.size m u) => dk_open M HT.out i1.opens.1
                    rw [i1.opens.2] at zo
                    have zb := fun u F (M : DkAt w b g s F T wr.heap.size m u) => dk_bits M
                    have zb2 := fun u F g (M : DkAt w b g s F U wr.heap.size m u) => dk_bits M
                    clear stn hv hr hc iv hs hN hO HI hk10 q1 q2 q3 q3b q5 i1 hws ho ho1 hk4 hW
                    go_wp2_with (first
                      | ((with_reducible refine atWorld wr ?_); refine wpList_allocRow (w := wr) d10Ty rfl rfl ?_; (intro w1 b1 B1 s1; have b1 := Lib.hid b1))
                      | ((with_reducible refine atWorld w1 ?_); refine wpList_storeRow (w := w1) d10Ty rfl (.tmp 8) (.tmp 38) rfl wr.heap.size (d10Cells m) d10Z rfl rfl rfl rfl (d10_one m) b1.out ?_; (intro w2 b2 B2 s2 k2; have B12 : Below wr.heap.size wr w2 := B1.trans B2; have M2 := Lib.hid (X1.out w2 B12 b2); obtain ⟨e20, e21, e22, e23, e24, e25⟩ := M2.out.cells; clear b1 B1 s1 b2 B2 s2 k2))
                      | ((with_reducible refine atWorld w2 ?_); refine wpList_loadRow (w := w2) d10Ty rfl (.tmp 54) rfl wr.heap.size 0 (d10Cells m) rfl rfl (rangeOf M2.out.x) ?_)
                      | (go_at_call 15; refine (zW w2 M2.out).mono ?_; (rintro e w3 ⟨rfl, M3⟩; have M3 := Lib.hid M3; obtain ⟨e30, e31, e32, e33, e34, e35⟩ := M3.out.cells))
                      | (go_at_call 16; refine (zf w3 M3.out).mono ?_; (rintro e w4 ⟨F4, rfl, M4⟩; have M4 := Lib.hid M4; obtain ⟨e40, e41, e42, e43, e44, e45⟩ := M4.out.cells))
                      | (go_at_call 17; first
                        | ((with_reducible refine (zq1 w4 F4 M4.out).mono ?_); (rintro e w5 ⟨rfl, M5⟩; have M5 := Lib.hid M5; obtain ⟨e50, e51, e52, e53, e54, e55⟩ := M5.out.cells)))
                      | ((with_reducible refine atWorld w5 ?_); refine wpList_loadRow (w := w5) d10Ty rfl (.tmp 69) rfl wr.heap.size 0 (d10Cells m) rfl rfl (rangeOf M5.out.x) ?_)
                      | (go_at_call 18; refine (zd w5 F4 M5.out).mono ?_; (rintro e w6 ⟨F6, rfl, M6⟩; have M6 := Lib.hid M6; obtain ⟨e60, e61, e62, e63, e64, e65⟩ := M6.out.cells))
                      | (go_at_call 19; refine (zc w6 F6 M6.out).mono ?_; (rintro e w8 ⟨F8, rfl, M8⟩; have M8 := Lib.hid M8; obtain ⟨e80, e81, e82, e83, e84, e85⟩ := M8.out.cells))
                      | (go_at_call 7; refine (zo w8 F8 M8.out).mono ?_; (rintro e w9 ⟨g9, rfl, M9⟩; have M9 := Lib.hid M9; obtain ⟨e90, e91, e92, e93, e94, e95⟩ := M9.out.cells))
                      | (go_at_call 11; first
                        | ((with_reducible refine (zb w6 F6 M6.out).mono ?_); (rintro e w' ⟨rfl, rfl⟩))
                        | ((with_reducible refine (zb2 w9 F8 g9 M9.out).mono ?_); (rintro e w' ⟨rfl, rfl⟩))))
                    go_roundw
                    case rel => exact ⟨k + 1, F8, U, g9, _, _, rfl, rfl, by go_num, by omega, by omega, M9.out.next HU.out.1 HU.out.2.1 HU.out.2.2⟩
                    case measure => simp [vNk]; omega
      · obtain rfl : k = 20 := by omega
        have hB := Lib.hid inv.below
        clear inv
        go_wp2
        go_ret
        exact ⟨rfl, hB.out⟩
    · obtain rfl : k = n := by omega
      have hB := Lib.hid inv.below
      clear inv
      go_wp2
      go_ret
      exact ⟨rfl, hB.out⟩
end Go.Proofs.YtcahpodmcklnbaaDoor
