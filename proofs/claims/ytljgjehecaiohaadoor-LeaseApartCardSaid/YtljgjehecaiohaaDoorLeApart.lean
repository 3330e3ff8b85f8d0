/-
  The walk of LeaseApart: the loops. Conditions: the table of bounds lies as the text lays it.
-/
import Derived.Test.YtljgjehecaiohaaDoorLeApart0
import Derived.Deep.CutRange
namespace Go.Proofs.YtljgjehecaiohaaDoor
open Go.RowKit Le

section
variable {A : Option Addr} {l : List TcM} {c : Nat} {w : World} {a g k v : Int}
set_option maxRecDepth 100000 in
set_option maxHeartbeats 2000000 in
theorem lap_in (hb : BndAt w) (hA : TcsAt w w.heap.size A l) (h0 : ¬ 60 < l.length) (h1 : ¬ a < 0) (h2 : ¬ a > 1073741824) (h3 : ¬ g < 0) (h4 : ¬ g > 1073741824) (h5 : ¬ k < 0) (h6 : ¬ v < k) :
    Calls Tryd.prog 7 #[.int .i64 a, .int .i64 g, .slice A l.length c, .int .i64 k, .int .i64 v] w (Tlb true w) := by
  obtain ⟨K, rfl⟩ : ∃ K : Nat, k = (K : Int) := ⟨k.toNat, by omega⟩
  obtain ⟨V, rfl⟩ : ∃ V : Nat, v = (V : Int) := ⟨v.toNat, by omega⟩
  have za := leKnown_any w hb
  obtain ⟨n, hn⟩ : ∃ n, n = l.length := ⟨_, rfl⟩
  rw [← hn] at h0 ⊢
  have l0 : ¬ (n : Int) > 60 := by omega
  have HH := Lib.hid (show n = l.length ∧ n ≤ 60 ∧ K ≤ V ∧ (0 ≤ a ∧ a ≤ 1073741824) ∧ (0 ≤ g ∧ g ≤ 1073741824) from ⟨hn, by omega, by omega, by omega, by omega⟩)
  have HA := Lib.hid hA
  have HB := Lib.hid hb
  clear hb hn h0 hA
  go_enter Tryd.func7, Tryd.ntmps7
  go_upto_region 2 with (go_at_call 6; (with_reducible refine za.mono ?_); (rintro e w2 ⟨rfl, B2⟩; have C2 := Lib.hid B2; clear B2))
  go_cut [44] from 17 to 44 (fun x wx => x = .bool false ∧ Below w.heap.size w wx)
  case first =>
    go_wp2_with fail
    go_meet
    exact ⟨by simp; have := HH.out; omega, C2.out⟩
  obtain ⟨rfl, B2⟩ := hcut
  clear h1 h2 h3 h4 h5 h6 l0
  go_wp2
  go_loopw [12] (fun ix wr => ∃ i : Nat, i ≤ n ∧ ix = .int .i64 (i : Int) ∧ Below w.heap.size w wr ∧ ∀ j m, j < i → l[j]? = some m → TcP m) (fun ix _ => n + 1 - vI ix)
  case atStart => exact ⟨0, Nat.zero_le _, rfl, B2, fun j m h => by omega⟩
  case round =>
    obtain ⟨i, hi, rfl, Br, hp⟩ := hrel
    clear B2
    by_cases hin : i = n
    · subst hin
      have lx : ¬ (i : Int) < (i : Int) := by omega
      obtain ⟨wo, hwo⟩ : ∃ wo, wo = wr := ⟨_, rfl⟩
      subst hwo
      have BR := Lib.hid Br
      have HP := Lib.hid hp
      clear hp Br hi
      go_wp2_with (first
        | ((with_reducible refine atWorld wo ?_); refine wpList_allocRow (w := wo) info_prom rfl rfl ?_; (intro w3 b3 B3 s3; have b3 := Lib.hid b3; have C3 := Lib.hid (step_trans BR.out B3); replace s3 := Lib.hid s3; clear B3))
        | ((with_reducible refine atWorld w3 ?_); refine wpList_storeRow (w := w3) info_prom rfl (.tmp 14) (.tmp 66) rfl wo.heap.size (pmC (-1) 0) _ rfl rfl rfl rfl (by simp [pmC, Value.oneCell']) b3.out ?_; (intro w4 b4 B4 s4 x4; have C4 : Below w.heap.size w w4 := C3.out.trans (B4.mono BR.out.size); have P4 : Ap w wo.heap.size K V i a g (-1) (-1) 0 0 w4 := ⟨C4, b4, HB.out.grown C4, BR.out.size, .inl ⟨Nat.zero_le _, apart_new HH.out.2.2.2.1 HH.out.2.2.2.2⟩⟩; clear b4 B4 s4 x4 C4)))
      go_loopw [15, 13, 0, 1] (fun ix sx ax gx wr' => ApRel w wo.heap.size K V i ix sx ax gx wr') (fun ix _ _ _ _ => i + 2 - vI ix)
      case atStart => exact ⟨0, _, _, _, _, _, rfl, rfl, rfl, rfl, P4⟩
      case round =>
        obtain ⟨r, s, a', g', t, f, rfl, rfl, rfl, rfl, P⟩ := hrel
        clear P4
        rcases P.at_ with ⟨hr, hap⟩ | rfl
        · have lr : (r : Int) ≤ (i : Int) := by omega
          have hd := hap.does HH.out.2.2.1
          clear hap
          obtain ⟨s2, hs2⟩ : ∃ x, x = if r = K then a' else s := ⟨_, rfl⟩
          obtain ⟨t2, ht2⟩ : ∃ x, x = if r = V then 1 else t := ⟨_, rfl⟩
          obtain ⟨f2, hf2⟩ : ∃ x, x = if r = V then g' else f := ⟨_, rfl⟩
          rw [← hs2, ← ht2, ← hf2] at hd
          have HD := Lib.hid hd
          have HS := Lib.hid (And.intro hs2 (And.intro ht2 hf2))
          have HR := Lib.hid hr
          clear hd hs2 ht2 hf2 hr
          go_upto_if 75 with fail
          go_cut [13] from 67 to 113 (fun sx wx => sx = .int .i64 s2 ∧ Ap w wo.heap.size K V i a' g' s t f r wx)
          case first =>
            by_cases e : r = K
            · have l1 : ((r : Int) == (K : Int)) = true := by simp [e]
              have e2 : s2 = a' := by rw [HS.out.1, if_pos e]
              have FIN := Lib.hid (And.intro e2 P)
              clear e e2 P
              go_wp2_with fail
              go_meet
              exact ⟨by rw [FIN.out.1], FIN.out.2⟩
            · have l1 : ((r : Int) == (K : Int)) = false := by simp; omega
              have e2 : s2 = s := by rw [HS.out.1, if_neg e]
              have FIN := Lib.hid (And.intro e2 P)
              clear e e2 P
              go_wp2_with fail
              go_meet
              exact ⟨by rw [FIN.out.1], FIN.out.2⟩
          case rest =>
            clear P
            obtain ⟨rfl, P⟩ := hcut
            go_upto_if 79 with fail
            go_cut [75] from 67 to 113 (fun _ wx => Ap1 w wo.heap.size K V i a' g' s2 t2 f2 r wx)
            case first =>
              by_cases e : r = V
              · have l1 : ((r : Int) == (V : Int)) = true := by simp [e]
                have e2 : t2 = 1 ∧ f2 = g' := ⟨by rw [HS.out.2.1, if_pos e], by rw [HS.out.2.2, if_pos e]⟩
                have FIN := Lib.hid (And.intro e2 P)
                clear e e2 P
                go_wp2_with (refine wpList_storeRow info_prom rfl (.tmp 14) (.tmp 81) rfl wo.heap.size (pmC 1 g') (pmC t f) rfl rfl rfl rfl (by simp [pmC, Value.oneCell']) FIN.out.2.blk ?_; (intro w5 b5 B5 s5 x5; have C5 : Below w.heap.size w w5 := FIN.out.2.fr.trans (B5.mono FIN.out.2.ge); rw [← FIN.out.1.1, ← FIN.out.1.2] at b5; have P5 : Ap1 w wo.heap.size K V i a' g' s2 t2 f2 r w5 := ⟨C5, b5, HB.out.grown C5, FIN.out.2.ge, HD.out⟩; clear b5 B5 s5 x5 C5))
                go_meet
                exact P5
              · have l1 : ((r : Int) == (V : Int)) = false := by simp; omega
                have P5 : Ap1 w wo.heap.size K V i a' g' s2 t2 f2 r _ := ⟨P.fr, by rw [HS.out.2.1, if_neg e, HS.out.2.2, if_neg e]; exact P.blk, P.bnd, P.ge, HD.out⟩
                have FIN := Lib.hid P5
                clear e P P5
                go_wp2_with fail
                go_meet
                exact FIN.out
            case rest =>
              clear P
              have P1 := hcut
              clear hcut
              go_upto_region 18 with fail
              go_cut [95] from 67 to 113 (fun x wx => x = .bool false ∧ Ap1 w wo.heap.size K V i a' g' s2 t2 f2 r wx)
              case first =>
                have zv := leValid_any s2 a' _ P1.bnd
                have zh := leHolds_any t2 f2 g' _ P1.bnd
                have c0 := P1.blk.cell (k := 0) (u := .int .i64 t2) rfl
                have c1 := P1.blk.cell (k := 1) (u := .int .i64 f2) rfl
                by_cases e : V ≤ r
                · have l1 : (r : Int) ≥ (V : Int) := by omega
                  by_cases hv : Valid s2 a'
                  · rw [decide_eq_true hv] at zv
                    rw [decide_eq_true (HD.out.holds e hv)] at zh
                    have HP := Lib.hid P1
                    clear e hv P1
                    go_wp2_with (first
                      | (go_at_call 18; (with_reducible refine zv.mono ?_); (rintro e w5 ⟨rfl, rfl⟩))
                      | (go_at_call 22; (with_reducible refine zh.mono ?_); (rintro e w6 ⟨rfl, B6⟩; have P6 := Lib.hid (HP.out.step B6); clear B6)))
                    go_meet
                    exact ⟨rfl, P6.out⟩
                  · rw [decide_eq_false hv] at zv
                    have HP := Lib.hid P1
                    clear e hv P1 zh
                    go_wp2_with (first
                      | (go_at_call 18; (with_reducible refine zv.mono ?_); (rintro e w5 ⟨rfl, rfl⟩)))
                    go_meet
                    exact ⟨rfl, HP.out⟩
                · have l1 : ¬ (r : Int) ≥ (V : Int) := by omega
                  have HP := Lib.hid P1
                  clear e P1 zh zv
                  go_wp2_with fail
                  go_meet
                  exact ⟨rfl, HP.out⟩
              case rest =>
                clear P1
                obtain ⟨rfl, P2⟩ := hcut
                by_cases e : r < i
                · have l1 : (r : Int) < (i : Int) := by omega
                  obtain ⟨m, hm⟩ : ∃ m, l[r]? = some m := ⟨_, List.getElem?_eq_getElem (by rw [← HH.out.1]; omega)⟩
                  obtain ⟨ad, rfl, c0, c1⟩ := tc_at HA.out P2.fr hm
                  have hpt := HP.out r m e hm
                  have hq := HD.out
                  have w1 : IntKind.i64.wrap (a' + m.a) = a' + m.a := IntWalk.i64_in _ (by have := hq.a0; have := hq.aM; have := hpt.1; unfold Part at this; have := HH.out; omega)
                  have w2 : IntKind.i64.wrap (g' + m.g) = g' + m.g := IntWalk.i64_in _ (by have := hq.g0; have := hq.gM; have := hpt.2; unfold Part at this; have := HH.out; omega)
                  have hwk : IntKind.i64.wrap ((r : Int) + 1) = (r : Int) + 1 := IntWalk.i64_in _ (by have := HH.out; omega)
                  have FIN : Hid (r + 1 ≤ i ∧ Apart K V (r + 1) (a' + m.a) (g' + m.g) s2 t2 f2) := Lib.hid ⟨e, hq.tick hpt.1 hpt.2⟩
                  have HP2 := Lib.hid P2
                  clear e hm hpt hq P2
                  go_wp2
                  go_roundw
                  case rel => exact ⟨r + 1, _, _, _, _, _, rfl, rfl, rfl, rfl, ⟨HP2.out.fr, HP2.out.blk, HP2.out.bnd, HP2.out.ge, .inl FIN.out⟩⟩
                  case measure => have := FIN.out.1; simp [vI]; omega
                · have l1 : ¬ (r : Int) < (i : Int) := by omega
                  have hwk : IntKind.i64.wrap ((r : Int) + 1) = (r : Int) + 1 := IntWalk.i64_in _ (by have := HH.out; have := HR.out; omega)
                  have FIN : Hid (r + 1 = i + 1) := Lib.hid (by have := HR.out; omega)
                  have HP2 := Lib.hid P2
                  clear e P2
                  go_wp2
                  go_roundw
                  case rel => exact ⟨r + 1, _, _, _, _, _, rfl, rfl, rfl, rfl, ⟨HP2.out.fr, HP2.out.blk, HP2.out.bnd, HP2.out.ge, .inr FIN.out⟩⟩
                  case measure => have := FIN.out; simp [vI]; omega
        · have lr : ¬ ((i + 1 : Nat) : Int) ≤ (i : Int) := by omega
          have PF := Lib.hid P.fr
          clear P
          go_wp2
          go_ret
          exact ⟨rfl, PF.out⟩
    · have lx : (i : Int) < (n : Int) := by omega
      obtain ⟨m, hm⟩ : ∃ m, l[i]? = some m := ⟨_, List.getElem?_eq_getElem (by rw [← HH.out.1]; omega)⟩
      obtain ⟨wd, hwd⟩ : ∃ wd, wd = { wr with drawn := wr.drawn + 1 } := ⟨_, rfl⟩
      have Bd : Below w.heap.size w wd := by rw [hwd]; exact step_trans Br (Below.refl _ wr).drew
      obtain ⟨ad, rfl, c0, c1⟩ := tc_at HA.out Bd hm
      have hwk : IntKind.i64.wrap ((i : Int) + 1) = ((i + 1 : Nat) : Int) := (IntWalk.i64_in _ (by have := HH.out; omega)).trans (by omega)
      by_cases hpm : TcP m
      · have zk : Calls Tryd.prog 27 #[.slice (some ⟨wd.heap.size, 0, none⟩) 2 2] (wd.alloc (.cells #[.int .i64 m.a, .int .i64 m.g] 3)) (Tlb true wd) := lit_keeps wd (HB.out.grown Bd) [m.a, m.g] 2 rfl (by decide) true (decide_eq_true (by unfold Parts; simp; exact hpm))
        have NX : Hid (i + 1 ≤ n ∧ ∀ j m, j < i + 1 → l[j]? = some m → TcP m) := Lib.hid ⟨by omega, fun j z hj hz => by
          by_cases e : j = i
          · subst e; rw [hm] at hz; cases hz; exact hpm
          · exact hp j z (by omega) hz⟩
        have BD := Lib.hid Bd
        clear hp hi hin hm hpm Bd Br
        go_wp2
        refine region_tail 10 (by kernel_rfl) (by kernel_rfl) wd hwd ?_
        clear hwd
        simp only [List.take_succ_cons, List.take_zero, List.drop_succ_cons, List.drop_zero]
        repeat still_step
        refine wpStill_nil ?_
        go_wp2_with (go_at_call 27; (with_reducible refine zk.mono ?_); (rintro e w3 ⟨rfl, B3⟩))
        exact ⟨⟨i + 1, NX.out.1, rfl, step_trans BD.out B3, NX.out.2⟩, by have := NX.out.1; simp [vI]; omega⟩
      · have zk : Calls Tryd.prog 27 #[.slice (some ⟨wd.heap.size, 0, none⟩) 2 2] (wd.alloc (.cells #[.int .i64 m.a, .int .i64 m.g] 3)) (Tlb false wd) := lit_keeps wd (HB.out.grown Bd) [m.a, m.g] 2 rfl (by decide) false (decide_eq_false (by unfold Parts; simp; exact fun e e' => hpm ⟨e, e'⟩))
        have BD := Lib.hid Bd
        clear hp hi hin hm hpm Bd Br
        go_wp2
        refine region_tail 10 (by kernel_rfl) (by kernel_rfl) wd hwd ?_
        clear hwd
        simp only [List.take_succ_cons, List.take_zero, List.drop_succ_cons, List.drop_zero]
        repeat still_step
        refine wpStill_nil ?_
        go_wp2_with (go_at_call 27; (with_reducible refine zk.mono ?_); (rintro e w3 ⟨rfl, B3⟩))
        go_ret
        exact ⟨rfl, step_trans BD.out B3⟩
theorem lap_any (hb : BndAt w) (hA : TcsAt w w.heap.size A l) : Calls Tryd.prog 7 #[.int .i64 a, .int .i64 g, .slice A l.length c, .int .i64 k, .int .i64 v] w (Tlb true w) := by
  by_cases h0 : 60 < l.length
  · exact lap_out0 hb h0
  by_cases h1 : a < 0
  · exact lap_out1 hb h0 h1
  by_cases h2 : a > 1073741824
  · exact lap_out2 hb h0 h1 h2
  by_cases h3 : g < 0
  · exact lap_out3 hb h0 h1 h2 h3
  by_cases h4 : g > 1073741824
  · exact lap_out4 hb h0 h1 h2 h3 h4
  by_cases h5 : k < 0
  · exact lap_out5 hb h0 h1 h2 h3 h4 h5
  by_cases h6 : v < k
  · exact lap_out6 hb h0 h1 h2 h3 h4 h5 h6
  exact lap_in hb hA h0 h1 h2 h3 h4 h5 h6
end
end Go.Proofs.YtljgjehecaiohaaDoor
