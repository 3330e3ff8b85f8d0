/-
  The walk of ClockScript. Conditions: none.
-/
import Derived.Test.YtfopjilncfndnaaCkScript
import Derived.Test.YtfopjilncfndnaaRegPhase
namespace Go.Proofs.Ytfopjilncfndnaa
open Go.RowKit Ck

section
variable {t : T3} {A : Option Addr} {l : List T3} {c : Nat} {w : World}
set_option maxRecDepth 100000 in
set_option maxHeartbeats 1000000 in
theorem ckScript_none (he : ¬ Btw 0 M t) : Calls Try.prog 3 #[.agg (t3Cells t).toArray, .slice A l.length c] w fun e w' => e = .returned (.bool true) ∧ Below w.heap.size w w' := by
  obtain ⟨w1, hw1⟩ : ∃ w1, w1 = w.alloc (.cells (t3Cells t).toArray 22) := ⟨_, rfl⟩
  have B1 : Below w.heap.size w w1 := by rw [hw1]; exact step_alloc (Below.refl _ w) _
  have b1 : BlkR 22 w1 w.heap.size (t3Cells t) := by rw [hw1]; exact BlkR.new w _ _
  have HS := Lib.hid b1
  have BB := Lib.hid B1
  have za := fun wy => ckAwake_any wy
  have zn := fun wy => ckNew_no t he wy
  have zr := fun wy => rfNew_no t he wy
  obtain ⟨xs, hxs⟩ : ∃ xs, xs = t3Cells t := ⟨_, rfl⟩
  have HX := Lib.hid hxs
  rw [← hxs] at hw1 zn zr ⊢
  obtain ⟨n, hn⟩ : ∃ n, n = l.length := ⟨_, rfl⟩
  rw [← hn]
  have zn1 := zn w1
  clear hxs b1 B1 he hn zn
  go_enter Try.func3, Try.ntmps3
  go_wp2_with (first
    | ((with_reducible refine atWorld (w.alloc (.cells xs.toArray 22)) ?_); rw [← hw1]; clear hw1; refine wpList_loadRow (w := w1) info_t3 rfl (.tmp 2) rfl w.heap.size 0 xs rfl (by rw [HX.out]; rfl) (rangeOf (by rw [HX.out]; exact HS.out)) ?_)
    | (go_at_call 8; (with_reducible refine zn1.mono ?_); (rintro e w2 ⟨rfl, B2⟩; have b2 := Lib.hid (HS.out.below B2 HS.out.lt); have zr2 := zr w2; have C2 := Lib.hid (step_trans BB.out B2); clear B2))
    | ((with_reducible refine atWorld w2 ?_); refine wpList_loadRow (w := w2) info_t3 rfl (.tmp 2) rfl w.heap.size 0 xs rfl (by rw [HX.out]; rfl) (rangeOf (by rw [HX.out]; exact b2.out)) ?_)
    | (go_at_call 9; (with_reducible refine zr2.mono ?_); (rintro e w3 ⟨rfl, B3⟩; have za3 := za w3; have C3 := Lib.hid (step_trans C2.out B3); clear B3))
    | (go_at_call 10; (with_reducible refine za3.mono ?_); (rintro e w4 ⟨rfl, B4⟩)))
  go_ret
  exact ⟨rfl, step_trans C3.out B4⟩
set_option maxRecDepth 100000 in
set_option maxHeartbeats 1000000 in
theorem ckScript_long (he : Btw 0 M t) (hl : 100 < l.length) : Calls Try.prog 3 #[.agg (t3Cells t).toArray, .slice A l.length c] w fun e w' => e = .returned (.bool true) ∧ Below w.heap.size w w' := by
  obtain ⟨w1, hw1⟩ : ∃ w1, w1 = w.alloc (.cells (t3Cells t).toArray 22) := ⟨_, rfl⟩
  have B1 : Below w.heap.size w w1 := by rw [hw1]; exact step_alloc (Below.refl _ w) _
  have b1 : BlkR 22 w1 w.heap.size (t3Cells t) := by rw [hw1]; exact BlkR.new w _ _
  have HS := Lib.hid b1
  have BB := Lib.hid B1
  have za := fun wy => ckAwake_any wy
  have zn := fun wy B => cz_new t he w wy B
  have zr := fun wy => rfNew_yes t he wy
  obtain ⟨xs, hxs⟩ : ∃ xs, xs = t3Cells t := ⟨_, rfl⟩
  have HX := Lib.hid hxs
  rw [← hxs] at hw1 zn zr ⊢
  obtain ⟨n, hn⟩ : ∃ n, n = l.length := ⟨_, rfl⟩
  rw [← hn] at hl ⊢
  have hl2 : (100 : Int) < (n : Int) := by omega
  have zn1 := zn w1 B1
  clear hxs b1 B1 he hn hl zn
  go_enter Try.func3, Try.ntmps3
  go_wp2_with (first
    | ((with_reducible refine atWorld (w.alloc (.cells xs.toArray 22)) ?_); rw [← hw1]; clear hw1; refine wpList_loadRow (w := w1) info_t3 rfl (.tmp 2) rfl w.heap.size 0 xs rfl (by rw [HX.out]; rfl) (rangeOf (by rw [HX.out]; exact HS.out)) ?_)
    | (go_at_call 8; (with_reducible refine zn1.mono ?_); (rintro e w2 ⟨g, rfl, H2, _, B2⟩; have b2 := Lib.hid (HS.out.below B2 HS.out.lt); have zr2 := zr w2; have C2 := Lib.hid (step_trans BB.out B2); clear B2 H2))
    | ((with_reducible refine atWorld w2 ?_); refine wpList_loadRow (w := w2) info_t3 rfl (.tmp 2) rfl w.heap.size 0 xs rfl (by rw [HX.out]; rfl) (rangeOf (by rw [HX.out]; exact b2.out)) ?_)
    | (go_at_call 9; (with_reducible refine zr2.mono ?_); (rintro e w3 ⟨c3, rfl, _, _, B3⟩; have za3 := za w3; have C3 := Lib.hid (step_trans C2.out B3); clear B3))
    | (go_at_call 10; (with_reducible refine za3.mono ?_); (rintro e w4 ⟨rfl, B4⟩)))
  go_ret
  exact ⟨rfl, step_trans C3.out B4⟩
/-- what stands at the head of the law's loop -/
def TwRel (W : World) (g c : Nat) (t : T3) (l : List T3) (ix : Value) (wr : World) : Prop := ∃ i good : Nat, i ≤ l.length ∧ ix = .int .i64 (i : Int) ∧ Tw W wr g c (St t l i) (St t l i) good
def TwCut (W : World) (g c : Nat) (s : S) (v : Value) (wx : World) : Prop := v = .bool false ∧ ∃ good, Tw W wx g c s s good
def TwLook (W : World) (g c good : Nat) (s : S) (ix : Value) (wr : World) : Prop := ∃ f : Nat, ix = .int .i64 ((f : Int) - 1) ∧ f ≤ 5 ∧ Tw W wr g c s s good
def vQ : Value → Nat
  | .int _ q => (4 - q).toNat
  | _ => 0
set_option maxRecDepth 100000 in
set_option maxHeartbeats 8000000 in
theorem ckScript_main (he : Btw 0 M t) (hl : l.length ≤ 100) (hA : TksAt w w.heap.size A l) : Calls Try.prog 3 #[.agg (t3Cells t).toArray, .slice A l.length c] w fun e w' => e = .returned (.bool true) ∧ Below w.heap.size w w' := by
  obtain ⟨w1, hw1⟩ : ∃ w1, w1 = w.alloc (.cells (t3Cells t).toArray 22) := ⟨_, rfl⟩
  have B1 : Below w.heap.size w w1 := by rw [hw1]; exact step_alloc (Below.refl _ w) _
  have b1 : BlkR 22 w1 w.heap.size (t3Cells t) := by rw [hw1]; exact BlkR.new w _ _
  have HS := Lib.hid b1
  have BB := Lib.hid B1
  have za := fun wy => ckAwake_any wy
  have HA := Lib.hid hA
  have zn := fun wy B => cz_new t he w wy B
  have zr := fun wy => rfNew_yes t he wy
  obtain ⟨xs, hxs⟩ : ∃ xs, xs = t3Cells t := ⟨_, rfl⟩
  have HX := Lib.hid hxs
  rw [← hxs] at hw1 zn zr ⊢
  obtain ⟨n, hn⟩ : ∃ n, n = l.length := ⟨_, rfl⟩
  rw [← hn] at hl ⊢
  have hl2 : ¬ (100 : Int) < (n : Int) := by omega
  have HL := Lib.hid (And.intro hn hl)
  have zn1 := zn w1 B1
  clear hxs b1 B1 he hn hl hA zn
  go_enter Try.func3, Try.ntmps3
  go_wp2_with (first
    | ((with_reducible refine atWorld (w.alloc (.cells xs.toArray 22)) ?_); rw [← hw1]; clear hw1; refine wpList_loadRow (w := w1) info_t3 rfl (.tmp 2) rfl w.heap.size 0 xs rfl (by rw [HX.out]; rfl) (rangeOf (by rw [HX.out]; exact HS.out)) ?_)
    | (go_at_call 8; (with_reducible refine zn1.mono ?_); (rintro e w2 ⟨g, rfl, H2, _, B2⟩; have b2 := Lib.hid (HS.out.below B2 HS.out.lt); have zr2 := zr w2; have H2 := Lib.hid H2; clear B2))
    | ((with_reducible refine atWorld w2 ?_); refine wpList_loadRow (w := w2) info_t3 rfl (.tmp 2) rfl w.heap.size 0 xs rfl (by rw [HX.out]; rfl) (rangeOf (by rw [HX.out]; exact b2.out)) ?_)
    | (go_at_call 9; (with_reducible refine zr2.mono ?_); (rintro e w3 ⟨c3, rfl, R3, hc3, B3⟩; have D3 : Hid (Tw w w3 g c3 (St t l 0) (St t l 0) 0) := Lib.hid ⟨H2.out.step B3, R3, (fun e => by have := H2.out.blt; omega), Nat.le_trans H2.out.fr.size hc3⟩; clear B3 R3 hc3)))
  clear zn1 zr zr2 b2
  go_loopw [9] (fun ix wr => TwRel w g c3 t l ix wr) (fun ix _ => 101 - vI ix)
  case atStart => exact ⟨0, 0, Nat.zero_le _, rfl, D3.out⟩
  case round =>
    obtain ⟨i, good, hi, rfl, inv⟩ := hrel
    rw [← HL.out.1] at hi
    have hsn := St_n t l i
    obtain ⟨s, hs⟩ : ∃ s, s = St t l i := ⟨_, rfl⟩
    have HQ := Lib.hid hs
    rw [← hs] at inv hsn
    have HI := Lib.hid (And.intro hi hsn)
    clear hs hi hsn
    by_cases hin : i = n
    · have hin' : ¬ (i : Int) < (n : Int) := by omega
      have zw := za wr
      have HB := Lib.hid inv.p.fr
      clear inv hin
      go_wp2_with (go_at_call 10; (with_reducible refine zw.mono ?_); (rintro e w4 ⟨rfl, B4⟩))
      go_ret
      exact ⟨rfl, step_trans HB.out B4⟩
    · have hin' : (i : Int) < (n : Int) := by have := HI.out; omega
      have hwi : IntKind.i64.wrap ((i : Int) + 1) = (i : Int) + 1 := IntWalk.i64_in _ (by have := HI.out; have := HL.out; omega)
      obtain ⟨m, hm⟩ : ∃ m, l[i]? = some m := ⟨_, List.getElem?_eq_getElem (by have := HI.out; have := HL.out; omega)⟩
      have NX := And.intro (show i + 1 ≤ n by have := HI.out; omega) (St_succ (t := t) hm)
      rw [← HQ.out] at NX
      obtain ⟨ad, rfl, Y⟩ := tk_cells HA.out hm
      have C0 := Y wr inv.p.fr
      have C1 := Y wr.drew inv.p.fr.drew
      have Y := Lib.hid Y
      obtain ⟨s2, hs2⟩ : ∃ s2, s2 = s.tick m := ⟨_, rfl⟩
      obtain ⟨E, hE⟩ : ∃ E, E = s.tickE m := ⟨_, rfl⟩
      have zt := tw_tick (inv.step (Below.refl _ wr).drew) m (by have := HI.out; have := HL.out; omega) E s2 hE.symm hs2.symm
      have ZR := Lib.hid (fun wy (D : Tw w wy g c3 s2 s good) => tw_tickR D m (by have := HI.out; have := HL.out; omega) E s2 hE.symm hs2.symm)
      rw [← hs2] at NX
      have NX := Lib.hid NX
      have eE : (E != E) = false := by simp
      have eN : ((s2.n : Int) != (s2.n : Int)) = false := by simp
      have eK : (s2.kept != s2.kept) = false := by simp
      have HIN := Lib.hid inv
      clear inv hin hm hs2 hE
      go_upto_if 80 with fail
      go_cut [80] from 45 to 79 (fun v wx => TwCut w g c3 s2 v wx)
      case first =>
        obtain ⟨x0, x1, x2⟩ := C0
        obtain ⟨y0, y1, y2⟩ := C1
        refine wp_region_held_drew (S := fun w' => w'.cell? (ad.add (i * 3)) = some (.int .i64 m.a) ∧ w'.cell? ⟨(ad.add (i * 3)).block, (ad.add (i * 3)).off + 1, none⟩ = some (.int .i64 m.b) ∧ w'.cell? ⟨(ad.add (i * 3)).block, (ad.add (i * 3)).off + 2, none⟩ = some (.int .i64 m.c)) (by kernel_rfl) ⟨y0, y1, y2⟩ (fun hHeld => ?_)
        refine wpAnyH_take (i := 0) (v := ?_) rfl (by kernel_rfl) (by kernel_rfl) (by kernel_rfl) (fun _ _ _ h => h) (Or.inl ⟨by rfl, ?_⟩) (by assumption) ?_
        rotate_left
        · intro w hSw
          obtain ⟨s0, s1, s2⟩ := hSw
          go_simp <;> with_reducible rfl
        refine wpAnyH_take (i := 1) (v := ?_) rfl (by kernel_rfl) (by kernel_rfl) (by kernel_rfl) (fun _ _ _ h => h) (Or.inl ⟨by rfl, ?_⟩) (by assumption) ?_
        rotate_left
        · intro w hSw
          obtain ⟨s0, s1, s2⟩ := hSw
          go_simp <;> with_reducible rfl
        refine wpAnyH_take (i := 2) (v := ?_) rfl (by kernel_rfl) (by kernel_rfl) (by kernel_rfl) (fun _ _ _ h => h) (Or.inl ⟨by rfl, ?_⟩) (by assumption) ?_
        rotate_left
        · intro w hSw
          obtain ⟨s0, s1, s2⟩ := hSw
          go_simp <;> with_reducible rfl
        refine wpAnyH_take (i := 3) (v := ?_) rfl (by kernel_rfl) (by kernel_rfl) (by kernel_rfl) (fun _ _ _ h => h) (Or.inl ⟨by rfl, ?_⟩) (by assumption) ?_
        rotate_left
        · intro w hSw
          obtain ⟨s0, s1, s2⟩ := hSw
          go_simp <;> with_reducible rfl
        refine wpAnyH_take (i := 4) (v := ?_) rfl (by kernel_rfl) (by kernel_rfl) (by kernel_rfl) (fun _ _ _ h => h) (Or.inl ⟨by rfl, ?_⟩) (by assumption) ?_
        rotate_left
        · intro w hSw
          obtain ⟨s0, s1, s2⟩ := hSw
          go_simp <;> with_reducible rfl
        refine wpAnyH_take (i := 6) (v := ?_) rfl (by kernel_rfl) (by kernel_rfl) (by kernel_rfl) (fun _ _ _ h => h) (Or.inl ⟨by rfl, ?_⟩) (by assumption) ?_
        rotate_left
        · intro w hSw
          obtain ⟨s0, s1, s2⟩ := hSw
          go_simp <;> with_reducible rfl
        refine wpAnyH_take (i := 7) (v := ?_) rfl (by kernel_rfl) (by kernel_rfl) (by kernel_rfl) (fun _ _ _ h => h) (Or.inl ⟨by rfl, ?_⟩) (by assumption) ?_
        rotate_left
        · intro w hSw
          obtain ⟨s0, s1, s2⟩ := hSw
          go_simp <;> with_reducible rfl
        refine wpAnyH_take (i := 8) (v := ?_) rfl (by kernel_rfl) (by kernel_rfl) (by kernel_rfl) (fun _ _ _ h => h) (Or.inl ⟨by rfl, ?_⟩) (by assumption) ?_
        rotate_left
        · intro w hSw
          obtain ⟨s0, s1, s2⟩ := hSw
          go_simp <;> with_reducible rfl
        refine wpAnyH_take (i := 9) (v := ?_) rfl (by kernel_rfl) (by kernel_rfl) (by kernel_rfl) (fun _ _ _ h => h) (Or.inl ⟨by rfl, ?_⟩) (by assumption) ?_
        rotate_left
        · intro w hSw
          obtain ⟨s0, s1, s2⟩ := hSw
          go_simp <;> with_reducible rfl
        refine wpAnyH_take (i := 10) (v := ?_) rfl (by kernel_rfl) (by kernel_rfl) (by kernel_rfl) (fun _ _ _ h => h) (Or.inl ⟨by rfl, ?_⟩) (by assumption) ?_
        rotate_left
        · intro w hSw
          obtain ⟨s0, s1, s2⟩ := hSw
          go_simp <;> with_reducible rfl
        simp only [Act.put, List.setIfInBounds_toArray]
        refine wpAnyH_ready (rs := [5]) (by kernel_rfl) (by simp) (AllReadyH.cons rfl (fun K hK => ?_) AllReadyH.nil)
        go_simp
        (go_at_call 11; (with_reducible refine zt.mono ?_); (rintro e w4 ⟨rfl, D4⟩))
        dsimp only
        refine hK.out _ _ (Y.out w4 D4.p.fr) (fun hHeld => ?_)
        have zr := ZR.out w4 D4
        clear hHeld hK K zt D4
        refine wpAnyH_ready (rs := [11]) (by kernel_rfl) (by simp) (AllReadyH.cons rfl (fun K hK => ?_) AllReadyH.nil)
        go_simp
        (go_at_call 12; (with_reducible refine zr.mono ?_); (rintro e w5 ⟨rfl, good2, D5⟩))
        dsimp only
        refine hK.out _ _ (Y.out w5 D5.p.fr) (fun hHeld => ?_)
        obtain ⟨c4, c5⟩ := tw_cells D5
        have gk := tw_good D5
        have zs := fun N => cz_ticks ((D5.step (belowN (Below.refl _ w5) N)).p) (s2.n : Int) rfl
        have zk := fun N => cz_kept ((D5.step (belowN (Below.refl _ w5) N)).p) s2.kept rfl
        have HD5 := Lib.hid D5
        clear hHeld hK K zr D5 x0 x1 x2 y0 y1 y2
        refine wpAnyH_rest 12 rfl (by kernel_rfl) (by kernel_rfl) (fun N => Y.out _ (HD5.out.step (belowN (Below.refl _ w5) N)).p.fr) ?_
        simp only [List.drop_succ_cons, List.drop_zero]
        repeat (go_big_quiet_step (first
          | (go_at_call 13; with_reducible first | exact quietN (zs _) | exact quietA (zs _))
          | (go_at_call 14; with_reducible first | exact quietN (zk _) | exact quietA (zk _))))
        refine wpQuiet_nil ?_
        intro _ hw'
        obtain ⟨nq, hw''⟩ := hw'
        subst hw''
        clear zs zk c4 c5 gk eE eN eK
        go_wp2_with fail
        go_meet
        exact ⟨rfl, _, HD5.out.step (belowN (Below.refl _ w5) nq)⟩
      case rest =>
        obtain ⟨rfl, good2, D5⟩ := hcut
        have D5 := Lib.hid D5
        clear C0 C1 zt
        go_wp2
        go_loopw [10] (fun ix wr => TwLook w g c3 good2 s2 ix wr) (fun ix _ => vQ ix)
        case atStart => exact ⟨0, rfl, by decide, D5.out⟩
        case round =>
          obtain ⟨f, rfl, hf, inv⟩ := hrel
          by_cases hf5 : f < 5
          · have hle : (f : Int) - 1 ≤ 3 := by omega
            have hwf : IntKind.i64.wrap ((f : Int) - 1 + 1) = ((f + 1 : Nat) : Int) - 1 := by rw [IntWalk.i64_in _ (by omega)]; omega
            obtain ⟨x, hx⟩ : ∃ x, x = s2.now ((f : Int) - 1) := ⟨_, rfl⟩
            have z1 := tw_now inv ((f : Int) - 1) x hx.symm
            have z2 := tw_nowR inv ((f : Int) - 1) x hx.symm
            have ex : (x != x) = false := by simp
            have HF := Lib.hid hf5
            have J := Lib.hid inv
            clear inv hf hf5 hx
            go_wp2_with (first
              | (go_at_call 15; (with_reducible refine z1.mono ?_); (rintro e w' ⟨rfl, rfl⟩))
              | (go_at_call 16; (with_reducible refine z2.mono ?_); (rintro e w' ⟨rfl, rfl⟩)))
            exact ⟨⟨f + 1, by go_num, by have := HF.out; omega, J.out⟩, by have := HF.out; simp [vQ]; omega⟩
          · have hle : ¬ (f : Int) - 1 ≤ 3 := by omega
            have J := Lib.hid inv
            clear inv hf hf5
            go_wp2
            refine ⟨⟨i + 1, good2, by rw [← HL.out.1]; exact NX.out.1, by go_num, ?_⟩, by have := HI.out.1; have := HL.out.2; simp [vI]; omega⟩
            rw [NX.out.2]
            exact J.out
/-- ClockScript, whatever comes in -/
theorem ckScript_any (hA : TksAt w w.heap.size A l) : Calls Try.prog 3 #[.agg (t3Cells t).toArray, .slice A l.length c] w fun e w' => e = .returned (.bool true) ∧ Below w.heap.size w w' := by
  by_cases he : Btw 0 M t
  · by_cases hl : l.length ≤ 100
    · exact ckScript_main he hl hA
    · exact ckScript_long he (by omega)
  · exact ckScript_none he
end
end Go.Proofs.Ytfopjilncfndnaa
