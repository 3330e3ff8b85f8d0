/-
  The walk of SessionRoad. Conditions: the table of crc lies as the program's text lays it; what came in can be read.
-/
import Derived.Test.YtccghodmcfkmmaaDoorSsRoadR
import Derived.Test.YtccghodmcfkmmaaDoorBa
namespace Go.Proofs.YtccghodmcfkmmaaDoor
open Go.RowKit Fix

def vR : Value → Nat
  | .int _ q => q.toNat
  | _ => 0
theorem wrap_u8 (i : Nat) (h : i < 16) : IntKind.u8.wrap (i : Int) = (i : Int) := by
  rcases (show i = 0 ∨ i = 1 ∨ i = 2 ∨ i = 3 ∨ i = 4 ∨ i = 5 ∨ i = 6 ∨ i = 7 ∨ i = 8 ∨ i = 9 ∨ i = 10 ∨ i = 11 ∨ i = 12 ∨ i = 13 ∨ i = 14 ∨ i = 15 by omega) with rfl | rfl | rfl | rfl | rfl | rfl | rfl | rfl | rfl | rfl | rfl | rfl | rfl | rfl | rfl | rfl <;> rfl
theorem one_own (w : World) (i : Nat) (h : i < 16) : OwnB (w.alloc (.cells #[.int .u8 (i : Int)] 5)) w.heap.size (.slice (some ⟨w.heap.size, 0, none⟩) 1 1) [UInt8.ofNat i] := by
  refine ⟨rfl, .inr ⟨w.heap.size, 1, #[.int .u8 (i : Int)], rfl, Nat.le_refl _, heap_alloc_new w _, Nat.le_refl _, by unfold maxLen; omega, rfl, ?_⟩⟩
  simp [cellsOfBytes]
  omega
theorem rd_head {w : World} {B : Nat} {A : Option Addr} {ms : List RowM} {k : Nat} (hk : k < 16) (h : BytesAt w B A (rdP ms k)) : ∃ ad, A = some ad ∧ w.cell? ad = some (.int .u8 (k : Int)) := by
  obtain ⟨ad, e, _, hc⟩ := h (by unfold rdP; simp)
  have h0 := hc 0 (by unfold rdP; simp)
  have e0 : ad.add 0 = ad := by cases ad; rfl
  rw [e0] at h0
  refine ⟨ad, e, h0.trans ?_⟩
  have : ((UInt8.ofNat k).toNat : Int) = (k : Int) := by rw [UInt8.toNat_ofNat']; omega
  show some (Value.int IntKind.u8 ((UInt8.ofNat k).toNat : Int)) = _
  rw [this]
theorem upd_le {C : Nat → Bool} {k j : Nat} (h : C j = true) : upd C k j = true := by
  unfold upd
  split
  · rfl
  · exact h
theorem rd_frame {w5 wr w6 w7 : World} {a b B : Nat} (h : Frame (fun j => j < B) w5 wr) (h2 : Frame (AB a b) wr w6) (ha : a < B) (hb : b < B) (h3 : Below w6.heap.size w6 w7) : Frame (fun j => j < B) w5 w7 :=
  (h.trans h2 fun j e => .inl (by rcases e with e | e <;> omega)).trans (Frame.of_below (F := fun j => j < B) h3) fun j e => .inl e
set_option maxRecDepth 100000 in
set_option maxHeartbeats 4000000 in
theorem road_any (A0 : Option Addr) (ms : List RowM) (c0 : Nat) (A1 : Option Addr) (lb : List Bool) (c1 : Nat) (w : World) (ht : TabAt w)
    (hr0 : RowsAt w w.heap.size A0 ms) (hr1 : RowAt w w.heap.size A1 (lb.map Value.bool)) :
    Calls Tryd.prog 7 #[.slice A0 ms.length c0, .slice A1 lb.length c1] w fun e w' => e = .returned (.bool true) ∧ Below w.heap.size w w' := by
  have za := awake_any w ht
  have z1 := fun w1 => new_at 7 7 rfl w1 (by decide) (by decide)
  have z2 := fun w1 => new_at 3 3 rfl w1 (by decide) (by decide)
  obtain ⟨n, hn⟩ : ∃ n, n = ms.length := ⟨_, rfl⟩
  obtain ⟨nl, hnl⟩ : ∃ n, n = lb.length := ⟨_, rfl⟩
  rw [← hn, ← hnl]
  by_cases h16 : 16 < n
  · have i0 : (16 : Int) < (n : Int) := by omega
    have HT := Lib.hid ht
    clear hr0 hr1 hn hnl ht h16
    go_enter Tryd.func7, Tryd.ntmps7
    go_wp2_with (first
      | (go_at_call 12; refine za.mono ?_; (rintro e w1 ⟨rfl, X⟩; have H1 := Lib.hid X; clear X))
      | (go_at_call 10; first
        | ((with_reducible refine (z1 w1).mono ?_); (rintro e w2 ⟨rfl, S2, B2⟩; have H2 := Lib.hid B2; clear S2 B2))
        | ((with_reducible refine (z2 w2).mono ?_); (rintro e w3 ⟨rfl, S3, B3⟩; have H3 := Lib.hid B3; clear S3 B3))))
    go_ret
    exact ⟨rfl, step_trans (step_trans H1.out H2.out) H3.out⟩
  have i0 : ¬ (16 : Int) < (n : Int) := by omega
  have hmk := fun v => make_row elBl n n (Nat.le_refl _) (by omega) (by unfold maxLen; omega) v
  obtain ⟨oc, hoc⟩ : ∃ o, o = Obj.cells (List.replicate n (Value.bool false)).toArray 4 := ⟨_, rfl⟩
  rw [← hoc] at hmk
  have HC := Lib.hid hoc
  have HR0 := Lib.hid (And.intro hr0 hn)
  have HR1 := Lib.hid (And.intro hr1 hnl)
  have HN := Lib.hid (show n ≤ 16 by omega)
  have HT := Lib.hid ht
  clear hr0 hr1 hn hnl ht h16 hoc
  go_enter Tryd.func7, Tryd.ntmps7
  go_wp2_with (first
    | (go_at_call 12; refine za.mono ?_; (rintro e w1 ⟨rfl, X⟩; have H1 := Lib.hid (And.intro X (HT.out.below X (Nat.le_refl _))); clear X))
    | (go_at_call 10; first
      | ((with_reducible refine (z1 w1).mono ?_); (rintro e w2 ⟨rfl, S2, B2⟩; have H2 := Lib.hid (And.intro S2 B2); clear S2 B2))
      | ((with_reducible refine (z2 w2).mono ?_); (rintro e w3 ⟨rfl, S3, B3⟩; have H3 := Lib.hid (And.intro S3 B3); clear S3 B3))))
  clear za z1 z2
  have hs2 := H2.out.2.size
  have hs12 := H2.out.1.blt
  have hs3 := H3.out.1.blt
  have T : Ro w1 (w3.alloc oc) w1.heap.size w2.heap.size w3.heap.size n 0 ms (fun _ => false) := by
    have B := (Below.refl _ w3).alloc (Nat.le_refl _) oc
    refine ⟨((bt_new H1.out.2 H2.out.2 _ H2.out.1 (Nat.le_refl _) H3.out.1 H3.out.2).weak (fun s e => by subst e; exact ⟨rfl, rfl, rfl, rfl⟩) (fun s e => by subst e; exact rb_new)).wrote (Frame.of_below B) fun j hj => .inr ⟨by omega, by rw [hj]; simp⟩, ?_⟩
    rw [HC.out, rdC_none]
    exact BlkR.new w3 _ _
  obtain ⟨a, ha⟩ : ∃ a, a = w1.heap.size := ⟨_, rfl⟩
  obtain ⟨b, hb⟩ : ∃ b, b = w2.heap.size := ⟨_, rfl⟩
  obtain ⟨g, hg⟩ : ∃ b, b = w3.heap.size := ⟨_, rfl⟩
  rw [← ha, ← hb, ← hg] at T
  generalize w3.alloc oc = W4 at T ⊢
  have HI := Lib.hid T
  rw [← ha, ← hb, ← hg]
  clear T ha hb hg hs2 hs12 hs3 H2 H3 HC hmk
  go_loopw [11] (fun ix wr => ∃ i : Nat, ix = .int .i64 (i : Int) ∧ i ≤ n ∧ Ro w1 wr a b g n i ms (fun _ => false)) (fun ix _ => 17 - vR ix)
  case atStart => exact ⟨0, rfl, Nat.zero_le _, HI.out⟩
  case round =>
    obtain ⟨i, rfl, hi, inv⟩ := hrel
    clear HI
    by_cases hlt : i < n
    · obtain ⟨m, hm⟩ : ∃ m, ms[i]? = some m := ⟨_, List.getElem?_eq_getElem (by rw [← HR0.out.2]; exact hlt)⟩
      have hmem := List.mem_of_getElem? hm
      obtain ⟨ad, rfl, hadb, hca⟩ := HR0.out.1.at_.at_ (k := i) (u := rowCell m) (by simp [hm])
      have YA := Lib.hid (fun (w' : World) (hb : Below w1.heap.size w1 w') => ((step_trans H1.out.1 hb).cell (p := ad.add i) (by rw [block_add]; exact hadb)).trans hca)
      unfold rowCell at YA
      have XA : BytesAt w1 w1.heap.size m.A m.b := ((HR0.out.1.b m hmem).below H1.out.1).more H1.out.1.size
      have eP : rdP ms i = [UInt8.ofNat i] ++ m.b := by unfold rdP; rw [hm]; rfl
      obtain ⟨q, hq⟩ : ∃ q, q = m.b.length := ⟨_, rfl⟩
      rw [← hq] at YA
      have y := YA.out wr inv.fr
      have y2 := YA.out (wr.alloc (.cells #[.int .u8 (i : Int)] 5)) (inv.fr.alloc inv.fr.size _)
      have hlt' : (i : Int) < (n : Int) := by omega
      by_cases h100 : 100 < q
      · have hq1 : (100 : Int) < (q : Int) := by omega
        have M := Lib.hid (step_trans H1.out.1 inv.fr)
        clear inv hq hm hca hlt hi h100 eP
        go_wp2
        go_ret
        exact ⟨rfl, M.out⟩
      have hq1 : ¬ (100 : Int) < (q : Int) := by omega
      have hi16 : i < 16 := by have := HN.out; omega
      have hcv := wrap_u8 i hi16
      have hw1 : IntKind.i64.wrap ((i : Int) + 1) = (i : Int) + 1 := IntWalk.i64_in _ (by omega)
      have HQ := Lib.hid (And.intro hq.symm (And.intro (show q ≤ 100 by omega) (And.intro XA (And.intro eP (And.intro hlt hi16)))))
      have HO := Lib.hid (one_own wr i hi16)
      have HV := Lib.hid inv
      have hll : ([UInt8.ofNat i] ++ m.b).length = q + 1 := by rw [List.length_append, ← hq]; simp; omega
      have HL := Lib.hid hll
      have zw : ∀ v (k : Ro w1 v a b g n (i + 1) ms (fun _ => false)), _ := fun v k => ro_waiting k
      rw [show ((i + 1 : Nat) : Int) = (i : Int) + 1 from by omega] at zw
      clear inv hq hm hca hlt hi h100 eP hi16 hll
      go_wp2_with (first
        | (at_builtin; refine wpList_appendB rfl (.tmp 72) (.tmp 76) 39 rfl rfl wr.heap.size _ [UInt8.ofNat i] rfl HO.out m.A m.b q m.cb w1.heap.size rfl HQ.out.1 (HQ.out.2.2.1.below (HV.out.fr.alloc HV.out.fr.size _)) (by have := HQ.out.1; have := HQ.out.2.1; simp; omega) (by simp) ?_; (intro v6 w6 ho hg6 hat; have B6 : Below wr.heap.size wr w6 := ((Below.refl _ wr).alloc (Nat.le_refl _) _).grown hg6 (by simp) (fun j hj => (HO.out.lt j hj).1); obtain ⟨A6, c6, rfl, hc6⟩ := ho.form; rw [HL.out] at ho hc6 ⊢; have H6 := Lib.hid (And.intro ho (And.intro hc6 B6)); clear ho hg6 hat hc6 B6))
        | (go_at_call 17; (with_reducible refine (ro_send (HV.out.step H6.out.2.2) HQ.out.2.2.2.2.2 A6 (q + 1) c6 ?_ ?_ ?_).mono ?_); rotate_left 3; (rintro e w7 ⟨A7, c7, rfl, k1⟩; have H7 := Lib.hid k1; clear k1))
        | (go_at_call 16; (with_reducible refine (zw w7 H7.out).mono ?_); (rintro e v ⟨rfl, rfl⟩)))
      · exact ⟨⟨i + 1, by go_num, HQ.out.2.2.2.2.1, H7.out⟩, by have := HQ.out.2.2.2.2.2; simp [vR]; omega⟩
      · rw [HQ.out.2.2.2.1]; exact HL.out
      · have := HQ.out.2.1; omega
      · rw [HQ.out.2.2.2.1]
        have hlow := HV.out.low
        exact ⟨H6.out.1.bytes, fun ad e _ => by subst e; have := (H6.out.1.lt ad.block rfl).1; exact ⟨by omega, by omega⟩⟩
    -- all were sent
    obtain rfl : i = n := by omega
    have hii : ¬ (i : Int) < (i : Int) := by omega
    have HI := Lib.hid inv
    clear inv hlt hi
    go_wp2
    go_loopw [14, 15, 16] (fun at_ my ix wr => ∃ (r t : Nat) (C : Nat → Bool), at_ = .int .i64 (t : Int) ∧ t ≤ 16 * r ∧ my = .int .i64 (rdN i C : Int) ∧ ix = .int .i64 (r : Int) ∧ r ≤ i ∧ Ro w1 wr a b g i i ms C ∧ ∀ j, j < r → C j = true) (fun _ _ ix _ => 17 - vR ix)
    case atStart => exact ⟨0, 0, fun _ => false, rfl, Nat.le_refl _, by rw [rdN_zero]; rfl, rfl, Nat.zero_le _, HI.out, fun j hj => by omega⟩
    case round =>
      obtain ⟨r, t, C, rfl, htr, rfl, rfl, hr, inv, hCr⟩ := hrel
      clear HI
      by_cases hlt : r < i
      · have hlt' : (r : Int) < (i : Int) := by omega
        have hw1 : IntKind.i64.wrap ((r : Int) + 1) = (r : Int) + 1 := IntWalk.i64_in _ (by have := HN.out; omega)
        have zr := ro_resend inv
        have zw : ∀ v (k : Ro w1 v a b g i i ms C), _ := fun v k => ro_waiting k
        have eii : ((i : Int) == (i : Int)) = true := beq_self_eq_true _
        have HV := Lib.hid (And.intro inv (And.intro htr (And.intro hCr hlt)))
        clear inv htr hCr hlt hr
        go_wp2_with (first
          | (go_at_call 20; (with_reducible refine zr.mono ?_); (rintro e w5 ⟨A5, c5, rfl, k1, k2, k3⟩; have H5 := Lib.hid (And.intro k1 (And.intro k2 k3)); clear k1 k2 k3))
          | (go_at_call 16; (with_reducible refine (zw w5 H5.out.2.1).mono ?_); (rintro e v ⟨rfl, rfl⟩)))
        clear zr zw
        obtain ⟨B, hB⟩ : ∃ B, B = wr.heap.size := ⟨_, rfl⟩
        have KA := Lib.hid (show a < B ∧ b < B ∧ g < B from ⟨by rw [hB]; exact HV.out.1.low.1, by rw [hB]; exact HV.out.1.low.2, by rw [hB]; exact HV.out.1.far.1⟩)
        have KL := H5.out.1
        rw [← hB] at KL
        have KL := Lib.hid KL
        have K5 := Lib.hid H5.out.2.1
        have KV := Lib.hid (And.intro HV.out.2.1 (And.intro HV.out.2.2.1 HV.out.2.2.2))
        clear HV H5 hB
        go_loopw [14, 15, 18] (fun at_ my ix wr => ∃ (k t2 : Nat) (C2 : Nat → Bool), at_ = .int .i64 (t2 : Int) ∧ t2 ≤ 16 * r + k ∧ my = .int .i64 (rdN i C2 : Int) ∧ ix = .int .i64 (k : Int) ∧ k ≤ i ∧ Ro w1 wr a b g i i ms C2 ∧ (∀ j, j < r → C2 j = true) ∧ (r < k → C2 r = true) ∧ Frame (fun j => j < B) w5 wr) (fun _ _ ix _ => 17 - vR ix)
        case atStart => exact ⟨0, t, C, rfl, KV.out.1, rfl, rfl, Nat.zero_le _, K5.out, KV.out.2.1, fun x => by omega, Frame.refl _ _⟩
        case round =>
          obtain ⟨k, t2, C2, rfl, ht2, rfl, rfl, hk, inv, hC1, hC2, fr⟩ := hrel
          clear K5
          by_cases hki : k < i
          · obtain ⟨m, hm⟩ : ∃ m, ms[k]? = some m := ⟨_, List.getElem?_eq_getElem (by rw [← HR0.out.2]; exact hki)⟩
            have hmem := List.mem_of_getElem? hm
            obtain ⟨ad, rfl, hadb, hca⟩ := HR0.out.1.at_.at_ (k := k) (u := rowCell m) (by simp [hm])
            have YA := Lib.hid (fun (w' : World) (hb : Below w1.heap.size w1 w') => ((step_trans H1.out.1 hb).cell (p := ad.add k) (by rw [block_add]; exact hadb)).trans hca)
            unfold rowCell at YA
            have XA : BytesAt w1 w1.heap.size m.A m.b := ((HR0.out.1.b m hmem).below H1.out.1).more H1.out.1.size
            have eP : rdP ms k = UInt8.ofNat k :: m.b := by unfold rdP; rw [hm]
            obtain ⟨q, hq⟩ : ∃ q, q = m.b.length := ⟨_, rfl⟩
            rw [← hq] at YA
            obtain ⟨g5, Ax, n1, cc, d, hA5, ho, hb7, hnum, hpay, hlen, hcc, hst⟩ := KL.out k (k + 1, rdP ms k) (by simp [rdW, hki])
            subst hA5
            have yl := (hst wr fr).1
            have hk16 : k < 16 := by have := HN.out; omega
            have hq1 : (rdP ms k).length = q + 1 := by rw [eP, hq]; rfl
            have hki' : (k : Int) < (i : Int) := by omega
            have HK := Lib.hid (And.intro hk16 (And.intro hq1 (And.intro (show q + 1 + 41 = n1 by rw [← hlen, hq1]) (And.intro hcc (And.intro ho (And.intro hb7 (And.intro hnum (And.intro hpay (hst wr fr).2))))))))
            have HM := Lib.hid (And.intro XA (And.intro eP hq.symm))
            have hwk : IntKind.i64.wrap ((k : Int) + 1) = (k : Int) + 1 := IntWalk.i64_in _ (by omega)
            have hwt : IntKind.i64.wrap ((t2 : Int) + 1) = (t2 : Int) + 1 := IntWalk.i64_in _ (by have := HN.out; have := KV.out.2.2; omega)
            have hwm : IntKind.i64.wrap ((rdN i C2 : Int) + 1) = (rdN i C2 : Int) + 1 := IntWalk.i64_in _ (by have := HN.out; have := rdN_le i C2; omega)
            have hwc : IntKind.i64.wrap (k : Int) = (k : Int) := IntWalk.i64_in _ (by omega)
            have ekk : ((k : Int) != (k : Int)) = false := by simp
            clear hq hm hca hk16 hq1 hlen hcc ho hb7 hnum hpay hst hk
            by_cases htl : t2 < nl
            · have htl' : (t2 : Int) < (nl : Int) := by omega
              obtain ⟨x, hx⟩ : ∃ x, lb[t2]? = some x := ⟨_, List.getElem?_eq_getElem (by rw [← HR1.out.2]; exact htl)⟩
              obtain ⟨bd, rfl, hbdb, hcb⟩ := HR1.out.1.at_ (k := t2) (u := .bool x) (by simp [hx])
              have z0 := ((step_trans H1.out.1 inv.fr).cell (p := bd.add t2) (by rw [block_add]; exact hbdb)).trans hcb
              clear hx hcb htl
              cases x with
              | true =>
                by_cases hkr : k = r
                · have ekr : ((k : Int) != (r : Int)) = false := by simp; omega
                  clear hkr
                  cases hCk : C2 k with
                  | true =>
                    have zo := ro_old inv k HK.out.1 Ax d (q + 1) n1 cc hCk HK.out.2.1 HK.out.2.2.1 HK.out.2.2.2.1 HK.out.2.2.2.2.1 HK.out.2.2.2.2.2.1 HK.out.2.2.2.2.2.2.1 HK.out.2.2.2.2.2.2.2.1 HK.out.2.2.2.2.2.2.2.2
                    have HX := Lib.hid (And.intro fr (And.intro hCk (And.intro hC1 (And.intro hC2 (And.intro ht2 hki)))))
                    clear inv fr hCk hC1 hC2 ht2 hki
                    go_wp2_with (go_at_call 19; (with_reducible refine zo.mono ?_); (rintro e w6 ⟨A6, c6, rfl, k1, k2⟩; have H6 := Lib.hid (And.intro k1 k2); clear k1 k2))
                    go_quiet (fail)
                    go_wp2
                    have BN := belowN (Below.refl w6.heap.size w6) nq
                    exact ⟨⟨k + 1, t2 + 1, C2, by go_num, by have := HX.out.2.2.2.2.1; omega, rfl, by go_num, HX.out.2.2.2.2.2, H6.out.1.step BN, HX.out.2.2.1, fun y => (by
                      by_cases e : r = k
                      · rw [e]; exact HX.out.2.1
                      · exact HX.out.2.2.2.1 (by omega)), rd_frame HX.out.1 H6.out.2 KA.out.1 KA.out.2.1 BN⟩, by have := HX.out.2.2.2.2.2; have := HN.out; simp [vR]; omega⟩
                  | false =>
                    have zn := ro_new inv k HK.out.1 Ax d (q + 1) n1 cc hCk HK.out.2.1 HK.out.2.2.1 HK.out.2.2.2.1 HK.out.2.2.2.2.1 HK.out.2.2.2.2.2.1 HK.out.2.2.2.2.2.2.1 HK.out.2.2.2.2.2.2.2.1 HK.out.2.2.2.2.2.2.2.2
                    have HX := Lib.hid (And.intro fr (And.intro hCk (And.intro hC1 (And.intro hC2 (And.intro ht2 hki)))))
                    clear inv fr hCk hC1 hC2 ht2 hki
                    go_wp2_with (go_at_call 19; (with_reducible refine zn.mono ?_); (rintro e w6 ⟨A6, c6, rfl, hc6, k1, k2, k3, k4⟩; obtain ⟨ad6, rfl, y0⟩ := rd_head HK.out.1 k3.at_; have yc := k2.cell (rdC_get C2 HX.out.2.2.2.2.2); rw [HX.out.2.1] at yc; have fz := k2.frozen k; have yt := YA.out w6 k1.fr; have H6 := Lib.hid (And.intro k1 (And.intro k2 (And.intro k3 (And.intro k4 hc6)))); clear k1 k2 k3 k4))
                    have e0 : ((q : Int) + 1 == 0) = false := by simp; omega
                    have hq2 : ∀ W, (Instr.slice 39 (.slice (some ad6) (q + 1) c6) (some (.int .i64 1)) none none).run Tryd.prog W = .ok (.slice (cutA (some ad6) 1 c6) q (c6 - 1)) W := fun W => cut_from (some ad6) (q + 1) c6 1 (by omega) W
                    have hx6 := H6.out.2.2.1.at_.drop 1 c6 (by rw [HK.out.2.1]; exact H6.out.2.2.2.2)
                    rw [HM.out.2.1, List.drop_succ_cons, List.drop_zero] at hx6
                    have hx7 := HM.out.1.step H6.out.1.fr
                    have zs := fun N => same_yes (cutA (some ad6) 1 c6) m.b q (c6 - 1) HM.out.2.2 m.A m.b q m.cb HM.out.2.2 (w6.drewN N) (hx6.drewN N) (hx7.drewN N) rfl
                    clear hx6 hx7
                    go_quiet ((go_at_call 27; with_reducible first | exact quietN (zs _) | exact quietA (zs _)))
                    go_wp2
                    have BN := belowN (Below.refl w6.heap.size w6) nq
                    exact ⟨⟨k + 1, t2 + 1, upd C2 k, by go_num, by have := HX.out.2.2.2.2.1; omega, by rw [rdN_upd i k C2 HX.out.2.2.2.2.2 HX.out.2.1]; rfl, by go_num, HX.out.2.2.2.2.2, ro_note (H6.out.1.step BN) (H6.out.2.1.below BN H6.out.2.1.lt), fun j hj => upd_le (HX.out.2.2.1 j hj), fun y => (by
                      by_cases e : r = k
                      · rw [e]; simp [upd]
                      · exact upd_le (HX.out.2.2.2.1 (by omega))), (rd_frame HX.out.1 H6.out.2.2.2.1 KA.out.1 KA.out.2.1 BN).trans ((Frame.refl (fun j => j = g) _).setAt ⟨g, k, none⟩ _ rfl) fun j e => .inl (by rw [e]; exact KA.out.2.2)⟩, by have := HX.out.2.2.2.2.2; have := HN.out; simp [vR]; omega⟩
                · have ekr : ((k : Int) != (r : Int)) = true := by simp; omega
                  have HX := Lib.hid (And.intro inv (And.intro fr (And.intro hC1 (And.intro hC2 (And.intro ht2 (And.intro hki hkr))))))
                  clear inv fr hC1 hC2 ht2 hki hkr
                  go_wp2
                  exact ⟨⟨k + 1, t2 + 1, C2, by go_num, by have := HX.out.2.2.2.2.1; omega, rfl, by go_num, HX.out.2.2.2.2.2.1, HX.out.1, HX.out.2.2.1, fun y => HX.out.2.2.2.1 (by have := HX.out.2.2.2.2.2.2; omega), HX.out.2.1⟩, by have := HX.out.2.2.2.2.2.1; have := HN.out; simp [vR]; omega⟩
              | false =>
                cases hCk : C2 k with
                | true =>
                  have zo := ro_old inv k HK.out.1 Ax d (q + 1) n1 cc hCk HK.out.2.1 HK.out.2.2.1 HK.out.2.2.2.1 HK.out.2.2.2.2.1 HK.out.2.2.2.2.2.1 HK.out.2.2.2.2.2.2.1 HK.out.2.2.2.2.2.2.2.1 HK.out.2.2.2.2.2.2.2.2
                  have HX := Lib.hid (And.intro fr (And.intro hCk (And.intro hC1 (And.intro hC2 (And.intro ht2 hki)))))
                  clear inv fr hCk hC1 hC2 ht2 hki
                  go_wp2_with (go_at_call 19; (with_reducible refine zo.mono ?_); (rintro e w6 ⟨A6, c6, rfl, k1, k2⟩; have H6 := Lib.hid (And.intro k1 k2); clear k1 k2))
                  go_quiet (fail)
                  go_wp2
                  have BN := belowN (Below.refl w6.heap.size w6) nq
                  exact ⟨⟨k + 1, t2 + 1, C2, by go_num, by have := HX.out.2.2.2.2.1; omega, rfl, by go_num, HX.out.2.2.2.2.2, H6.out.1.step BN, HX.out.2.2.1, fun y => (by
                    by_cases e : r = k
                    · rw [e]; exact HX.out.2.1
                    · exact HX.out.2.2.2.1 (by omega)), rd_frame HX.out.1 H6.out.2 KA.out.1 KA.out.2.1 BN⟩, by have := HX.out.2.2.2.2.2; have := HN.out; simp [vR]; omega⟩
                | false =>
                  have zn := ro_new inv k HK.out.1 Ax d (q + 1) n1 cc hCk HK.out.2.1 HK.out.2.2.1 HK.out.2.2.2.1 HK.out.2.2.2.2.1 HK.out.2.2.2.2.2.1 HK.out.2.2.2.2.2.2.1 HK.out.2.2.2.2.2.2.2.1 HK.out.2.2.2.2.2.2.2.2
                  have HX := Lib.hid (And.intro fr (And.intro hCk (And.intro hC1 (And.intro hC2 (And.intro ht2 hki)))))
                  clear inv fr hCk hC1 hC2 ht2 hki
                  go_wp2_with (go_at_call 19; (with_reducible refine zn.mono ?_); (rintro e w6 ⟨A6, c6, rfl, hc6, k1, k2, k3, k4⟩; obtain ⟨ad6, rfl, y0⟩ := rd_head HK.out.1 k3.at_; have yc := k2.cell (rdC_get C2 HX.out.2.2.2.2.2); rw [HX.out.2.1] at yc; have fz := k2.frozen k; have yt := YA.out w6 k1.fr; have H6 := Lib.hid (And.intro k1 (And.intro k2 (And.intro k3 (And.intro k4 hc6)))); clear k1 k2 k3 k4))
                  have e0 : ((q : Int) + 1 == 0) = false := by simp; omega
                  have hq2 : ∀ W, (Instr.slice 39 (.slice (some ad6) (q + 1) c6) (some (.int .i64 1)) none none).run Tryd.prog W = .ok (.slice (cutA (some ad6) 1 c6) q (c6 - 1)) W := fun W => cut_from (some ad6) (q + 1) c6 1 (by omega) W
                  have hx6 := H6.out.2.2.1.at_.drop 1 c6 (by rw [HK.out.2.1]; exact H6.out.2.2.2.2)
                  rw [HM.out.2.1, List.drop_succ_cons, List.drop_zero] at hx6
                  have hx7 := HM.out.1.step H6.out.1.fr
                  have zs := fun N => same_yes (cutA (some ad6) 1 c6) m.b q (c6 - 1) HM.out.2.2 m.A m.b q m.cb HM.out.2.2 (w6.drewN N) (hx6.drewN N) (hx7.drewN N) rfl
                  clear hx6 hx7
                  go_quiet ((go_at_call 27; with_reducible first | exact quietN (zs _) | exact quietA (zs _)))
                  go_wp2
                  have BN := belowN (Below.refl w6.heap.size w6) nq
                  exact ⟨⟨k + 1, t2 + 1, upd C2 k, by go_num, by have := HX.out.2.2.2.2.1; omega, by rw [rdN_upd i k C2 HX.out.2.2.2.2.2 HX.out.2.1]; rfl, by go_num, HX.out.2.2.2.2.2, ro_note (H6.out.1.step BN) (H6.out.2.1.below BN H6.out.2.1.lt), fun j hj => upd_le (HX.out.2.2.1 j hj), fun y => (by
                    by_cases e : r = k
                    · rw [e]; simp [upd]
                    · exact upd_le (HX.out.2.2.2.1 (by omega))), (rd_frame HX.out.1 H6.out.2.2.2.1 KA.out.1 KA.out.2.1 BN).trans ((Frame.refl (fun j => j = g) _).setAt ⟨g, k, none⟩ _ rfl) fun j e => .inl (by rw [e]; exact KA.out.2.2)⟩, by have := HX.out.2.2.2.2.2; have := HN.out; simp [vR]; omega⟩
            · have htl' : ¬ (t2 : Int) < (nl : Int) := by omega
              clear htl
              cases hCk : C2 k with
              | true =>
                have zo := ro_old inv k HK.out.1 Ax d (q + 1) n1 cc hCk HK.out.2.1 HK.out.2.2.1 HK.out.2.2.2.1 HK.out.2.2.2.2.1 HK.out.2.2.2.2.2.1 HK.out.2.2.2.2.2.2.1 HK.out.2.2.2.2.2.2.2.1 HK.out.2.2.2.2.2.2.2.2
                have HX := Lib.hid (And.intro fr (And.intro hCk (And.intro hC1 (And.intro hC2 (And.intro ht2 hki)))))
                clear inv fr hCk hC1 hC2 ht2 hki
                go_wp2_with (go_at_call 19; (with_reducible refine zo.mono ?_); (rintro e w6 ⟨A6, c6, rfl, k1, k2⟩; have H6 := Lib.hid (And.intro k1 k2); clear k1 k2))
                go_quiet (fail)
                go_wp2
                have BN := belowN (Below.refl w6.heap.size w6) nq
                exact ⟨⟨k + 1, t2 + 1, C2, by go_num, by have := HX.out.2.2.2.2.1; omega, rfl, by go_num, HX.out.2.2.2.2.2, H6.out.1.step BN, HX.out.2.2.1, fun y => (by
                  by_cases e : r = k
                  · rw [e]; exact HX.out.2.1
                  · exact HX.out.2.2.2.1 (by omega)), rd_frame HX.out.1 H6.out.2 KA.out.1 KA.out.2.1 BN⟩, by have := HX.out.2.2.2.2.2; have := HN.out; simp [vR]; omega⟩
              | false =>
                have zn := ro_new inv k HK.out.1 Ax d (q + 1) n1 cc hCk HK.out.2.1 HK.out.2.2.1 HK.out.2.2.2.1 HK.out.2.2.2.2.1 HK.out.2.2.2.2.2.1 HK.out.2.2.2.2.2.2.1 HK.out.2.2.2.2.2.2.2.1 HK.out.2.2.2.2.2.2.2.2
                have HX := Lib.hid (And.intro fr (And.intro hCk (And.intro hC1 (And.intro hC2 (And.intro ht2 hki)))))
                clear inv fr hCk hC1 hC2 ht2 hki
                go_wp2_with (go_at_call 19; (with_reducible refine zn.mono ?_); (rintro e w6 ⟨A6, c6, rfl, hc6, k1, k2, k3, k4⟩; obtain ⟨ad6, rfl, y0⟩ := rd_head HK.out.1 k3.at_; have yc := k2.cell (rdC_get C2 HX.out.2.2.2.2.2); rw [HX.out.2.1] at yc; have fz := k2.frozen k; have yt := YA.out w6 k1.fr; have H6 := Lib.hid (And.intro k1 (And.intro k2 (And.intro k3 (And.intro k4 hc6)))); clear k1 k2 k3 k4))
                have e0 : ((q : Int) + 1 == 0) = false := by simp; omega
                have hq2 : ∀ W, (Instr.slice 39 (.slice (some ad6) (q + 1) c6) (some (.int .i64 1)) none none).run Tryd.prog W = .ok (.slice (cutA (some ad6) 1 c6) q (c6 - 1)) W := fun W => cut_from (some ad6) (q + 1) c6 1 (by omega) W
                have hx6 := H6.out.2.2.1.at_.drop 1 c6 (by rw [HK.out.2.1]; exact H6.out.2.2.2.2)
                rw [HM.out.2.1, List.drop_succ_cons, List.drop_zero] at hx6
                have hx7 := HM.out.1.step H6.out.1.fr
                have zs := fun N => same_yes (cutA (some ad6) 1 c6) m.b q (c6 - 1) HM.out.2.2 m.A m.b q m.cb HM.out.2.2 (w6.drewN N) (hx6.drewN N) (hx7.drewN N) rfl
                clear hx6 hx7
                go_quiet ((go_at_call 27; with_reducible first | exact quietN (zs _) | exact quietA (zs _)))
                go_wp2
                have BN := belowN (Below.refl w6.heap.size w6) nq
                exact ⟨⟨k + 1, t2 + 1, upd C2 k, by go_num, by have := HX.out.2.2.2.2.1; omega, by rw [rdN_upd i k C2 HX.out.2.2.2.2.2 HX.out.2.1]; rfl, by go_num, HX.out.2.2.2.2.2, ro_note (H6.out.1.step BN) (H6.out.2.1.below BN H6.out.2.1.lt), fun j hj => upd_le (HX.out.2.2.1 j hj), fun y => (by
                  by_cases e : r = k
                  · rw [e]; simp [upd]
                  · exact upd_le (HX.out.2.2.2.1 (by omega))), (rd_frame HX.out.1 H6.out.2.2.2.1 KA.out.1 KA.out.2.1 BN).trans ((Frame.refl (fun j => j = g) _).setAt ⟨g, k, none⟩ _ rfl) fun j e => .inl (by rw [e]; exact KA.out.2.2)⟩, by have := HX.out.2.2.2.2.2; have := HN.out; simp [vR]; omega⟩
          obtain rfl : k = i := by omega
          have hkk : ¬ (k : Int) < (k : Int) := by omega
          have HX := Lib.hid (And.intro inv (And.intro hC1 (And.intro hC2 ht2)))
          clear inv fr hC1 hC2 ht2 hki hk
          go_wp2
          exact ⟨⟨r + 1, t2, C2, rfl, by have := HX.out.2.2.2; have := HN.out; omega, rfl, by go_num, KV.out.2.2, HX.out.1, fun j hj => (by
            by_cases e : j = r
            · rw [e]; exact HX.out.2.2.1 KV.out.2.2
            · exact HX.out.2.1 j (by omega))⟩, by have := KV.out.2.2; have := HN.out; simp [vR]; omega⟩
      obtain rfl : r = i := by omega
      have hrr : ¬ (r : Int) < (r : Int) := by omega
      have hN : rdN r C = r := rdN_all hCr
      have za := ro_ack inv
      have HX := Lib.hid hCr
      clear inv hlt hr hCr htr
      rw [hN]
      have err : ((r : Int) == (r : Int)) = true := beq_self_eq_true _
      clear hN
      go_wp2_with (first
        | (go_at_call 18; (with_reducible refine za.mono ?_); (rintro e w6 ⟨A6, c6, s6, rfl, hc6, k1, k2, k3, k4⟩; have zl := ro_last k3 HN.out HX.out A6 s6 k1 k2 c6 hc6 k4; clear k1 k2 k3 k4))
        | (go_at_call 25; (with_reducible refine zl.mono ?_); (rintro e w7 ⟨rfl, k1⟩; have H7 := Lib.hid k1; clear k1))
        | (go_at_call 16; (with_reducible refine (bt_waiting H7.out 0 fun _ k => k).mono ?_); (rintro e v ⟨rfl, rfl⟩)))
      go_ret
      exact ⟨rfl, step_trans H1.out.1 H7.out.fr⟩
end Go.Proofs.YtccghodmcfkmmaaDoor
