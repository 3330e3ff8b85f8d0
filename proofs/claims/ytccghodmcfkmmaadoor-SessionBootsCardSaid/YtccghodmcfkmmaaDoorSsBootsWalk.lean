/-
  The walk of SessionBoots. Conditions: the table of crc lies as the program's text lays it; what came in can be read.
-/
import Derived.Test.YtccghodmcfkmmaaDoorSsBootsM
import Derived.Test.YtccghodmcfkmmaaDoorBa
namespace Go.Proofs.YtccghodmcfkmmaaDoor
open Go.RowKit Fix

def vB : Value → Nat
  | .int _ q => q.toNat
  | _ => 0
set_option maxRecDepth 100000 in
theorem boots_long (A0 : Option Addr) (n0 c0 : Nat) (A1 : Option Addr) (n1 c1 : Nat) (A2 : Option Addr) (n2 c2 : Nat) (w : World) (ht : TabAt w) (h : 40 < n0 ∨ 16 < n1 ∨ 60 < n2) :
    Calls Tryd.prog 6 #[.slice A0 n0 c0, .slice A1 n1 c1, .slice A2 n2 c2] w fun e w' => e = .returned (.bool true) ∧ Below w.heap.size w w' := by
  have za := awake_any w ht
  clear ht
  by_cases h0 : 40 < n0
  · have i0 : (40 : Int) < (n0 : Int) := by omega
    clear h h0
    go_enter Tryd.func6, Tryd.ntmps6
    go_wp2_with (go_at_call 12; refine za.mono ?_; (rintro e w2 ⟨rfl, X⟩; have HB := Lib.hid X; clear X))
    go_ret
    exact ⟨rfl, HB.out⟩
  have i0 : ¬ (40 : Int) < (n0 : Int) := by omega
  by_cases h1 : 16 < n1
  · have i1 : (16 : Int) < (n1 : Int) := by omega
    clear h h0 h1
    go_enter Tryd.func6, Tryd.ntmps6
    go_wp2_with (go_at_call 12; refine za.mono ?_; (rintro e w2 ⟨rfl, X⟩; have HB := Lib.hid X; clear X))
    go_ret
    exact ⟨rfl, HB.out⟩
  have i1 : ¬ (16 : Int) < (n1 : Int) := by omega
  have i2 : (60 : Int) < (n2 : Int) := by omega
  clear h h0 h1
  go_enter Tryd.func6, Tryd.ntmps6
  go_wp2_with (go_at_call 12; refine za.mono ?_; (rintro e w2 ⟨rfl, X⟩; have HB := Lib.hid X; clear X))
  go_ret
  exact ⟨rfl, HB.out⟩
set_option maxRecDepth 100000 in
set_option maxHeartbeats 4000000 in
theorem boots_any (A0 : Option Addr) (ms0 : List RowM) (c0 : Nat) (A1 : Option Addr) (ms1 : List RowM) (c1 : Nat) (A2 : Option Addr) (l2 : List Int) (c2 : Nat) (w : World) (ht : TabAt w)
    (hr0 : RowsAt w w.heap.size A0 ms0) (hr1 : RowsAt w w.heap.size A1 ms1) (hr2 : RowAt w w.heap.size A2 (iv l2)) (hl2 : ∀ x ∈ l2, -9223372036854775808 ≤ x ∧ x ≤ 9223372036854775807) (h0 : ms0.length ≤ 40) (h1 : ms1.length ≤ 16) (h2 : l2.length ≤ 60) :
    Calls Tryd.prog 6 #[.slice A0 ms0.length c0, .slice A1 ms1.length c1, .slice A2 l2.length c2] w fun e w' => e = .returned (.bool true) ∧ Below w.heap.size w w' := by
  have za := awake_any w ht
  have z1 := fun w1 => new_at 3 3 rfl w1 (by decide) (by decide)
  have z2 := fun w1 => new_at 9 9 rfl w1 (by decide) (by decide)
  have z3 := fun w1 => new_at 4 4 rfl w1 (by decide) (by decide)
  obtain ⟨n0, hn0⟩ : ∃ n, n = ms0.length := ⟨_, rfl⟩
  obtain ⟨n1, hn1⟩ : ∃ n, n = ms1.length := ⟨_, rfl⟩
  obtain ⟨n2, hn2⟩ : ∃ n, n = l2.length := ⟨_, rfl⟩
  rw [← hn0] at h0 ⊢
  rw [← hn1] at h1 ⊢
  rw [← hn2] at h2 ⊢
  have i0 : ¬ (40 : Int) < (n0 : Int) := by omega
  have i1 : ¬ (16 : Int) < (n1 : Int) := by omega
  have i2 : ¬ (60 : Int) < (n2 : Int) := by omega
  have HR0 := Lib.hid (And.intro hr0 hn0)
  have HR1 := Lib.hid (And.intro hr1 hn1)
  have HR2 := Lib.hid (And.intro hr2 (And.intro hn2 hl2))
  have HN := Lib.hid (And.intro h0 (And.intro h1 h2))
  have HT := Lib.hid ht
  clear hr0 hr1 hr2 hl2 hn0 hn1 hn2 h0 h1 h2 ht
  go_enter Tryd.func6, Tryd.ntmps6
  go_wp2_with (first
    | (go_at_call 12; refine za.mono ?_; (rintro e w1 ⟨rfl, X⟩; have H1 := Lib.hid (And.intro X (HT.out.below X (Nat.le_refl _))); clear X))
    | (go_at_call 10; first
      | ((with_reducible refine (z1 w1).mono ?_); (rintro e w2 ⟨rfl, S2, B2⟩; have H2 := Lib.hid (And.intro S2 B2); clear S2 B2))
      | ((with_reducible refine (z2 w2).mono ?_); (rintro e w3 ⟨rfl, S3, B3⟩; have H3 := Lib.hid (And.intro S3 B3); clear S3 B3))))
  clear za z1 z2
  -- both begin
  have hs2 := H2.out.2.size
  have hs3 := H3.out.1.blt
  have hs12 := H2.out.1.blt
  have T3 : Bo1 w1 w3 w3.heap.size w1.heap.size w2.heap.size 0 (.slice none 0 0) [] := ⟨(bt_new H1.out.2 H2.out.2 _ H2.out.1 (Nat.le_refl _) H3.out.1 H3.out.2).weak (fun s e => by subst e; exact ⟨rfl, rfl, Nat.zero_le _, fun e => by cases e⟩) (fun s e => by subst e; exact ⟨rfl, rfl, Nat.zero_le _, fun e => by cases e⟩) |>.wrote (Frame.refl _ _) (fun j e => by cases e), rfl, ⟨OwnR.nil_, fun v hv => by cases hv⟩, by omega, by omega, Nat.le_refl _⟩
  obtain ⟨a, ha⟩ : ∃ a, a = w1.heap.size := ⟨_, rfl⟩
  obtain ⟨b, hb⟩ : ∃ b, b = w2.heap.size := ⟨_, rfl⟩
  rw [← ha, ← hb] at T3
  have HA := Lib.hid (show a < w3.heap.size ∧ b < w3.heap.size from ⟨by omega, by omega⟩)
  have HI := Lib.hid T3
  rw [← ha, ← hb]
  clear T3 ha hb hs2 hs3 hs12 H2 H3
  go_loopw [12, 13] (fun vx ix wr => ∃ (i : Nat) (vs : List Value), ix = .int .i64 (i : Int) ∧ i ≤ n0 ∧ Bo1 w1 wr w3.heap.size a b i vx vs) (fun _ ix _ => 41 - vB ix)
  case atStart => exact ⟨0, [], rfl, Nat.zero_le _, HI.out⟩
  case round =>
    obtain ⟨i, vs, rfl, hi, inv⟩ := hrel
    clear HI
    by_cases hlt : i < n0
    · obtain ⟨m, hm⟩ : ∃ m, ms0[i]? = some m := ⟨_, List.getElem?_eq_getElem (by rw [← HR0.out.2]; exact hlt)⟩
      have hmem := List.mem_of_getElem? hm
      obtain ⟨ad, rfl, hadb, hca⟩ := HR0.out.1.at_.at_ (k := i) (u := rowCell m) (by simp [hm])
      have YA := Lib.hid (fun (w' : World) (hb : Below w1.heap.size w1 w') => ((step_trans H1.out.1 hb).cell (p := ad.add i) (by rw [block_add]; exact hadb)).trans hca)
      unfold rowCell at YA
      have XA : BytesAt w1 w1.heap.size m.A m.b := ((HR0.out.1.b m hmem).below H1.out.1).more H1.out.1.size
      obtain ⟨q, hq⟩ : ∃ q, q = m.b.length := ⟨_, rfl⟩
      rw [← hq] at YA
      have y := YA.out wr inv.bt.fr
      have hlt' : (i : Int) < (n0 : Int) := by omega
      by_cases h100 : 100 < q
      · have hq1 : (100 : Int) < (q : Int) := by omega
        have M := Lib.hid (step_trans H1.out.1 inv.bt.fr)
        clear inv hq hm hca hlt hi h100
        go_wp2
        go_ret
        exact ⟨rfl, M.out⟩
      have hq1 : ¬ (100 : Int) < (q : Int) := by omega
      have hw1 : IntKind.i64.wrap ((i : Int) + 1) = (i : Int) + 1 := IntWalk.i64_in _ (by have := HN.out.1; omega)
      have za := fun P n c hn h100 hi hP => bo_send_a (p := m.b) inv P n c hn h100 hi hP
      have HQ := Lib.hid (And.intro hq.symm (And.intro (show q ≤ 100 by omega) (And.intro (show i < 1000 by have := HN.out.1; omega) (And.intro XA (And.intro (And.intro inv.ab.1 inv.ab.2.1) hlt)))))
      have za := za m.A q m.cb HQ.out.1 HQ.out.2.1 HQ.out.2.2.1 HQ.out.2.2.2.1
      have HL := Lib.hid inv.len
      clear inv hq hm hca hlt hi h100
      go_wp2_with (first
        | (go_at_call 17; first
          | ((with_reducible refine za.mono ?_); (rintro e w4 ⟨A4, c4, d4, rfl, hc4, k3, k4, k5, k6, k7, k8⟩; have y4 := YA.out w4 k3.fr; have H4 := Lib.hid (And.intro k3 (And.intro k4 (And.intro k5 (And.intro k6 (And.intro k7 k8))))); clear k3 k4 k5 k6 k7 k8))
          | ((with_reducible refine (bo_send_b HL.out HQ.out.2.2.2.2.1 A4 d4 H4.out.1 H4.out.2.1 H4.out.2.2.1 H4.out.2.2.2.1 H4.out.2.2.2.2.1 H4.out.2.2.2.2.2 m.A q m.cb HQ.out.1 HQ.out.2.1 HQ.out.2.2.1 HQ.out.2.2.2.1).mono ?_); (rintro e w5 ⟨A5, c5, d5, rfl, hc5, k1⟩; have y5 := YA.out w5 k1.bt.fr; have H5 := Lib.hid k1; clear k1)))
        | (go_at_call 24; first
          | ((with_reducible refine (bo_gets_b H5.out m.A q m.cb c4 HQ.out.1 hc4 HQ.out.2.2.2.1).mono ?_); (rintro e w6 ⟨rfl, k1⟩; have y6 := YA.out w6 k1.bt.fr; have H6 := Lib.hid k1; clear k1))
          | ((with_reducible refine (bo_gets_a H6.out m.A q m.cb c5 HQ.out.1 hc5 HQ.out.2.2.2.1).mono ?_); (rintro e w7 ⟨rfl, k1⟩; have H7 := Lib.hid k1; clear k1))
          | ((with_reducible refine (bo_gets_a H5.out m.A q m.cb c5 HQ.out.1 hc5 HQ.out.2.2.2.1).mono ?_); (rintro e w7 ⟨rfl, k1⟩; have H7 := Lib.hid k1; clear k1)))
        | (at_builtin; first
          | (refine wpList_appendR rfl (.tmp 129) (.tmp 131) elDs rfl w3.heap.size _ vs rfl (H7.out.way.own.alloc _) _ [.slice A4 (q + 41) c4] 1 1 (w7.heap.size + 1) rfl rfl ((BlkR.new w7 [.slice A4 (q + 41) c4] 39).row ⟨[], rfl⟩ (Nat.lt_succ_self _)) (fun u hu => by simp at hu; rw [hu]; rfl) (by have := HL.out; have := HQ.out.2.2.1; unfold maxLen; simp; omega) (by have := HL.out; have := HQ.out.2.2.1; simp; omega) (by have := H7.out.ab.2.2; simp; omega) ?_)
          | (refine wpList_appendR rfl (.tmp 129) (.tmp 131) elDs rfl w3.heap.size _ vs rfl (H6.out.way.own.alloc _) _ [.slice A4 (q + 41) c4] 1 1 (w6.heap.size + 1) rfl rfl ((BlkR.new w6 [.slice A4 (q + 41) c4] 39).row ⟨[], rfl⟩ (Nat.lt_succ_self _)) (fun u hu => by simp at hu; rw [hu]; rfl) (by have := HL.out; have := HQ.out.2.2.1; unfold maxLen; simp; omega) (by have := HL.out; have := HQ.out.2.2.1; simp; omega) (by have := H6.out.ab.2.2; simp; omega) ?_)
          | (refine wpList_appendR rfl (.tmp 129) (.tmp 131) elDs rfl w3.heap.size _ vs rfl (H5.out.way.own.alloc _) _ [.slice A4 (q + 41) c4] 1 1 (w5.heap.size + 1) rfl rfl ((BlkR.new w5 [.slice A4 (q + 41) c4] 39).row ⟨[], rfl⟩ (Nat.lt_succ_self _)) (fun u hu => by simp at hu; rw [hu]; rfl) (by have := HL.out; have := HQ.out.2.2.1; unfold maxLen; simp; omega) (by have := HL.out; have := HQ.out.2.2.1; simp; omega) (by have := H5.out.ab.2.2; simp; omega) ?_)); (intro v' w' ho hg hat))
      all_goals first
        | exact ⟨⟨i + 1, _, by go_num, HQ.out.2.2.2.2.2, bo_push H7.out (by omega) (by omega) (by rw [HQ.out.1]) hc4 _ hg ho hat⟩, by have := HQ.out.2.2.2.2.2; have := HN.out.1; simp [vB]; omega⟩
        | exact ⟨⟨i + 1, _, by go_num, HQ.out.2.2.2.2.2, bo_push H6.out (by omega) (by omega) (by rw [HQ.out.1]) hc4 _ hg ho hat⟩, by have := HQ.out.2.2.2.2.2; have := HN.out.1; simp [vB]; omega⟩
        | exact ⟨⟨i + 1, _, by go_num, HQ.out.2.2.2.2.2, bo_push H5.out (by omega) (by omega) (by rw [HQ.out.1]) hc4 _ hg ho hat⟩, by have := HQ.out.2.2.2.2.2; have := HN.out.1; simp [vB]; omega⟩
    -- the old ones have gone
    obtain rfl : i = n0 := by omega
    have hii : ¬ (i : Int) < (i : Int) := by omega
    obtain ⟨Aw, cw, hu, hcw, _⟩ := inv.way.own.form
    rw [inv.len] at hu hcw
    subst hu
    have zk := bt_ack inv.bt.swap
    have HV := Lib.hid inv
    clear inv hlt hi
    go_wp2_with (first
      | (go_at_call 18; (with_reducible refine zk.mono ?_); (rintro e w4 ⟨A4, c4, s4, rfl, hc4, k1, k2, k3, k4, k5, k6⟩; have H4 := Lib.hid (And.intro k1 (And.intro k2 (And.intro k3.swap (And.intro k4.swap (And.intro (AB.swap k6) (HV.out.way.frame HV.out.ab.1 HV.out.ab.2.1 (AB.swap k6))))))); clear k1 k2 k3 k4 k5 k6))
      | (go_at_call 10; (with_reducible refine (z3 w4).mono ?_); (rintro e w5 ⟨rfl, S5, B5⟩; have H5 := Lib.hid (And.intro S5 B5); clear S5 B5)))
    have KB : Bo3 w1 w5 w5 w4.heap.size b 0 0 := ⟨(bt_anew H4.out.2.2.1 H5.out.1 H5.out.2).weak (fun s e => by subst e; exact ⟨rfl, rfl, rfl, rfl⟩) (fun s e => ⟨e.1, Nat.le_trans e.2.2.1 (by decide), fun x => by have := e.2.2.1; omega, fun x => by omega⟩), Frame.refl _ _⟩
    have K4 := Lib.hid (show Txt w4.heap.size b w5 A4 (s4.dat (0, [])).enc from H4.out.2.2.2.1.anew H5.out.2)
    have KS := Lib.hid (show s4.Ok ∧ s4.boot = 9 ∧ s4.o.boot ≤ 3 from ⟨H4.out.2.1, H4.out.1.1, H4.out.1.2.2.1⟩)
    have KW : ∀ k : Nat, k < i → ∃ (Ak : Option Addr) (nk ck : Nat) (d : Ss.D) (g : Nat), vs[k]? = some (.slice Ak nk ck) ∧ Aw = some ⟨g, 0, none⟩ ∧ d.pay.length + 41 = nk ∧ nk ≤ ck ∧ d.Ok ∧ d.boot = 3 ∧ Txt w4.heap.size b w5 Ak d.enc ∧ ∀ w', Frame (AB w4.heap.size b) w5 w' → w'.cell? ⟨g, k, none⟩ = some (.slice Ak nk ck) := fun k hk => by
      have hW := H4.out.2.2.2.2.2
      have hlen := HV.out.len
      have hv := List.getElem?_eq_getElem (show k < vs.length by omega)
      obtain ⟨Ak, nk, ck, d, e1, e2, e3, e4, e5, e6, _⟩ := hW.el _ (List.getElem_mem (show k < vs.length by omega))
      obtain ⟨g, hg, hg1, hg2, _⟩ := hW.own.at_g (by omega)
      subst hg
      rw [e1] at hv
      have hc5 := hW.own.cell hv
      have hab := HV.out.ab
      refine ⟨Ak, nk, ck, d, g, hv, rfl, e2, e3, e4, e5, e6.anew H5.out.2, fun w' fr => ?_⟩
      rw [World.cell?_of_block (w := w5) (fr.block g (Nat.lt_of_lt_of_le hg2 H5.out.2.size) (fun e => by rcases e with e | e <;> omega))]
      exact (H5.out.2.cell (p := ⟨g, k, none⟩) hg2).trans hc5
    have KW := Lib.hid KW
    have KB := Lib.hid KB
    obtain ⟨c, hc⟩ : ∃ c, c = w4.heap.size := ⟨_, rfl⟩
    rw [← hc] at KB K4 KW ⊢
    clear hc H4 H5 HV z3 zk
    go_loopw [22] (fun ix wr => ∃ j : Nat, ix = .int .i64 (j : Int) ∧ j ≤ n1 ∧ Bo3 w1 w5 wr c b j j) (fun ix _ => 17 - vB ix)
    case atStart => exact ⟨0, rfl, Nat.zero_le _, KB.out⟩
    case round =>
      obtain ⟨j, rfl, hj, inv⟩ := hrel
      clear KB
      by_cases hlt : j < n1
      · obtain ⟨m, hm⟩ : ∃ m, ms1[j]? = some m := ⟨_, List.getElem?_eq_getElem (by rw [← HR1.out.2]; exact hlt)⟩
        have hmem := List.mem_of_getElem? hm
        obtain ⟨ad, rfl, hadb, hca⟩ := HR1.out.1.at_.at_ (k := j) (u := rowCell m) (by simp [hm])
        have YA := Lib.hid (fun (w' : World) (hb : Below w1.heap.size w1 w') => ((step_trans H1.out.1 hb).cell (p := ad.add j) (by rw [block_add]; exact hadb)).trans hca)
        unfold rowCell at YA
        have XA : BytesAt w1 w1.heap.size m.A m.b := ((HR1.out.1.b m hmem).below H1.out.1).more H1.out.1.size
        obtain ⟨q, hq⟩ : ∃ q, q = m.b.length := ⟨_, rfl⟩
        rw [← hq] at YA
        have y := YA.out wr inv.bt.fr
        have hlt' : (j : Int) < (n1 : Int) := by omega
        by_cases h100 : 100 < q
        · have hq1 : (100 : Int) < (q : Int) := by omega
          have M := Lib.hid (step_trans H1.out.1 inv.bt.fr)
          clear inv hq hm hca hlt hj h100
          go_wp2
          go_ret
          exact ⟨rfl, M.out⟩
        have hq1 : ¬ (100 : Int) < (q : Int) := by omega
        have hw1 : IntKind.i64.wrap ((j : Int) + 1) = (j : Int) + 1 := IntWalk.i64_in _ (by have := HN.out.2.1; omega)
        have HQ := Lib.hid (And.intro hq.symm (And.intro (show q ≤ 100 by omega) (And.intro XA (And.intro hlt (show j < 16 by have := HN.out.2.1; omega)))))
        have za := bo3_send inv HQ.out.2.2.2.2 m.A q m.cb HQ.out.1 HQ.out.2.1 HQ.out.2.2.1
        clear inv hq hm hca hlt hj h100
        by_cases hb2 : j < n2 ∧ 0 < i
        · have hj2 : (j : Int) < (n2 : Int) := by omega
          have hi2 : (0 : Int) < (i : Int) := by omega
          obtain ⟨x, hx⟩ : ∃ x, l2[j]? = some x := ⟨_, List.getElem?_eq_getElem (by rw [← HR2.out.2.1]; exact hb2.1)⟩
          obtain ⟨bd, rfl, hbdb, hcb⟩ := HR2.out.1.at_ (k := j) (u := .int .i64 x) (by simp [iv, hx])
          have ZA := Lib.hid (fun (w' : World) (hb : Below w1.heap.size w1 w') => ((step_trans H1.out.1 hb).cell (p := bd.add j) (by rw [block_add]; exact hbdb)).trans hcb)
          obtain ⟨k, hk⟩ : ∃ k : Nat, (k : Int) = x % (i : Int) := ⟨(x % (i : Int)).toNat, Int.toNat_of_nonneg (Int.emod_nonneg _ (by omega))⟩
          have hki : k < i := by have := Int.emod_lt_of_pos x hi2; omega
          have zp := fun w' : World => pick_any x i w' (HR2.out.2.2 x (List.mem_of_getElem? hx)).1 (HR2.out.2.2 x (List.mem_of_getElem? hx)).2 (by omega) (by have := HN.out.1; omega)
          rw [← hk] at zp
          obtain ⟨Ak, nk, ck, d, g, kv, rfl, k1, k2, k3, k4, k5, k6⟩ := KW.out k hki
          have HK := Lib.hid (And.intro k1 (And.intro k2 (And.intro k3 (And.intro k4 (And.intro k5 k6)))))
          have hki' : (k : Int) < (i : Int) := by omega
          have hk0 : (0 : Int) ≤ (k : Int) := by omega
          clear kv k1 k2 k3 k4 k5 k6 hx hcb hk hb2
          go_wp2_with (first
            | (go_at_call 17; (with_reducible refine za.mono ?_); (rintro e w6 ⟨A6, c6, d6, rfl, hc6, k3, k4, k5⟩; have y6 := YA.out w6 k3.bt.fr; have H6 := Lib.hid (And.intro k3 (And.intro k4 k5)); clear k3 k4 k5))
            | (go_at_call 24; (with_reducible refine (bo3_gets H6.out.1 A6 d6 H6.out.2.1 H6.out.2.2 m.A q m.cb c6 HQ.out.1 hc6 HQ.out.2.2.1).mono ?_); (rintro e w7 ⟨rfl, k1⟩; have y7 := YA.out w7 k1.bt.fr; have u7 := ZA.out w7 k1.bt.fr; have t7 := HK.out.2.2.2.2.2 w7 k1.fr; have H7 := Lib.hid k1; clear k1))
            | (go_at_call 26; (with_reducible refine (zp w7).mono ?_); (rintro e v ⟨rfl, rfl⟩))
            | (go_at_call 25; (with_reducible refine (bo3_not H7.out (Nat.succ_pos _) Ak d nk ck HK.out.1 HK.out.2.1 HK.out.2.2.1 HK.out.2.2.2.1 HK.out.2.2.2.2.1).mono ?_); (rintro e w8 ⟨rfl, k1⟩; have H8 := Lib.hid k1; clear k1)))
          exact ⟨⟨j + 1, by go_num, HQ.out.2.2.2.1, H8.out⟩, by have := HQ.out.2.2.2.2; simp [vB]; omega⟩
        by_cases hj : j < n2
        · have hj2 : (j : Int) < (n2 : Int) := by omega
          have hi2 : ¬ (0 : Int) < (i : Int) := by omega
          clear hb2 hj
          go_wp2_with (first
            | (go_at_call 17; (with_reducible refine za.mono ?_); (rintro e w6 ⟨A6, c6, d6, rfl, hc6, k3, k4, k5⟩; have y6 := YA.out w6 k3.bt.fr; have H6 := Lib.hid (And.intro k3 (And.intro k4 k5)); clear k3 k4 k5))
            | (go_at_call 24; (with_reducible refine (bo3_gets H6.out.1 A6 d6 H6.out.2.1 H6.out.2.2 m.A q m.cb c6 HQ.out.1 hc6 HQ.out.2.2.1).mono ?_); (rintro e w7 ⟨rfl, k1⟩; have H7 := Lib.hid k1; clear k1)))
          exact ⟨⟨j + 1, by go_num, HQ.out.2.2.2.1, H7.out⟩, by have := HQ.out.2.2.2.2; simp [vB]; omega⟩
        · have hj2 : ¬ (j : Int) < (n2 : Int) := by omega
          clear hb2 hj
          go_wp2_with (first
            | (go_at_call 17; (with_reducible refine za.mono ?_); (rintro e w6 ⟨A6, c6, d6, rfl, hc6, k3, k4, k5⟩; have y6 := YA.out w6 k3.bt.fr; have H6 := Lib.hid (And.intro k3 (And.intro k4 k5)); clear k3 k4 k5))
            | (go_at_call 24; (with_reducible refine (bo3_gets H6.out.1 A6 d6 H6.out.2.1 H6.out.2.2 m.A q m.cb c6 HQ.out.1 hc6 HQ.out.2.2.1).mono ?_); (rintro e w7 ⟨rfl, k1⟩; have H7 := Lib.hid k1; clear k1)))
          exact ⟨⟨j + 1, by go_num, HQ.out.2.2.2.1, H7.out⟩, by have := HQ.out.2.2.2.2; simp [vB]; omega⟩
      obtain rfl : j = n1 := by omega
      have hjj : ¬ (j : Int) < (j : Int) := by omega
      have ejj : ((j : Int) == (j : Int)) = true := beq_self_eq_true _
      have zl := bo3_last inv A4 s4 KS.out.1 KS.out.2.1 KS.out.2.2 c4 hc4 K4.out
      clear inv hlt hj
      by_cases h0 : j = 0
      · have e0 : ((j : Int) == 0) = true := by simp; omega
        clear h0
        go_wp2_with (first
          | (go_at_call 25; (with_reducible refine zl.mono ?_); (rintro e w6 ⟨rfl, k1⟩; have H6 := Lib.hid k1; clear k1))
          | (go_at_call 16; (with_reducible refine (bt_waiting H6.out j fun s k => k).mono ?_); (rintro e v ⟨rfl, rfl⟩)))
        go_ret
        exact ⟨rfl, step_trans H1.out.1 H6.out.fr⟩
      · have e0 : ((j : Int) == 0) = false := by simp; omega
        have hj0 : 0 < j := by omega
        clear h0
        have zo : ∀ v (k : Bt w1 v c b (fun s => s.wait.length = j) (Cb j) (fun _ => False)), _ := fun v k => bt_other k.swap 4 fun s x => cb_boot hj0 x
        rw [show ((4 : Nat) : Int) = 4 from rfl] at zo
        go_wp2_with (first
          | (go_at_call 25; (with_reducible refine zl.mono ?_); (rintro e w6 ⟨rfl, k1⟩; have H6 := Lib.hid k1; clear k1))
          | (go_at_call 16; (with_reducible refine (bt_waiting H6.out j fun s k => k).mono ?_); (rintro e v ⟨rfl, rfl⟩))
          | (go_at_call 15; (with_reducible refine (zo _ H6.out).mono ?_); (rintro e v ⟨rfl, rfl⟩)))
        go_ret
        exact ⟨rfl, step_trans H1.out.1 H6.out.fr⟩
theorem boots_all (A0 : Option Addr) (ms0 : List RowM) (c0 : Nat) (A1 : Option Addr) (ms1 : List RowM) (c1 : Nat) (A2 : Option Addr) (l2 : List Int) (c2 : Nat) (w : World) (ht : TabAt w)
    (hr0 : RowsAt w w.heap.size A0 ms0) (hr1 : RowsAt w w.heap.size A1 ms1) (hr2 : RowAt w w.heap.size A2 (iv l2)) (hl2 : ∀ x ∈ l2, -9223372036854775808 ≤ x ∧ x ≤ 9223372036854775807) :
    Calls Tryd.prog 6 #[.slice A0 ms0.length c0, .slice A1 ms1.length c1, .slice A2 l2.length c2] w fun e w' => e = .returned (.bool true) ∧ Below w.heap.size w w' := by
  by_cases h : 40 < ms0.length ∨ 16 < ms1.length ∨ 60 < l2.length
  · exact boots_long A0 _ c0 A1 _ c1 A2 _ c2 w ht h
  · exact boots_any A0 ms0 c0 A1 ms1 c1 A2 l2 c2 w ht hr0 hr1 hr2 hl2 (by omega) (by omega) (by omega)
end Go.Proofs.YtccghodmcfkmmaaDoor
