/-
  The walk of LeaseOne. Conditions: the table of bounds lies as the text lays it.
-/
import Derived.Test.YtljgjehecaiohaaDoorLeOneM
import Derived.Test.YtljgjehecaiohaaDoorRegTail
import Derived.Test.YtljgjehecaiohaaDoorRegPhase
import Derived.Deep.CutRange
import Derived.Deep.CutBlock
namespace Go.Proofs.YtljgjehecaiohaaDoor
open Go.RowKit Le

def f3 (x y z : Int) : Nat → Int := fun k => if k = 0 then x else if k = 1 then y else z
def InR (x : Int) : Prop := 0 ≤ x ∧ x ≤ 1073741824
/-- what stands at the head of the law's loop -/
def LoRel (w : World) (ga gp n : Nat) (ix v : Value) (wr : World) : Prop := ∃ (i : Nat) (at_ pt pf : Nat → Int) (all : List Le.Ask), i ≤ n ∧ ix = .int .i64 (i : Int) ∧ Lm w wr ga gp v at_ pt pf all ∧ One i at_ pt pf all
/-- the node j has a valid lease -/
def HasL (f : Nat → Int) (L : List Le.Ask) (j : Nat) : Prop := ∃ a, a ∈ L ∧ a.given = true ∧ a.node = j ∧ Valid a.stamp (f a.node)
theorem no_two {i : Nat} {f pt pf : Nat → Int} {L : List Le.Ask} (h : One i f pt pf L) (h0 : HasL f L 0) (h1 : HasL f L 1) : False := by
  obtain ⟨a, a1, a2, a3, a4⟩ := h0
  obtain ⟨b, b1, b2, b3, b4⟩ := h1
  exact h.apart a1 b1 a2 b2 a3 b3 a4 b4
theorem has_more {f : Nat → Int} {L : List Le.Ask} {k j : Nat} {a : Le.Ask} {p : Bool} (h : p = true → HasL f L j) (ha : L[k]? = some a) (hg : a.given = true) (hv : true = decide (Valid a.stamp (f a.node))) : (if a.node = j then true else p) = true → HasL f L j := fun e => by
  by_cases x : a.node = j
  · exact ⟨a, List.mem_of_getElem? ha, hg, x, of_decide_eq_true hv.symm⟩
  · rw [if_neg x] at e; exact h e
/-- who has a lease is noted -/
theorem lm_have {w0 w : World} {ga gp hb : Nat} {v : Value} {f pt pf : Nat → Int} {L : List Le.Ask} {p q : Bool} {n : Nat} (h : Lm w0 w ga gp v f pt pf L) (b : BlkR 69 w hb [.bool p, .bool q]) (h1 : hb ≠ ga) (h2 : hb ≠ gp) (h3 : w0.heap.size ≤ hb) (h4 : ∀ g, v.ownBlock = some g → hb ≠ g) (hn : n < 2) :
    Lm w0 (w.setCell ⟨hb, n, none⟩ (.bool true)) ga gp v f pt pf L ∧ BlkR 69 (w.setCell ⟨hb, n, none⟩ (.bool true)) hb [.bool (if n = 0 then true else p), .bool (if n = 1 then true else q)] := by
  have F := setFr w hb n (.bool true)
  have B := F.below (B := w0.heap.size) (fun j e => e ▸ h3) h.fr.size
  refine ⟨⟨h.fr.trans B, (F.block ga h.ba.lt fun e => h1 e.symm).trans h.ba, (F.block gp h.bp.lt fun e => h2 e.symm).trans h.bp, h.own.frame fun j hj => F.block j (h.own.lt j hj).2 fun e => h4 j hj e.symm, h.bnd.below B h.low, h.ne, h.na, h.np, h.gea, h.gep, h.low⟩, ?_⟩
  have := b.set_ n (.bool true)
  rcases (show n = 0 ∨ n = 1 by omega) with rfl | rfl <;> exact this
/-- behind an act's deed -/
def LoCut (w : World) (ga gp i : Nat) (v : Value) (wx : World) : Prop := ∃ (at_ pt pf : Nat → Int) (all : List Le.Ask), Lm w wx ga gp v at_ pt pf all ∧ One i at_ pt pf all
section
variable {A : Option Addr} {l : List LaM} {c : Nat} {w : World} {x y z : Int}
set_option maxRecDepth 100000 in
set_option maxHeartbeats 1000000 in
theorem lone_long (hb : BndAt w) (hl : 120 < l.length) : Calls Tryd.prog 9 #[.agg #[.int .i64 x, .int .i64 y, .int .i64 z], .slice A l.length c] w (Tlb true w) := by
  obtain ⟨w1, hw1⟩ : ∃ w1, w1 = w.alloc (.cells #[.int .i64 x, .int .i64 y, .int .i64 z] 61) := ⟨_, rfl⟩
  have B1 : Below w.heap.size w w1 := by rw [hw1]; exact step_alloc (Below.refl _ w) _
  have za := leKnown_any w1 (hb.grown B1)
  obtain ⟨n, hn⟩ : ∃ n, n = l.length := ⟨_, rfl⟩
  rw [← hn] at hl ⊢
  have l0 : (n : Int) > 120 := by omega
  have BB := Lib.hid B1
  clear hb hl hn B1
  go_enter Tryd.func9, Tryd.ntmps9
  go_wp2_with (go_at_call 6; rw [← hw1]; clear hw1; (with_reducible refine za.mono ?_); (rintro e w2 ⟨rfl, B2⟩))
  go_ret
  exact ⟨rfl, step_trans BB.out B2⟩
set_option maxRecDepth 100000 in
set_option maxHeartbeats 20000000 in
theorem lone_in (hb : BndAt w) (hA : LasAt w w.heap.size A l) (hl : l.length ≤ 120) : Calls Tryd.prog 9 #[.agg #[.int .i64 x, .int .i64 y, .int .i64 z], .slice A l.length c] w (Tlb true w) := by
  obtain ⟨w1, hw1⟩ : ∃ w1, w1 = w.alloc (.cells #[.int .i64 x, .int .i64 y, .int .i64 z] 61) := ⟨_, rfl⟩
  have B1 : Below w.heap.size w w1 := by rw [hw1]; exact step_alloc (Below.refl _ w) _
  have b1 : BlkR 61 w1 w.heap.size (atC (f3 x y z)) := by rw [hw1]; exact BlkR.new w (atC (f3 x y z)) _
  have za := leKnown_any w1 (hb.grown B1)
  obtain ⟨n, hn⟩ : ∃ n, n = l.length := ⟨_, rfl⟩
  rw [← hn] at hl ⊢
  have l0 : ¬ (n : Int) > 120 := by omega
  have HH := Lib.hid (And.intro hn hl)
  have HA := Lib.hid hA
  have HB := Lib.hid hb
  have BB := Lib.hid (And.intro B1 b1)
  clear hb hl hn B1 hA b1
  go_enter Tryd.func9, Tryd.ntmps9
  go_wp2_with (go_at_call 6; rw [← hw1]; clear hw1; (with_reducible refine za.mono ?_); (rintro e w2 ⟨rfl, B2⟩; have C2 := Lib.hid (step_trans BB.out.1 B2); have b2 := Lib.hid (BB.out.2.below B2 BB.out.2.lt); clear B2))
  go_loopw [6] (fun ix wr => wr = w2 ∧ ∃ i : Nat, i ≤ 3 ∧ ix = .int .i64 (i : Int) ∧ ∀ k, k < i → InR (f3 x y z k)) (fun ix _ => 4 - vI ix)
  case atStart => exact ⟨rfl, 0, Nat.zero_le _, rfl, fun k hk => by omega⟩
  case round =>
    obtain ⟨rfl, i, hi, rfl, hp⟩ := hrel
    by_cases hi3 : i = 3
    · subst hi3
      obtain ⟨wo, hwo⟩ : ∃ wo, wo = wr := ⟨_, rfl⟩
      subst hwo
      have HP := Lib.hid hp
      clear hp hi
      go_wp2_with (first
        | ((with_reducible refine atWorld wo ?_); refine wpList_allocRow (w := wo) info_p3 rfl rfl ?_; (intro w3 b3 B3 s3; have b3 := Lib.hid b3; have C3 := Lib.hid (step_trans C2.out B3); have k2 := Lib.hid (b2.out.below B3 b2.out.lt); replace s3 := Lib.hid s3; clear B3))
        | ((with_reducible refine atWorld w3 ?_); refine wpList_storeRow (w := w3) info_p3 rfl (.tmp 7) (.tmp 42) rfl wo.heap.size (ppC (fun _ => -1) (fun _ => 0)) _ rfl rfl rfl rfl (by simp [ppC, Value.oneCell']) b3.out ?_; (intro w4 b4 B4 s4 x4; have C4 : Below w.heap.size w w4 := C3.out.trans (B4.mono C2.out.size); have M4 : Lm w w4 w.heap.size wo.heap.size (.slice none 0 0) (f3 x y z) (fun _ => -1) (fun _ => 0) [] := ⟨C4, (x4 w.heap.size (fun e => by have := b2.out.lt; omega)).trans k2.out, b4, OwnK.nil_, HB.out.grown C4, by have := b2.out.lt; omega, by simp [Value.ownBlock], by simp [Value.ownBlock], Nat.le_refl _, C2.out.size, HB.out.lt⟩; clear b4 B4 s4 x4 C4)))
      go_loopw [9, 8] (fun ix v wr => LoRel w w.heap.size wo.heap.size n ix v wr) (fun ix _ _ => n + 1 - vI ix)
      case atStart => exact ⟨0, _, _, _, [], Nat.zero_le _, rfl, M4, one_new HP.out⟩
      case round =>
        obtain ⟨i, at_, pt, pf, all, hi, rfl, M, O⟩ := hrel
        obtain ⟨wa, hwa⟩ : ∃ wa, wa = wr := ⟨_, rfl⟩
        subst hwa
        obtain ⟨Av, cv, rfl, hcv, _⟩ := M.own.form
        clear M4
        by_cases hin : i = n
        · have lx : ¬ (i : Int) < (n : Int) := by omega
          have FIN := Lib.hid M.fr
          clear hin hi M O hcv
          go_wp2
          go_ret
          exact ⟨rfl, FIN.out⟩
        · have lx : (i : Int) < (n : Int) := by omega
          obtain ⟨m, hm⟩ : ∃ m, l[i]? = some m := ⟨_, List.getElem?_eq_getElem (by rw [← HH.out.1]; omega)⟩
          obtain ⟨ad, rfl, hrow⟩ := HA.out.row M.fr hm
          have c0 := hrow 0 _ rfl
          have c1 : wa.cell? ⟨(ad.add (i * 7)).block, (ad.add (i * 7)).off + 1, none⟩ = some (.int .i64 m.node) := hrow 1 _ rfl
          have c2 : wa.cell? ⟨(ad.add (i * 7)).block, (ad.add (i * 7)).off + 2, none⟩ = some (.int .i64 m.to) := hrow 2 _ rfl
          have c3 : wa.cell? ⟨(ad.add (i * 7)).block, (ad.add (i * 7)).off + 3, none⟩ = some (.int .i64 m.i) := hrow 3 _ rfl
          have c4 : wa.cell? ⟨(ad.add (i * 7)).block, (ad.add (i * 7)).off + 4, none⟩ = some (.int .i64 m.by_.a) := hrow 4 _ rfl
          have c5 : wa.cell? ⟨(ad.add (i * 7)).block, (ad.add (i * 7)).off + 5, none⟩ = some (.int .i64 m.by_.b) := hrow 5 _ rfl
          have c6 : wa.cell? ⟨(ad.add (i * 7)).block, (ad.add (i * 7)).off + 6, none⟩ = some (.int .i64 m.by_.c) := hrow 6 _ rfl
          rw [add_zero] at c0
          have hwi : IntKind.i64.wrap ((i : Int) + 1) = ((i + 1 : Nat) : Int) := (IntWalk.i64_in _ (by have := HH.out; omega)).trans (by omega)
          obtain ⟨nd, hnd, en⟩ := and_one m.node
          obtain ⟨tt, htt, ew, et⟩ := mod_nat m.to 3 3 rfl (by decide) (by decide)
          obtain ⟨kd, hkd, kw, kt⟩ := mod_nat m.kind 4 4 rfl (by decide) (by decide)
          have HI := Lib.hid (show i + 1 ≤ n by omega)
          have HM := Lib.hid M
          have HO := Lib.hid O
          have HN := Lib.hid (And.intro hnd (And.intro htt hkd))
          clear hrow hi hin M O hm hcv hnd htt hkd
          go_wp2_with (first
            | ((with_reducible refine atWorld wa ?_); refine wpList_allocRow (w := wa) info_la rfl rfl ?_; (intro w3 b3 B3 s3; have b3 := Lib.hid b3; have C3 := Lib.hid B3; replace s3 := Lib.hid s3; clear B3))
            | ((with_reducible refine atWorld w3 ?_); refine wpList_storeRow (w := w3) info_la rfl (.tmp 10) (.tmp 52) rfl wa.heap.size (laCells m) _ rfl rfl rfl rfl (by simp [laCells, Value.oneCell']) b3.out ?_; (intro w4 b4 B4 s4 x4; have B4' : Below wa.heap.size wa w4 := C3.out.trans B4; have M5 := Lib.hid (HM.out.step B4'); have y0 := b4.cell (k := 0) (u := .int .i64 m.kind) rfl; have y1 := b4.cell (k := 1) (u := .int .i64 m.node) rfl; have y2 := b4.cell (k := 2) (u := .int .i64 m.to) rfl; have b4 := Lib.hid b4; have z4 := Lib.hid (And.intro s4 s3.out); clear B4 x4 B4' s4)))
          go_quiet (fail)
          obtain ⟨w5, h5⟩ : ∃ w5, w5 = w4.drewN nq := ⟨_, rfl⟩
          have M6 : Lm w w5 w.heap.size wo.heap.size (.slice Av all.length cv) at_ pt pf all := by rw [h5]; exact M5.out.step (belowN (Below.refl _ w4) nq)
          have b6 : BlkR 66 w5 wa.heap.size (laCells m) := by rw [h5]; exact b4.out
          rw [← h5]
          have x0 := b6.cell (k := 0) (u := .int .i64 m.kind) rfl
          have b6 := Lib.hid b6
          clear h5 y0 y1 y2 c0 c1 c2 c3 c4 c5 c6
          go_upto_block 4 with fail
          clear en ew et kw kt x0
          go_cut [8, 13, 14, 15, 16] from 43 to 229 (fun v _ _ _ _ wx => LoCut w w.heap.size wo.heap.size (i + 1) v wx)
          case first =>
            by_cases k2 : kd = 2
            · subst k2
              by_cases htn : tt = nd
              · as_aux_lemma =>
                  have l2 : ((tt : Int) != (nd : Int)) = false := by simp [htn]
                  have FIN := Lib.hid M6
                  clear htn M6
                  --CUT a
                  go_wp2
                  go_quiet (fail)
                  go_wp2_with fail
                  go_meet
                  exact ⟨_, _, _, _, FIN.out.step (belowN (Below.refl _ w5) _), HO.out.skip⟩
                  --END a
              · have l2 : ((tt : Int) != (nd : Int)) = true := by simp; omega
                have zb := leBars_any (pt nd) (pf nd) nd (at_ nd) w5.drew (M6.bnd.grown (Below.refl _ w5).drew)
                have hd3 : nd < 3 := by have := HN.out.1; omega
                have q0 := (M6.p0 hd3).1
                have q1 := (M6.p0 hd3).2
                have q2 := M6.at' hd3
                have l3 : (nd : Int) < 3 := by omega
                --CUT b
                have M5d := Lib.hid M6
                have S0 : w5.cell? ⟨wo.heap.size, nd * 2, none⟩ = some (.int .i64 (pt nd)) ∧ w5.cell? ⟨wo.heap.size, nd * 2 + 1, none⟩ = some (.int .i64 (pf nd)) ∧ w5.cell? ⟨w.heap.size, nd, none⟩ = some (.int .i64 (at_ nd)) := ⟨q0, q1, q2⟩
                have HD3 := Lib.hid hd3
                have HTN := Lib.hid htn
                clear M6 htn q0 q1 q2 hd3
                by_cases hbar : Bars (pt nd) (pf nd) (nd : Int) (at_ nd)
                · as_aux_lemma =>
                    rw [decide_eq_true hbar] at zb
                    clear hbar
                    go_wp2
                    go_region_held3 (fun w' => w'.cell? ⟨wo.heap.size, nd * 2, none⟩ = some (.int .i64 (pt nd)) ∧ w'.cell? ⟨wo.heap.size, nd * 2 + 1, none⟩ = some (.int .i64 (pf nd)) ∧ w'.cell? ⟨w.heap.size, nd, none⟩ = some (.int .i64 (at_ nd))) (first | assumption | exact S0) (first
                      | (go_at_call 24; (with_reducible refine zb.mono ?_); (rintro e w7 ⟨rfl, B7⟩; have M7 := M5d.out.step (undrew B7); have c7 := And.intro (M7.p0 HD3.out).1 (And.intro (M7.p0 HD3.out).2 (M7.at' HD3.out)); have M7 := Lib.hid M7; clear B7)))
                    go_wp2_with fail
                    go_meet
                    exact ⟨_, _, _, _, M7.out, HO.out.skip⟩
                · as_aux_lemma =>
                    rw [decide_eq_false hbar] at zb
                    have HBR := Lib.hid hbar
                    clear hbar
                    go_wp2
                    go_region_held3 (fun w' => w'.cell? ⟨wo.heap.size, nd * 2, none⟩ = some (.int .i64 (pt nd)) ∧ w'.cell? ⟨wo.heap.size, nd * 2 + 1, none⟩ = some (.int .i64 (pf nd)) ∧ w'.cell? ⟨w.heap.size, nd, none⟩ = some (.int .i64 (at_ nd))) (first | assumption | exact S0) (first
                      | (go_at_call 24; (with_reducible refine zb.mono ?_); (rintro e w7 ⟨rfl, B7⟩; have M7 := M5d.out.step (undrew B7); have c7 := And.intro (M7.p0 HD3.out).1 (And.intro (M7.p0 HD3.out).2 (M7.at' HD3.out)); have M7 := Lib.hid M7; clear B7)))
                    obtain ⟨c70, c71, c72⟩ := c7
                    have f70 := M7.out.bp.frozen (nd * 2)
                    obtain ⟨w8, h8⟩ : ∃ w8, w8 = w7.setCell ⟨wo.heap.size, nd * 2, none⟩ (.int .i64 (nd : Int)) := ⟨_, rfl⟩
                    have b8 : BlkR 63 w8 wo.heap.size ((ppC pt pf).set (nd * 2) (.int .i64 (nd : Int))) := by rw [h8]; exact M7.out.bp.set_ (nd * 2) (.int .i64 (nd : Int))
                    have c81 : w8.cell? ⟨wo.heap.size, nd * 2 + 1, none⟩ = some (.int .i64 (pf nd)) := b8.cell (by rw [List.getElem?_set_ne (by omega)]; exact ppC_1 pt pf HD3.out)
                    have f81 := b8.frozen (nd * 2 + 1)
                    obtain ⟨w9, h9⟩ : ∃ w9, w9 = w8.setCell ⟨wo.heap.size, nd * 2 + 1, none⟩ (.int .i64 (at_ nd)) := ⟨_, rfl⟩
                    have M9 : Lm w w9 w.heap.size wo.heap.size (.slice Av all.length cv) at_ (upd pt nd nd) (upd pf nd (at_ nd)) all := by rw [h9, h8]; exact M7.out.setP HD3.out nd (at_ nd)
                    have c92 := M9.at' HD3.out
                    have MA := Lib.hid (M9.step (step_alloc (Below.refl _ w9) (.cells #[.int .i64 (nd : Int), .int .i64 (tt : Int), .int .i64 (at_ nd), .bool false] 68)))
                    have M9 := Lib.hid M9
                    have hlen := Lib.hid (show all.length ≤ 120 by have := HO.out.len; have := HI.out; have := HH.out; omega)
                    have hs9 := Lib.hid (show w7.heap.size = w9.heap.size by rw [h9, h8]; simp)
                    rw [h8] at c81 f81 h9
                    rw [h9] at c92
                    clear h8 b8
                    go_wp2_with (at_builtin; rw [← h9]; clear h9; refine wpList_appendK rfl (.tmp 115) (.tmp 122) elAk rfl (.slice Av all.length cv) all.length (all.flatMap akC) [.int .i64 (nd : Int), .int .i64 (tt : Int), .int .i64 (at_ nd), .bool false] 1 w.heap.size rfl MA.out.own ⟨w7.heap.size, 0, none⟩ 1 rfl rfl (fun j u hu => by rw [addr_zero_add, hs9.out]; exact (BlkR.new w9 [.int .i64 (nd : Int), .int .i64 (tt : Int), .int .i64 (at_ nd), .bool false] 68).cell hu) (ak_one ⟨nd, tt, at_ nd, false⟩) (by have := hlen.out; unfold maxLen; omega) (by have := hlen.out; omega) MA.out.fr.size ?_; (intro v' w' k1 k2 k3; have MB := Lib.hid (MA.out.push (a := ⟨nd, tt, at_ nd, false⟩) k1 k2 k3); clear k1 k2 k3))
                    go_meet
                    exact ⟨_, _, _, _, MB.out, HO.out.asks HN.out.1 HN.out.2.1 HTN.out HBR.out⟩
                --END b
            ·
              --CUT c
              have l1 : ((kd : Int) == 2) = false := by simp; omega
              by_cases k3 : kd = 3
              ·
                --CUT d
                subst k3
                have M6h := Lib.hid M6
                have hlen := Lib.hid (show all.length ≤ 120 by have := HO.out.len; have := HI.out; have := HH.out; omega)
                by_cases hz : all.length = 0
                · as_aux_lemma =>
                    have lz : ((all.length : Int) == 0) = true := by simp [hz]
                    clear M6 hz k2
                    go_wp2_with fail
                    exact ⟨⟨i + 1, _, _, _, _, HI.out, rfl, M6h.out, HO.out.skip⟩, by have := HI.out; simp [vI]; omega⟩
                · have lnz : (all.length : Int) ≠ 0 := by omega
                  have lz : ((all.length : Int) == 0) = false := beq_eq_false_iff_ne.2 lnz
                  obtain ⟨kk, hkk, ew, et⟩ := mod_nat m.i all.length (all.length : Int) rfl (by omega) (by have := hlen.out; omega)
                  obtain ⟨a, ha⟩ : ∃ a, all[kk]? = some a := ⟨_, List.getElem?_eq_getElem hkk⟩
                  obtain ⟨g, rfl, hg, hg0⟩ := M6.g_ (by omega)
                  have y3 := b6.out.cell (k := 3) (u := .int .i64 m.i) rfl
                  obtain ⟨s0, s1, s2, s3⟩ := M6.ak ha
                  have hak := Lib.hid (HO.out.oks a (List.mem_of_getElem? ha))
                  have lk : (kk : Int) < (all.length : Int) := by omega
                  have HA2 := Lib.hid (And.intro ha (And.intro hg (And.intro hg0 hkk)))
                  clear M6 hz k2 ha hg hg0 hkk
                  --CUT d1
                  obtain ⟨gv, hgv⟩ : ∃ gv, gv = a.given := ⟨_, rfl⟩
                  rw [← hgv] at s3
                  have HGV := Lib.hid hgv
                  clear hgv
                  cases gv with
                  | true =>
                    as_aux_lemma =>
                      obtain ⟨w8, h8⟩ : ∃ w8, w8 = w5.alloc (.cells #[.int .i64 (a.node : Int), .int .i64 (a.to : Int), .int .i64 a.stamp, .bool true] 68) := ⟨_, rfl⟩
                      have b8 : BlkR 68 w8 w5.heap.size [.int .i64 (a.node : Int), .int .i64 (a.to : Int), .int .i64 a.stamp, .bool true] := by rw [h8]; exact BlkR.new w5 [.int .i64 (a.node : Int), .int .i64 (a.to : Int), .int .i64 a.stamp, .bool true] _
                      have M8 : Lm w w8 w.heap.size wo.heap.size (.slice (some ⟨g, 0, none⟩) all.length cv) at_ pt pf all := by rw [h8]; exact M6h.out.step (step_alloc (Below.refl _ w5) _)
                      have M8 := Lib.hid M8
                      have t3 := b8.cell (k := 3) (u := .bool true) rfl
                      clear b8
                      go_wp2_with fail
                      rw [← h8]
                      clear h8
                      go_quiet (fail)
                      go_wp2_with fail
                      exact ⟨⟨i + 1, _, _, _, _, HI.out, rfl, M8.out.step (belowN (Below.refl _ w8) _), HO.out.skip⟩, by have := HI.out; simp [vI]; omega⟩
                  | false =>
                    as_aux_lemma =>
                      have hto3 : a.to < 3 := hak.out.to
                      have lt3' : (a.to : Int) < 3 := by omega
                      have HT3 := Lib.hid hto3
                      clear hto3
                      obtain ⟨w8, h8⟩ : ∃ w8, w8 = w5.alloc (.cells #[.int .i64 (a.node : Int), .int .i64 (a.to : Int), .int .i64 a.stamp, .bool false] 68) := ⟨_, rfl⟩
                      have b8 : BlkR 68 w8 w5.heap.size [.int .i64 (a.node : Int), .int .i64 (a.to : Int), .int .i64 a.stamp, .bool false] := by rw [h8]; exact BlkR.new w5 [.int .i64 (a.node : Int), .int .i64 (a.to : Int), .int .i64 a.stamp, .bool false] _
                      have M8 : Lm w w8 w.heap.size wo.heap.size (.slice (some ⟨g, 0, none⟩) all.length cv) at_ pt pf all := by rw [h8]; exact M6h.out.step (step_alloc (Below.refl _ w5) _)
                      have S8 : w8.cell? ⟨w5.heap.size, 3, none⟩ = some (.bool false) ∧ w8.cell? ⟨w5.heap.size, 1, none⟩ = some (.int .i64 (a.to : Int)) ∧ w8.cell? ⟨w5.heap.size, 0, none⟩ = some (.int .i64 (a.node : Int)) ∧ w8.cell? ⟨wo.heap.size, a.to * 2, none⟩ = some (.int .i64 (pt a.to)) ∧ w8.cell? ⟨wo.heap.size, a.to * 2 + 1, none⟩ = some (.int .i64 (pf a.to)) ∧ w8.cell? ⟨w.heap.size, a.to, none⟩ = some (.int .i64 (at_ a.to)) := ⟨b8.cell rfl, b8.cell rfl, b8.cell rfl, (M8.p0 HT3.out).1, (M8.p0 HT3.out).2, M8.at' HT3.out⟩
                      have zb := leBars_any (pt a.to) (pf a.to) (a.node : Int) (at_ a.to) w8.drew (M8.bnd.grown (Below.refl _ w8).drew)
                      have M8 := Lib.hid M8
                      have HB8 := Lib.hid (And.intro b8 b8.lt)
                      clear b8
                      go_wp2_with fail
                      rw [← h8]
                      clear h8 s0 s1 s2 s3
                      by_cases hbar : Bars (pt a.to) (pf a.to) (a.node : Int) (at_ a.to)
                      · as_aux_lemma =>
                          rw [decide_eq_true hbar] at zb
                          clear hbar
                          go_region_held3 (fun w' => w'.cell? ⟨w5.heap.size, 3, none⟩ = some (.bool false) ∧ w'.cell? ⟨w5.heap.size, 1, none⟩ = some (.int .i64 (a.to : Int)) ∧ w'.cell? ⟨w5.heap.size, 0, none⟩ = some (.int .i64 (a.node : Int)) ∧ w'.cell? ⟨wo.heap.size, a.to * 2, none⟩ = some (.int .i64 (pt a.to)) ∧ w'.cell? ⟨wo.heap.size, a.to * 2 + 1, none⟩ = some (.int .i64 (pf a.to)) ∧ w'.cell? ⟨w.heap.size, a.to, none⟩ = some (.int .i64 (at_ a.to))) (first | assumption | exact S8) (first
                            | (go_at_call 24; (with_reducible refine zb.mono ?_); (rintro e w9 ⟨rfl, B9⟩; have M9 := M8.out.step (undrew B9); have b9 := HB8.out.1.below (undrew B9) HB8.out.2; have c9 : w9.cell? ⟨w5.heap.size, 3, none⟩ = some (.bool false) ∧ w9.cell? ⟨w5.heap.size, 1, none⟩ = some (.int .i64 (a.to : Int)) ∧ w9.cell? ⟨w5.heap.size, 0, none⟩ = some (.int .i64 (a.node : Int)) ∧ w9.cell? ⟨wo.heap.size, a.to * 2, none⟩ = some (.int .i64 (pt a.to)) ∧ w9.cell? ⟨wo.heap.size, a.to * 2 + 1, none⟩ = some (.int .i64 (pf a.to)) ∧ w9.cell? ⟨w.heap.size, a.to, none⟩ = some (.int .i64 (at_ a.to)) := ⟨b9.cell rfl, b9.cell rfl, b9.cell rfl, (M9.p0 HT3.out).1, (M9.p0 HT3.out).2, M9.at' HT3.out⟩; have M9 := Lib.hid M9; clear B9 b9)))
                          go_wp2_with fail
                          exact ⟨⟨i + 1, _, _, _, _, HI.out, rfl, M9.out, HO.out.skip⟩, by have := HI.out; simp [vI]; omega⟩
                      · as_aux_lemma =>
                          rw [decide_eq_false hbar] at zb
                          have HBR := Lib.hid hbar
                          clear hbar
                          go_region_held3 (fun w' => w'.cell? ⟨w5.heap.size, 3, none⟩ = some (.bool false) ∧ w'.cell? ⟨w5.heap.size, 1, none⟩ = some (.int .i64 (a.to : Int)) ∧ w'.cell? ⟨w5.heap.size, 0, none⟩ = some (.int .i64 (a.node : Int)) ∧ w'.cell? ⟨wo.heap.size, a.to * 2, none⟩ = some (.int .i64 (pt a.to)) ∧ w'.cell? ⟨wo.heap.size, a.to * 2 + 1, none⟩ = some (.int .i64 (pf a.to)) ∧ w'.cell? ⟨w.heap.size, a.to, none⟩ = some (.int .i64 (at_ a.to))) (first | assumption | exact S8) (first
                            | (go_at_call 24; (with_reducible refine zb.mono ?_); (rintro e w9 ⟨rfl, B9⟩; have M9 := M8.out.step (undrew B9); have b9 := HB8.out.1.below (undrew B9) HB8.out.2; have c9 : w9.cell? ⟨w5.heap.size, 3, none⟩ = some (.bool false) ∧ w9.cell? ⟨w5.heap.size, 1, none⟩ = some (.int .i64 (a.to : Int)) ∧ w9.cell? ⟨w5.heap.size, 0, none⟩ = some (.int .i64 (a.node : Int)) ∧ w9.cell? ⟨wo.heap.size, a.to * 2, none⟩ = some (.int .i64 (pt a.to)) ∧ w9.cell? ⟨wo.heap.size, a.to * 2 + 1, none⟩ = some (.int .i64 (pf a.to)) ∧ w9.cell? ⟨w.heap.size, a.to, none⟩ = some (.int .i64 (at_ a.to)) := ⟨b9.cell rfl, b9.cell rfl, b9.cell rfl, (M9.p0 HT3.out).1, (M9.p0 HT3.out).2, M9.at' HT3.out⟩; have M9 := Lib.hid M9; have H9 := Lib.hid b9; have G9 := Lib.hid (undrew B9); clear B9 b9)))
                          --CUT d2
                          clear S8 zb c9
                          obtain ⟨wd, hwd⟩ : ∃ wd, wd = { w9 with drawn := w9.drawn + 1 } := ⟨_, rfl⟩
                          have Md : Lm w wd w.heap.size wo.heap.size (.slice (some ⟨g, 0, none⟩) all.length cv) at_ pt pf all := by rw [hwd]; exact M9.out.step (Below.refl _ w9).drew
                          have bd : BlkR 68 wd w5.heap.size [.int .i64 (a.node : Int), .int .i64 (a.to : Int), .int .i64 a.stamp, .bool false] := by rw [hwd]; exact H9.out
                          have e0 := bd.cell (k := 0) (u := .int .i64 (a.node : Int)) rfl
                          have e1 := bd.cell (k := 1) (u := .int .i64 (a.to : Int)) rfl
                          have e2 := Md.at' HT3.out
                          have e3 := (Md.p0 HT3.out).1
                          have e4 := Md.bp.frozen (a.to * 2)
                          obtain ⟨wA, hA⟩ : ∃ wA, wA = wd.setCell ⟨wo.heap.size, a.to * 2, none⟩ (.int .i64 (a.node : Int)) := ⟨_, rfl⟩
                          have bA : BlkR 63 wA wo.heap.size ((ppC pt pf).set (a.to * 2) (.int .i64 (a.node : Int))) := by rw [hA]; exact Md.bp.set_ (a.to * 2) (.int .i64 (a.node : Int))
                          have e5 : wA.cell? ⟨wo.heap.size, a.to * 2 + 1, none⟩ = some (.int .i64 (pf a.to)) := bA.cell (by rw [List.getElem?_set_ne (by omega)]; exact ppC_1 pt pf HT3.out)
                          have e6 := bA.frozen (a.to * 2 + 1)
                          obtain ⟨wB, hB⟩ : ∃ wB, wB = wA.setCell ⟨wo.heap.size, a.to * 2 + 1, none⟩ (.int .i64 (at_ a.to)) := ⟨_, rfl⟩
                          have MB : Lm w wB w.heap.size wo.heap.size (.slice (some ⟨g, 0, none⟩) all.length cv) at_ (upd pt a.to a.node) (upd pf a.to (at_ a.to)) all := by rw [hB, hA]; exact Md.setP HT3.out a.node (at_ a.to)
                          have e7 := (MB.ak HA2.out.1).2.2.2
                          have e8 := MB.akf HA2.out.1 (kk * 4 + 3)
                          rw [← HGV.out] at e7
                          obtain ⟨wC, hC⟩ : ∃ wC, wC = wB.setCell ⟨g, kk * 4 + 3, none⟩ (.bool true) := ⟨_, rfl⟩
                          have MC : Lm w wC w.heap.size wo.heap.size (.slice (some ⟨g, 0, none⟩) all.length cv) at_ (upd pt a.to a.node) (upd pf a.to (at_ a.to)) (all.set kk { a with given := true }) := by rw [hC]; exact MB.setL HA2.out.1 (.bool true) (by decide) rfl
                          have hg1 : w5.heap.size ≠ wo.heap.size := by have := M6h.out.bp.lt; omega
                          have hg2 : w5.heap.size ≠ g := by have := HA2.out.2.1; omega
                          have bC : BlkR 68 wC w5.heap.size [.int .i64 (a.node : Int), .int .i64 (a.to : Int), .int .i64 a.stamp, .bool false] := by
                            have f1 := (setFr wd wo.heap.size (a.to * 2) (.int .i64 (a.node : Int))).block w5.heap.size bd.lt hg1
                            rw [← hA] at f1
                            have lA : w5.heap.size < wA.heap.size := by rw [hA]; simpa using bd.lt
                            have f2 := (setFr wA wo.heap.size (a.to * 2 + 1) (.int .i64 (at_ a.to))).block w5.heap.size lA hg1
                            rw [← hB] at f2
                            have lB : w5.heap.size < wB.heap.size := by rw [hB]; simpa using lA
                            have f3 := (setFr wB g (kk * 4 + 3) (.bool true)).block w5.heap.size lB hg2
                            rw [← hC] at f3
                            exact (f3.trans (f2.trans f1)).trans bd
                          have HMC := Lib.hid (And.intro MC bC)
                          rw [hA] at e5 e6 hB
                          rw [hB] at e7 e8 hC
                          clear hA bA MB MC bC hg1 hg2 Md bd hB
                          go_wp2
                          refine region_tail 10 (by kernel_rfl) (by kernel_rfl) wd hwd ?_
                          clear hwd
                          simp only [List.take_succ_cons, List.take_zero, List.drop_succ_cons, List.drop_zero]
                          repeat still_step
                          refine wpStill_nil ?_
                          go_wp2
                          rw [← hC]
                          clear hC e0 e1 e2 e3 e4 e5 e6 e7 e8
                          --CUT d3
                          go_loopw [15] (fun jx wx => ∃ j : Nat, j ≤ all.length ∧ jx = .int .i64 (j : Int) ∧ Lm w wx w.heap.size wo.heap.size (.slice (some ⟨g, 0, none⟩) all.length cv) at_ (upd pt a.to a.node) (upd pf a.to (at_ a.to)) (gvP (all.set kk { a with given := true }) a.to j) ∧ BlkR 68 wx w5.heap.size [.int .i64 (a.node : Int), .int .i64 (a.to : Int), .int .i64 a.stamp, .bool false]) (fun jx _ => all.length + 1 - vI jx)
                          case atStart => exact ⟨0, Nat.zero_le _, rfl, by rw [gvP_0]; exact HMC.out.1, HMC.out.2⟩
                          case round =>
                            obtain ⟨j, hj, rfl, MJ, bJ⟩ := hrel
                            have hsl : (all.set kk { a with given := true }).length = all.length := List.length_set
                            by_cases hje : j = all.length
                            · as_aux_lemma =>
                                have lx : ¬ (j : Int) < (all.length : Int) := by omega
                                have e := gvP_end (all.set kk { a with given := true }) a.to
                                rw [hsl, ← hje] at e
                                rw [e] at MJ
                                have MJh := Lib.hid MJ
                                clear MJ bJ hj hje e hsl
                                go_wp2_with fail
                                go_meet
                                exact ⟨_, _, _, _, MJh.out, HO.out.gives HA2.out.1 HBR.out⟩
                            · have lx : (j : Int) < (all.length : Int) := by omega
                              obtain ⟨q, hq⟩ : ∃ q, (all.set kk { a with given := true })[j]? = some q := ⟨_, List.getElem?_eq_getElem (by rw [hsl]; omega)⟩
                              have hga := gvP_at (t := a.to) hq
                              obtain ⟨v0, v1, v2, v3⟩ := MJ.ak hga
                              have v4 := bJ.cell (k := 1) (u := .int .i64 (a.to : Int)) rfl
                              have v5 := MJ.akf hga (j * 4 + 2)
                              have hwk : IntKind.i64.wrap ((j : Int) + 1) = (j : Int) + 1 := IntWalk.i64_in _ (by have := hlen.out; omega)
                              have hs := gvP_succ (t := a.to) hq
                              have hg2 : w5.heap.size ≠ g := by have := HA2.out.2.1; omega
                              have HJ := Lib.hid (show j + 1 ≤ all.length by omega)
                              by_cases hqn : q.node = a.to
                              · as_aux_lemma =>
                                  have lq : ((q.node : Int) == (a.to : Int)) = true := by simp [hqn]
                                  have eg : giveA a.to q = { q with stamp := -1 } := if_pos hqn
                                  rw [eg] at hs
                                  have FIN := Lib.hid (fun N : Nat => And.intro ((MJ.step (belowN (Below.refl _ wr) N)).setL hga (b := { q with stamp := -1 }) (.int .i64 (-1)) (by decide) rfl : Lm w ((wr.drewN N).setCell ⟨g, j * 4 + 2, none⟩ (.int .i64 (-1))) w.heap.size wo.heap.size (.slice (some ⟨g, 0, none⟩) all.length cv) at_ (upd pt a.to a.node) (upd pf a.to (at_ a.to)) ((gvP (all.set kk { a with given := true }) a.to j).set j { q with stamp := -1 })) (((setFr (wr.drewN N) g (j * 4 + 2) (.int .i64 (-1))).block w5.heap.size bJ.lt hg2).trans bJ))
                                  have HS := Lib.hid hs
                                  clear MJ bJ hj hje hsl hq hga hs hg2 hqn eg v1 v3
                                  go_wp2
                                  go_quiet (fail)
                                  go_wp2
                                  exact ⟨⟨j + 1, HJ.out, rfl, by rw [HS.out]; exact (FIN.out _).1, (FIN.out _).2⟩, by have := HJ.out; simp [vI]; omega⟩
                              · as_aux_lemma =>
                                  have lq : ((q.node : Int) == (a.to : Int)) = false := by simp; omega
                                  have eg : giveA a.to q = q := if_neg hqn
                                  rw [eg, set_same hga] at hs
                                  have FIN := Lib.hid (And.intro MJ bJ)
                                  have HS := Lib.hid hs
                                  clear MJ bJ hj hje hsl hq hga hs hg2 hqn eg v1 v2 v3 v5
                                  go_wp2
                                  go_quiet (fail)
                                  go_wp2
                                  exact ⟨⟨j + 1, HJ.out, rfl, by rw [HS.out]; exact FIN.out.1.step (belowN (Below.refl _ wr) _), FIN.out.2⟩, by have := HJ.out; simp [vI]; omega⟩
                          --END d3
                          --END d2
                  --END d1
                --END d
              ·
                --CUT e
                have l2 : ((kd : Int) == 3) = false := by simp; omega
                have y4 := b6.out.cell (k := 4) (u := .int .i64 m.by_.a) rfl
                have y5 := b6.out.cell (k := 5) (u := .int .i64 m.by_.b) rfl
                have y6 := b6.out.cell (k := 6) (u := .int .i64 m.by_.c) rfl
                have M6h := Lib.hid M6
                by_cases hpt : Parts [m.by_.a, m.by_.b, m.by_.c]
                · as_aux_lemma =>
                    have zk : Calls Tryd.prog 27 #[.slice (some ⟨w5.heap.size, 0, none⟩) 3 3] (w5.alloc (.cells #[.int .i64 m.by_.a, .int .i64 m.by_.b, .int .i64 m.by_.c] 3)) (Tlb true w5) := lit_keeps w5 M6.bnd [m.by_.a, m.by_.b, m.by_.c] 3 rfl (by decide) true (decide_eq_true hpt)
                    have HPT : Hid (∀ k, k < 3 → Part (f3 m.by_.a m.by_.b m.by_.c k)) := Lib.hid fun k hk => by
                      unfold Parts at hpt
                      rcases lt3 hk with rfl | rfl | rfl
                      · exact hpt m.by_.a (by simp)
                      · exact hpt m.by_.b (by simp)
                      · exact hpt m.by_.c (by simp)
                    clear M6 k2 k3 hpt
                    go_wp2_with (go_at_call 27; (with_reducible refine zk.mono ?_); (rintro e w7 ⟨rfl, B7⟩; have M7 := Lib.hid (M6h.out.step B7); have b7 := Lib.hid (b6.out.below B7 b6.out.lt); clear B7))
                    go_loopw [16] (fun kx wx => ∃ k : Nat, k ≤ 3 ∧ kx = .int .i64 (k : Int) ∧ Lm w wx w.heap.size wo.heap.size (.slice Av all.length cv) (onP at_ (f3 m.by_.a m.by_.b m.by_.c) k) pt pf all ∧ BlkR 66 wx wa.heap.size (laCells m)) (fun kx _ => 4 - vI kx)
                    case atStart => exact ⟨0, Nat.zero_le _, rfl, by rw [onP_0]; exact M7.out, b7.out⟩
                    case round =>
                      obtain ⟨k, hk, rfl, MK, bk⟩ := hrel
                      by_cases hk3 : k = 3
                      · as_aux_lemma =>
                          subst hk3
                          have lz : ¬ ((3 : Nat) : Int) < 3 := by decide
                          have MKh := Lib.hid MK
                          clear MK bk hk
                          go_wp2_with fail
                          go_meet
                          exact ⟨_, _, _, _, MKh.out.ext (f := fun k => at_ k + f3 m.by_.a m.by_.b m.by_.c k) (fun k hk => by unfold onP; rw [if_pos hk]), HO.out.tick HPT.out⟩
                      · as_aux_lemma =>
                          have hk3 : k < 3 := by omega
                          have lz : (k : Int) < 3 := by omega
                          obtain ⟨wd, hwd⟩ : ∃ wd, wd = { wr with drawn := wr.drawn + 1 } := ⟨_, rfl⟩
                          have Md : Lm w wd w.heap.size wo.heap.size (.slice Av all.length cv) (onP at_ (f3 m.by_.a m.by_.b m.by_.c) k) pt pf all := by rw [hwd]; exact MK.step (Below.refl _ wr).drew
                          have bd : BlkR 66 wd wa.heap.size (laCells m) := by rw [hwd]; exact bk
                          obtain ⟨q, hq⟩ : ∃ q, q = f3 m.by_.a m.by_.b m.by_.c k := ⟨_, rfl⟩
                          have u1 : wd.cell? ⟨wa.heap.size, 4 + k, none⟩ = some (.int .i64 q) := bd.cell (by rw [hq]; rcases lt3 hk3 with rfl | rfl | rfl <;> rfl)
                          have u2 := Md.at' hk3
                          rw [onP_at] at u2
                          have u3 := Md.ba.frozen k
                          have hq2 : IntKind.i64.wrap (at_ k + q) = at_ k + q := IntWalk.i64_in _ (by have := HPT.out k hk3; rw [← hq] at this; unfold Part at this; have := HO.out.a0 k hk3; have := HI.out; have := HH.out; omega)
                          have hwk : IntKind.i64.wrap ((k : Int) + 1) = (k : Int) + 1 := IntWalk.i64_in _ (by omega)
                          have Me := Md.setAt hk3 (at_ k + q)
                          rw [hq, ← onP_succ, ← hq] at Me
                          have hne : wa.heap.size ≠ w.heap.size := by have := HM.out.fr.size; have := HM.out.ba.lt; omega
                          have FIN := Lib.hid (And.intro (show k + 1 ≤ 3 by omega) (And.intro Me (((setFr wd w.heap.size k (.int .i64 (at_ k + q))).block wa.heap.size bd.lt hne).trans bd)))
                          clear MK bk hk hk3 Md bd hq Me hne
                          go_wp2
                          refine region_tail 10 (by kernel_rfl) (by kernel_rfl) wd hwd ?_
                          clear hwd
                          simp only [List.take_succ_cons, List.take_zero, List.drop_succ_cons, List.drop_zero]
                          repeat still_step
                          refine wpStill_nil ?_
                          go_wp2
                          exact ⟨⟨k + 1, FIN.out.1, rfl, FIN.out.2.1, FIN.out.2.2⟩, by have := FIN.out.1; simp [vI]; omega⟩
                · as_aux_lemma =>
                    have zk : Calls Tryd.prog 27 #[.slice (some ⟨w5.heap.size, 0, none⟩) 3 3] (w5.alloc (.cells #[.int .i64 m.by_.a, .int .i64 m.by_.b, .int .i64 m.by_.c] 3)) (Tlb false w5) := lit_keeps w5 M6.bnd [m.by_.a, m.by_.b, m.by_.c] 3 rfl (by decide) false (decide_eq_false hpt)
                    clear M6 k2 k3 hpt
                    go_wp2_with (go_at_call 27; (with_reducible refine zk.mono ?_); (rintro e w7 ⟨rfl, B7⟩; have M7 := Lib.hid (M6h.out.step B7); clear B7))
                    exact ⟨⟨i + 1, _, _, _, _, HI.out, rfl, M7.out, HO.out.skip⟩, by have := HI.out; simp [vI]; omega⟩
                --END e
              --END c
          case rest =>
            --CUT r
            obtain ⟨at1, pt1, pf1, L, MC, OC⟩ := hcut
            clear M6 b6
            obtain ⟨A1, c1, rfl, _, _⟩ := MC.own.form
            have MCh := Lib.hid MC
            have HOC := Lib.hid OC
            have hlen := Lib.hid (show L.length ≤ 120 by have := OC.len; have := HI.out; have := HH.out; omega)
            have lw := Lib.hid MC.fr.size
            clear MC OC
            go_wp2_with (first
              | ((with_reducible refine atWorld wc ?_); refine wpList_allocRow (w := wc) info_b2 rfl rfl ?_; (intro w7 b7 B7 s7; have b7 := Lib.hid b7; have C7 := Lib.hid B7; clear B7 s7))
              | ((with_reducible refine atWorld w7 ?_); refine wpList_storeRow (w := w7) info_b2 rfl (.tmp 17) (.tmp 191) rfl wc.heap.size [.bool false, .bool false] _ rfl rfl rfl rfl (by simp [Value.oneCell']) b7.out ?_; (intro w8 b8 B8 s8 x8; have M8 := Lib.hid (MCh.out.step (C7.out.trans B8)); have b8 := Lib.hid b8; clear x8 s8 B8)))
            obtain ⟨hb, hhb⟩ : ∃ hb, hb = wc.heap.size := ⟨_, rfl⟩
            rw [← hhb] at b8 ⊢
            have HNE := Lib.hid (show hb ≠ w.heap.size ∧ hb ≠ wo.heap.size ∧ w.heap.size ≤ hb ∧ (∀ g, (Value.slice A1 L.length c1).ownBlock = some g → hb ≠ g) from ⟨by have := MCh.out.ba.lt; omega, by have := MCh.out.bp.lt; omega, by have := lw.out; omega, fun g e => by have := (MCh.out.own.lt g e).2; omega⟩)
            clear hhb b7 C7
            go_loopw [18] (fun kx wx => ∃ (k : Nat) (p q : Bool), k ≤ L.length ∧ kx = .int .i64 (k : Int) ∧ Lm w wx w.heap.size wo.heap.size (.slice A1 L.length c1) at1 pt1 pf1 L ∧ BlkR 69 wx hb [.bool p, .bool q] ∧ (p = true → HasL at1 L 0) ∧ (q = true → HasL at1 L 1)) (fun kx _ => L.length + 1 - vI kx)
            case atStart => exact ⟨0, false, false, Nat.zero_le _, rfl, M8.out, b8.out, (fun e => by cases e), (fun e => by cases e)⟩
            case round =>
              obtain ⟨k, p, q, hk, rfl, MK, bK, hp, hq⟩ := hrel
              clear M8 b8
              by_cases hke : k = L.length
              · have lx : ¬ (k : Int) < (L.length : Int) := by omega
                have v0 := bK.cell (k := 0) (u := .bool p) rfl
                have v1 := bK.cell (k := 1) (u := .bool q) rfl
                have MKh := Lib.hid MK
                cases p with
                | false =>
                  as_aux_lemma =>
                    clear MK bK hk hke hp hq
                    go_wp2
                    exact ⟨⟨i + 1, _, _, _, _, HI.out, rfl, MKh.out, HOC.out⟩, by have := HI.out; simp [vI]; omega⟩
                | true =>
                  as_aux_lemma =>
                    cases q with
                    | true => exact (no_two HOC.out (hp rfl) (hq rfl)).elim
                    | false =>
                      as_aux_lemma =>
                        clear MK bK hk hke hp hq
                        go_wp2
                        exact ⟨⟨i + 1, _, _, _, _, HI.out, rfl, MKh.out, HOC.out⟩, by have := HI.out; simp [vI]; omega⟩
              · have lx : (k : Int) < (L.length : Int) := by omega
                obtain ⟨a, ha⟩ : ∃ a, L[k]? = some a := ⟨_, List.getElem?_eq_getElem (by omega)⟩
                obtain ⟨g, rfl, hg, hg0⟩ := MK.g_ (by omega)
                obtain ⟨v0, v1, v2, v3⟩ := MK.ak ha
                have hak := HOC.out.oks a (List.mem_of_getElem? ha)
                have hwk : IntKind.i64.wrap ((k : Int) + 1) = (k : Int) + 1 := IntWalk.i64_in _ (by have := hlen.out; omega)
                have HK := Lib.hid (show k + 1 ≤ L.length by omega)
                have v5 := MK.at' (k := a.node) (by have := hak.node; omega)
                have ln : (a.node : Int) < 3 := by have := hak.node; omega
                have ln2 : (a.node : Int) < 2 := by have := hak.node; omega
                have v6 : wr.cell? ⟨hb, a.node, none⟩ = some (.bool (if a.node = 0 then p else q)) := bK.cell (by rcases (show a.node = 0 ∨ a.node = 1 by have := hak.node; omega) with e | e <;> rw [e] <;> rfl)
                have v7 := bK.frozen a.node
                obtain ⟨gv, hgv⟩ : ∃ gv, gv = a.given := ⟨_, rfl⟩
                rw [← hgv] at v3
                have FIN := Lib.hid (fun N : Nat => And.intro (MK.step (belowN (Below.refl _ wr) N)) (bK.drewN N))
                have HPQ := Lib.hid (And.intro hp (And.intro hq (And.intro ha (And.intro hgv hak))))
                cases gv with
                | false =>
                  as_aux_lemma =>
                    clear MK bK hk hke hp hq ha hg hg0 hak hgv v0 v1 v2 v5 v6 v7 ln ln2
                    go_wp2
                    go_quiet (fail)
                    go_wp2
                    exact ⟨⟨k + 1, p, q, HK.out, rfl, (FIN.out _).1, (FIN.out _).2, HPQ.out.1, HPQ.out.2.1⟩, by have := HK.out; simp [vI]; omega⟩
                | true =>
                  as_aux_lemma =>
                    have zv := fun N => leValid_any a.stamp (at1 a.node) (wr.drewN N) (MK.bnd.grown (belowN (Below.refl _ wr) N))
                    obtain ⟨r, hr⟩ : ∃ r, r = decide (Valid a.stamp (at1 a.node)) := ⟨_, rfl⟩
                    simp only [← hr] at zv
                    have HRV := Lib.hid hr
                    clear hk hke hp hq ha hg hg0 hak hgv hr
                    cases r with
                    | false =>
                      as_aux_lemma =>
                        clear MK bK v6 v7 ln2
                        go_wp2
                        go_quiet ((go_at_call 18; with_reducible first | exact quietN (zv _) | exact quietA (zv _)))
                        go_wp2
                        exact ⟨⟨k + 1, p, q, HK.out, rfl, (FIN.out _).1, (FIN.out _).2, HPQ.out.1, HPQ.out.2.1⟩, by have := HK.out; simp [vI]; omega⟩
                    | true =>
                      as_aux_lemma =>
                        have FS := Lib.hid (fun N : Nat => lm_have (FIN.out N).1 (FIN.out N).2 HNE.out.1 HNE.out.2.1 HNE.out.2.2.1 HNE.out.2.2.2 HPQ.out.2.2.2.2.node)
                        clear MK bK
                        go_wp2
                        go_quiet ((go_at_call 18; with_reducible first | exact quietN (zv _) | exact quietA (zv _)))
                        go_wp2
                        exact ⟨⟨k + 1, _, _, HK.out, rfl, (FS.out _).1, (FS.out _).2, has_more (j := 0) HPQ.out.1 HPQ.out.2.2.1 HPQ.out.2.2.2.1.symm HRV.out, has_more (j := 1) HPQ.out.2.1 HPQ.out.2.2.1 HPQ.out.2.2.2.1.symm HRV.out⟩, by have := HK.out; simp [vI]; omega⟩
            --END r
    · as_aux_lemma =>
        have hi3 : i < 3 := by omega
        have l1 : (i : Int) < 3 := by omega
        have c0 := b2.out.cell (atC_at (f3 x y z) hi3)
        obtain ⟨q, hq⟩ : ∃ q, q = f3 x y z i := ⟨_, rfl⟩
        rw [← hq] at c0
        have hwk : IntKind.i64.wrap ((i : Int) + 1) = (i : Int) + 1 := IntWalk.i64_in _ (by omega)
        by_cases h1 : q < 0
        · have CC := Lib.hid C2.out
          clear hp hi hi3 hq
          go_wp2
          go_ret
          exact ⟨rfl, CC.out⟩
        · by_cases h2 : q > 1073741824
          · have CC := Lib.hid C2.out
            clear hp hi hi3 hq
            go_wp2
            go_ret
            exact ⟨rfl, CC.out⟩
          · have NX : Hid (i + 1 ≤ 3 ∧ ∀ k, k < i + 1 → InR (f3 x y z k)) := Lib.hid ⟨by omega, fun k hk => by
              by_cases e : k = i
              · subst e; rw [← hq]; exact ⟨by omega, by omega⟩
              · exact hp k (by omega)⟩
            clear hp hi hi3 hq
            go_wp2
            exact ⟨⟨trivial, i + 1, NX.out.1, rfl, NX.out.2⟩, by have := NX.out.1; simp [vI]; omega⟩
theorem lone_any (hb : BndAt w) (hA : LasAt w w.heap.size A l) : Calls Tryd.prog 9 #[.agg #[.int .i64 x, .int .i64 y, .int .i64 z], .slice A l.length c] w (Tlb true w) := by
  by_cases h : l.length ≤ 120
  · exact lone_in hb hA h
  · exact lone_long hb (by omega)
end
end Go.Proofs.YtljgjehecaiohaaDoor
