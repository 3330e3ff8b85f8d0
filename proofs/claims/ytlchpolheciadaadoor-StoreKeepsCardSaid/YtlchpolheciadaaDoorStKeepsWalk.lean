/-
  The walk of StoreKeeps. Conditions: a disk's methods and a store's do what the document says; the table of crc lies as the program's text lays it; what came in can be read.
-/
import Derived.Test.YtlchpolheciadaaDoorStRound
namespace Go.Proofs.YtlchpolheciadaaDoor
open Go.RowKit Fix

section
variable {At : World → Nat → (Nat → Prop) → DS → Prop} {SAt : World → Nat → (Nat → Prop) → Nat → StM → Prop} (D : Disks Tryd.prog At) (T : Stores At SAt)
include D T
set_option maxRecDepth 100000 in
set_option maxHeartbeats 16000000 in
theorem storeKeeps_any (x : Int) (hx1 : -9223372036854775808 ≤ x) (hx2 : x ≤ 9223372036854775807) (A0 : Option Addr) (l : List P9M) (c0 : Nat) (w : World) (ht : TabAt w) (hA : P9sAt w w.heap.size A0 l) :
    Calls Tryd.prog 4 #[.int .i64 x, .slice A0 l.length c0] w fun e w' => e = .returned (.bool true) ∧ Below w.heap.size w w' := by
  have zw := fun w t => awake9_any D T w t
  obtain ⟨a, ha⟩ : ∃ a : Nat, x % 8 = (a : Int) := ⟨(x % 8).toNat, by omega⟩
  have zp := fun w : World => pick_any x 8 w hx1 hx2 (by decide) (by decide)
  rw [ha] at zp
  have ha8 : a < 8 := by omega
  obtain ⟨n, hn⟩ : ∃ n, n = a + 1 := ⟨_, rfl⟩
  have hn1 : 1 ≤ n := by omega
  have hn8 : n ≤ 8 := by omega
  have hwn : IntKind.i64.wrap (1 + (a : Int)) = (n : Int) := by rw [IntWalk.i64_in _ (by omega)]; omega
  have zm := fun w t => made_any D T n hn1 (by omega) w t
  unfold MadePost at zm
  have hmk : ∀ W : World, (Instr.makeSlice 53 (.int .i64 (n : Int)) (.int .i64 (n : Int))).run Tryd.prog W = .ok (.slice (some ⟨W.heap.size, 0, none⟩) n n) (W.alloc (bbO n)) := makeBB n (by omega)
  have zof : ∀ w, Calls _ _ _ w (Of9Post 0 w) := fun w : World => of9_any 0 w
  unfold Of9Post at zof
  rw [show (((0 : UInt8).toNat : Nat) : Int) = 0 from rfl] at zof
  obtain ⟨len, hlen⟩ : ∃ n, n = l.length := ⟨_, rfl⟩
  rw [← hlen]
  have HA := Lib.hid (And.intro hA hlen)
  have HT := Lib.hid ht
  have HDL : Hid (∀ w b g H S s, Duo At SAt w b g H S s → ∀ k, H k → k < w.heap.size) := Lib.hid fun w b g H S s h => Duo.lt D T h
  have HDS : Hid (∀ w w' b g H S s, Duo At SAt w b g H S s → Below w.heap.size w w' → Duo At SAt w' b g H S s) := Lib.hid fun w w' b g H S s h B => Duo.step D T h B
  have HDE : Hid (∀ w w' b g H S s q, Duo At SAt w b g H S s → ¬ H q → w'.heap.size = w.heap.size → (∀ j, j ≠ q → w'.heap[j]? = w.heap[j]?) → Duo At SAt w' b g H S s) := Lib.hid fun w w' b g H S s q h hq hs ho => Duo.keep D T h (Nat.le_of_eq hs.symm) fun k hk => ho k fun e => hq (e ▸ hk)
  have HN := Lib.hid (And.intro hn1 hn8)
  clear hA hlen ha hn ha8 hx1 hx2
  go_enter Tryd.func4, Tryd.ntmps4
  go_wp2_with (first
    | (go_at_call 8; refine (zw w ht).mono ?_; (rintro e w1 ⟨rfl, B1⟩; have t1 := HT.out.below B1 (Nat.le_refl _)))
    | (go_at_call 15; refine (zp w1).mono ?_; (rintro e w1' ⟨rfl, rfl⟩))
    | (go_at_call 16; refine (zm w1 t1).mono ?_; (rintro e w2 ⟨b, g0, H0, S0, rfl, d2, C2, o2, _, n2, B2⟩)))
  have hlt0 := HDL.out _ _ _ _ _ _ d2
  have has0 := (HasAt.new (H := H0) w2 n hlt0).congr (fun k _ => firstOf_zero St.zeros k)
  have B3 : Below w2.heap.size w2 (w2.alloc (bbO n)) := (Below.refl _ _).alloc (Nat.le_refl _) _
  have d3 := HDS.out _ _ _ _ _ _ _ d2 B3
  have C3 := step_trans (step_trans B1 B2) B3
  have far0 : ∀ x, H0 x → w.heap.size ≤ x := fun x hx => Nat.le_trans B1.size (n2 x hx)
  have gq0 : w.heap.size ≤ w2.heap.size := Nat.le_trans B1.size B2.size
  obtain ⟨w3, hw3⟩ : ∃ w3, w3 = w2.alloc (bbO n) := ⟨_, rfl⟩
  rw [← hw3] at has0 d3 C3 ⊢
  obtain ⟨q, hq⟩ : ∃ q, q = w2.heap.size := ⟨_, rfl⟩
  rw [← hq] at has0 gq0 ⊢
  have I0 := Lib.hid (And.intro d3 (And.intro has0 C3))
  have HS := Lib.hid (And.intro C2 (And.intro o2 (And.intro far0 gq0)))
  clear hw3 hq B1 B2 B3 t1 zw zp zm hmk hlt0 has0 d2 d3 C3 n2 C2 o2 far0 gq0 hwn ht
  go_loopw [9] (fun ix wr => ∃ j : Nat, ix = .int .i64 (j : Int) ∧ j ≤ n ∧ Duo At SAt wr b g0 H0 S0 ⟨0, n, 1, false⟩ ∧ HasAt H0 wr q n (firstOf j St.zeros) ∧ Below w.heap.size w wr) (fun ix _ => n - vN9 ix)
  case atStart => exact ⟨0, rfl, Nat.zero_le _, I0.out.1, I0.out.2.1, I0.out.2.2⟩
  case round =>
    obtain ⟨j, rfl, hjn, d3, has3, C3⟩ := hrel
    clear I0
    by_cases hj : j < n
    · have hj' : (j : Int) < (n : Int) := by omega
      have hw1 : IntKind.i64.wrap ((j : Int) + 1) = (j : Int) + 1 := IntWalk.i64_in _ (by have := HN.out; omega)
      go_wp2_with (first
        | (go_at_call 17; refine (zof wr).mono ?_; (rintro e w4 ⟨g4, rfl, hg4, x4, B4⟩; have d4 := HDS.out _ _ _ _ _ _ _ d3 B4; have has4 := has3.step B4; have a4 := aside_blk (HDL.out _ _ _ _ _ _ d3) hg4 x4; obtain ⟨vs, hvl, hvb⟩ := has4.row; have hne : g4 ≠ q := (by have := (has3.row).choose_spec.2.lt; omega); have HX4 := Lib.hid (And.intro hvb hvl)))
        | ((with_reducible refine atWorld w4 ?_); refine wpList_storeCell (w := w4) rfl 22 (.tmp 42) (.tmp 41) rfl (.slice (some ⟨g4, 0, none⟩) 32 32) rfl rfl HX4.out.1 (by rw [HX4.out.2]; exact hj) sizeBB rfl ?_; (intro w5 b5 B5 s5 k5; have d5 := HDE.out _ _ _ _ _ _ _ q d4 has4.nq s5 k5; have has5 := (has4.set hj a4 (fun _ ad e => by cases e; exact hne) HX4.out.1 b5 s5 k5).congr (fun k _ => firstOf_succ j St.zeros k); have C5 := (step_trans C3 B4).trans (B5.mono HS.out.2.2.2); have H5 := Lib.hid (And.intro d5 (And.intro has5 C5)); clear b5 B5 s5 k5 d5 has5 C5)))
      go_roundw
      case rel => exact ⟨j + 1, by go_num, by omega, H5.out.1, H5.out.2.1, H5.out.2.2⟩
      case measure => simp [vN9]; omega
    · obtain rfl : j = n := by omega
      have hj' : ¬ (j : Int) < (j : Int) := by omega
      have I1 : K9 At SAt w wr b g0 q j 1 H0 S0 (fun _ => St.zeros) 0 := ⟨d3, HS.out.1, has3.congr fun k hk => firstOf_all j St.zeros k hk, Nat.le_refl _, by have := HS.out.2.1; have := HN.out; omega, HS.out.2.2.1, HS.out.2.2.2, C3⟩
      replace I1 := Lib.hid I1
      clear d3 has3 C3 HS zof
      go_wp2
      go_loopw [7, 10] (fun px ix wr => ∃ k N g H S f, px = .pointer (some ⟨g, 0, none⟩) ∧ ix = .int .i64 ((k : Nat) : Int) ∧ k ≤ len ∧ k ≤ 20 ∧ K9 At SAt w wr b g q j N H S f k) (fun _ ix _ => 21 - vN9 ix)
      case atStart => exact ⟨0, 1, g0, H0, S0, _, rfl, rfl, Nat.zero_le _, Nat.zero_le _, I1.out⟩
      case round =>
        obtain ⟨k, N, g, H, S, f, rfl, rfl, hk, hk2, inv⟩ := hrel
        clear I1
        by_cases hlt : k < len
        · by_cases h20 : k < 20
          · obtain ⟨m, hm⟩ : ∃ m, l[k]? = some m := ⟨_, List.getElem?_eq_getElem (by rw [← HA.out.2]; exact hlt)⟩
            have hmem := List.mem_of_getElem? hm
            obtain ⟨ad, rfl, y0, y1, y2, y3, y4, y5⟩ := p9_at HA.out.1 inv.below hm
            have hlt' : (k : Int) < (len : Int) := by omega
            have h20' : (k : Int) < 20 := by omega
            have hw1 : IntKind.i64.wrap ((k : Int) + 1) = (k : Int) + 1 := IntWalk.i64_in _ (by omega)
            have HI := Lib.hid inv
            have mb := Lib.hid (HA.out.1.b m hmem)
            have mk := Lib.hid (HA.out.1.k m hmem)
            have mc := Lib.hid (HA.out.1.c m hmem)
            have stn := HA.out.1.n m hmem
            have bln := HA.out.1.i m hmem
            have agn := Lib.hid (HA.out.1.a m hmem)
            have HX : Hid (∀ w' H' X f', R9 w X q j m H' w' f' → TabAt w' ∧ Aside H' w' m.A m.d ∧ AsideK H' w' m.AK m.keeps) := Lib.hid fun w' H' X f' r => ⟨HT.out.below r.below (Nat.le_refl _), aside_arg mb.out r.below r.far, asideK_arg mk.out r.below r.far⟩
            have R0 : Hid (∀ w2, Below wr.heap.size wr w2 → BlkR 57 w2 wr.heap.size (p9Cells m) → R9 w wr.heap.size q j m H w2 f) := Lib.hid fun w2 B hx => by
              have hl := HDL.out _ _ _ _ _ _ HI.out.duo
              obtain ⟨_, _, hv⟩ := HI.out.has.row
              have := hv.lt
              exact ⟨HI.out.far, step_trans HI.out.below B, hx, fun h => Nat.lt_irrefl _ (hl _ h), by omega, HI.out.gq, HI.out.has.step B⟩
            clear hm inv hmem
            by_cases hbad : m.d.length = 32 ∧ m.keeps.length ≤ 10
            · obtain ⟨hb32, hk10⟩ := hbad
              have i1 : ((m.d.length : Int) != 32) = false := by simp [hb32]
              have i2 : ¬ (10 : Int) < (m.keeps.length : Int) := by omega
              have i3 : decide ((10 : Int) < (m.keeps.length : Int)) = false := by simp; omega
              obtain ⟨a, hma⟩ : ∃ a : Nat, m.blk % (j : Int) = (a : Int) := ⟨(m.blk % (j : Int)).toNat, by have := HN.out; have := Int.emod_nonneg m.blk (show (j : Int) ≠ 0 by omega); omega⟩
              have haj : a < j := by have := HN.out; have := Int.emod_lt_of_pos m.blk (show (0 : Int) < (j : Int) by omega); omega
              have zp := fun w : World => pick_any m.blk j w bln.1 bln.2 (by have := HN.out; omega) (by have := HN.out; omega)
              rw [hma] at zp
              have a0 : (0 : Int) ≤ (a : Int) := by omega
              have a1 : (a : Int) < (j : Int) := by omega
              have HL32 := Lib.hid hb32
              have HAJ := Lib.hid haj
              obtain ⟨ml, hml⟩ : ∃ x, x = m.d.length := ⟨_, rfl⟩
              clear bln hma hk10 hb32
              have zg : ∀ w g H S N f i A d c, Duo At SAt w b g H S ⟨0, j, N, false⟩ → St.Calm S j N f → i < j → TabAt w → Aside H w A d → Calls Tryd.prog 20 #[.pointer (some ⟨g, 0, none⟩), .int .i64 (i : Int), .slice A d.length c] w fun e w' => ∃ H', e = .returned (.bool (f i == d)) ∧ Duo At SAt w' b g H' S ⟨0, j, N, false⟩ ∧ Keep H w H' w' := fun w g H S N f i A d c h C hi t r => calm_gets D T h C i hi A d d.length c rfl t r
              by_cases hst : m.stop < 0
              · have hst2 : ¬ (0 : Int) ≤ m.stop := by omega
                have hst3 : decide ((0 : Int) ≤ m.stop) = false := by simp; omega
                have zput : ∀ w2, Duo At SAt w2 b g H S ⟨0, j, N, false⟩ → TabAt w2 → Aside H w2 m.A m.d → _ := fun w2 d2 t2 v2 => calm_put T d2 HI.out.calm a HAJ.out (by have := HI.out.Nk; omega) m.A m.d m.d.length m.cb rfl HL32.out t2 (by have := HI.out.ops; omega) v2
                go_wp2_with (first
                  | ((with_reducible refine atWorld wr ?_); refine wpList_allocRow (w := wr) p9Ty rfl rfl ?_; (intro w1 b1 B1 s1; have b1 := Lib.hid b1; replace s1 := Lib.hid s1))
                  | ((with_reducible refine atWorld w1 ?_); refine wpList_storeRow (w := w1) p9Ty rfl (.tmp 11) (.tmp 56) rfl wr.heap.size (p9Cells m) p9Z rfl rfl rfl rfl (p9_one m) b1.out ?_; (intro w2 b2 B2 s2 k2; have B12 : Below wr.heap.size wr w2 := B1.trans B2; have r2 := Lib.hid (R0.out w2 B12 b2); have d2 := HDS.out _ _ _ _ _ _ _ HI.out.duo B12; have HB2 := Lib.hid B12; obtain ⟨x0, x1, x2, x3, x4, x5⟩ := p9_cells b2; obtain ⟨t2, v2, u2⟩ := HX.out _ _ _ _ r2.out; clear b1 B1 s1 B2 k2 b2 s2 B12))
                  | (go_at_call 15; (refine (zp w2).mono ?_); (rintro e w2' ⟨rfl, rfl⟩))
                  | (go_at_call 11; refine (zput w2 d2 t2 v2).mono ?_; (rintro e w3 ⟨H3, S3, rfl, d3, C3, o3, _, K3⟩; have r3 := Lib.hid (r2.out.keep K3); obtain ⟨z0, z1, z2, z3, z4, z5⟩ := p9_cells r3.out.x; obtain ⟨t3, v3, u3⟩ := HX.out _ _ _ _ r3.out; obtain ⟨vs, hvl, hvb⟩ := r3.out.has.row; have HV := Lib.hid (And.intro hvb hvl); clear hvb hvl))
                  | ((with_reducible refine atWorld w3 ?_); refine wpList_storeCell (w := w3) rfl 22 (.tmp 104) (.tmp 103) rfl (.slice m.A m.d.length m.cb) rfl rfl HV.out.1 (by rw [HV.out.2]; exact HAJ.out) sizeBB rfl ?_; (intro w4 b4 B4 s4 k4; have d4 := HDE.out _ _ _ _ _ _ _ q d3 r3.out.has.nq s4 k4; have r4 := Lib.hid (r3.out.set HAJ.out v3 (arg_low mb.out) HV.out.1 b4 B4 s4 k4); obtain ⟨p0, p1, p2, p3, p4, p5⟩ := p9_cells r4.out.x; clear b4 B4 s4 k4)))
                go_loopw [16] (fun ix wz => ∃ i H9, ix = .int .i64 ((i : Nat) : Int) ∧ i ≤ j ∧ Duo At SAt wz b g H9 S3 ⟨0, j, (N + 1), false⟩ ∧ R9 w wr.heap.size q j m H9 wz (DS.upd f a m.d)) (fun ix _ => j - vN9 ix)
                case atStart => exact ⟨0, _, rfl, Nat.zero_le _, d4, r4.out⟩
                case round =>
                  obtain ⟨i, H9, rfl, hij, d9, r9⟩ := hrel
                  by_cases hi : i < j
                  · have hi' : (i : Int) < (j : Int) := by omega
                    have hi0 : (0 : Int) ≤ (i : Int) := by omega
                    have hwi : IntKind.i64.wrap ((i : Int) + 1) = (i : Int) + 1 := IntWalk.i64_in _ (by have := HN.out; omega)
                    obtain ⟨A9, c9, e9, a9⟩ := r9.has.at_ hi
                    obtain ⟨t9, _, _⟩ := HX.out _ _ _ _ r9
                    have zz := zg wr g H9 S3 (N + 1) (DS.upd f a m.d) i A9 ((DS.upd f a m.d) i) c9 d9 C3 hi t9 a9
                    rw [beq_self_eq_true] at zz
                    go_wp2_with (go_at_call 20; refine zz.mono ?_; (rintro e w10 ⟨H10, rfl, d10, K10⟩; have r10 := r9.keep K10))
                    go_roundw
                    case rel => exact ⟨i + 1, H10, by go_num, by omega, d10, r10⟩
                    case measure => simp [vN9]; omega
                  · obtain rfl : i = j := by omega
                    have hi' : ¬ (i : Int) < (i : Int) := by omega
                    go_wp2
                    go_roundw
                    case rel => exact ⟨k + 1, (N + 1), g, H9, S3, (DS.upd f a m.d), rfl, by go_num, by omega, by omega, ⟨d9, C3, r9.has, by have := HI.out.Nk; first | omega | (have := HG.out.2; omega), by have := HI.out.ops; omega, r9.far, HI.out.gq, r9.below⟩⟩
                    case measure => simp [vN9]; omega
              · have hst2 : (0 : Int) ≤ m.stop := by omega
                have hst3 : decide ((0 : Int) ≤ m.stop) = true := by simp; omega
                have hq := HI.out.calm.q
                have zf : ∀ w2, Duo At SAt w2 b g H S ⟨0, j, N, false⟩ → _ := fun w2 d2 => duo_fuse D T d2 m.stop stn.1 stn.2
                rw [show S.fuse m.stop = ({ S with left := some m.stop.toNat }, 0) by unfold DS.fuse; rw [hq.out]; simp [hst]] at zf
                have zput : ∀ w3 H3, Duo At SAt w3 b g H3 { S with left := some m.stop.toNat } ⟨0, j, N, false⟩ → TabAt w3 → Aside H3 w3 m.A m.d → _ := fun w3 H3 d t v => duo_put T d (a : Int) m.A m.d m.cb t (by show S.ops ≤ 900000; have := HI.out.ops; omega) v
                have oo := St.ops_put { S with left := some m.stop.toNat } ⟨0, j, N, false⟩ a m.d
                obtain ⟨S4, xe, e1, e2⟩ := HI.out.calm.put_good (b := a) (d := m.d) HAJ.out HL32.out (by have := HI.out.Nk; omega) m.stop.toNat m.keeps m.tear
                rw [e1] at zput oo
                obtain ⟨st4, hst4⟩ : ∃ x, x = St.putS { S with left := some m.stop.toNat } ⟨0, j, N, false⟩ a m.d := ⟨_, rfl⟩
                rw [← hst4] at zput
                obtain ⟨V3, hV3⟩ : ∃ V3, V3 = ({ S with left := some m.stop.toNat } : DS) := ⟨_, rfl⟩
                rw [← hV3] at zf zput
                have HO4 : Hid (S4.ops ≤ S.ops + 4) := Lib.hid oo
                have zan : ∀ w5 H5 S5 s5 N5 f5 X5 f6, Duo At SAt w5 b g H5 S5 s5 → R9 w X5 q j m H5 w5 f6 → St.Good (S5.crash m.keeps m.tear) j N5 f5 → S5.ops ≤ 800000 → Calls Tryd.prog 19 #[.pointer (some ⟨b, 0, none⟩), .int .i64 (j : Int), .agg (p9Cells m).toArray] w5 fun e w' => ∃ g6 H6 S6, e = .returned (.tuple #[.pointer (some ⟨g6, 0, none⟩), .bool true]) ∧ Duo At SAt w' b g6 H6 S6 ⟨0, j, N5, false⟩ ∧ St.Calm S6 j N5 f5 ∧ S6.ops ≤ S5.ops + 4 ∧ Keep H5 w5 H6 w' := by
                  intro w5 H5 S5 s5 N5 f5 X5 f6 hd hr hG ho
                  obtain ⟨F, G, a1, a2, a3, a4⟩ := hd
                  have kF : ∀ w' F', Keep F w5 F' w' → Keep H5 w5 F' w' := fun w' F' K => ⟨K.fr.mono fun k hk => (a4 k).2 (.inl hk), fun k hk => (K.own k hk).imp (fun x => (a4 k).2 (.inl x)) id⟩
                  have u := (HX.out _ _ _ _ hr).2.2
                  exact (anew_any D T w5 b j N5 f5 F S5 m a1 hG ho ⟨u.1, fun hl ad e => ⟨(u.2 hl ad e).1, fun x => (u.2 hl ad e).2 ((a4 _).2 (.inl x))⟩⟩ mc.out agn.out.1 agn.out.2 fun w' F' K => (HX.out _ _ _ _ (hr.keep (kF w' F' K))).1).mono fun e w' ⟨g6, H6, S6, e1, e2, e3, e4, e5⟩ => ⟨g6, H6, S6, e1, e2, e3, e4, kF w' H6 e5⟩
                have e2 : (xe = 0 ∧ St.Good (S4.crash m.keeps m.tear) j (N + 1) (DS.upd f a m.d)) ∨ (xe = 10 ∧ ∃ N5 f5, N5 ≤ N + 1 ∧ St.Good (S4.crash m.keeps m.tear) j N5 f5 ∧ (f5 a = m.d → ∀ k, k < j → DS.upd f a m.d k = f5 k) ∧ (f5 a ≠ m.d → f5 = f)) := by
                  rcases e2 with h | ⟨h, h1 | h1⟩
                  · exact .inl h
                  · exact .inr ⟨h, N, f, by omega, h1, fun e k _ => by unfold DS.upd; split <;> simp_all, fun _ => rfl⟩
                  · exact .inr ⟨h, N + 1, _, Nat.le_refl _, h1, fun _ _ _ => rfl, fun x => absurd (by simp [DS.upd]) x⟩
                clear hq e1 oo hV3 hst4
                rcases e2 with ⟨rfl, hG⟩ | ⟨rfl, N5, f5, hN5, hG, hf1, hf2⟩
                · have HG := Lib.hid hG
                  clear hG
                  go_wp2_with (first
                    | ((with_reducible refine atWorld wr ?_); refine wpList_allocRow (w := wr) p9Ty rfl rfl ?_; (intro w1 b1 B1 s1; have b1 := Lib.hid b1; replace s1 := Lib.hid s1))
                    | ((with_reducible refine atWorld w1 ?_); refine wpList_storeRow (w := w1) p9Ty rfl (.tmp 11) (.tmp 56) rfl wr.heap.size (p9Cells m) p9Z rfl rfl rfl rfl (p9_one m) b1.out ?_; (intro w2 b2 B2 s2 k2; have B12 : Below wr.heap.size wr w2 := B1.trans B2; have r2 := Lib.hid (R0.out w2 B12 b2); have d2 := HDS.out _ _ _ _ _ _ _ HI.out.duo B12; have HB2 := Lib.hid B12; obtain ⟨x0, x1, x2, x3, x4, x5⟩ := p9_cells b2; obtain ⟨t2, v2, u2⟩ := HX.out _ _ _ _ r2.out; clear b1 B1 s1 B2 k2 b2 s2 B12))
                    | (go_at_call 15; (refine (zp w2).mono ?_); (rintro e w2' ⟨rfl, rfl⟩))
                    | (go_at_call 18; refine (zf w2 d2).mono ?_; (rintro e w3 ⟨H3, rfl, d3, K3⟩; have r3 := Lib.hid (r2.out.keep K3); obtain ⟨z0, z1, z2, z3, z4, z5⟩ := p9_cells r3.out.x; obtain ⟨t3, v3, u3⟩ := HX.out _ _ _ _ r3.out))
                    | (go_at_call 11; refine (zput w3 H3 d3 t3 v3).mono ?_; (rintro e w4 ⟨H4, rfl, d4, K4⟩; have r4 := Lib.hid (r3.out.keep K4); obtain ⟨q0, q1, q2, q3, q4, q5⟩ := p9_cells r4.out.x; obtain ⟨t4, v4, u4⟩ := HX.out _ _ _ _ r4.out; obtain ⟨vs, hvl, hvb⟩ := r4.out.has.row; have HV := Lib.hid (And.intro hvb hvl); clear hvb hvl))
                    | ((with_reducible refine atWorld w4 ?_); refine wpList_storeCell (w := w4) rfl 22 (.tmp 104) (.tmp 103) rfl (.slice m.A m.d.length m.cb) rfl rfl HV.out.1 (by rw [HV.out.2]; exact HAJ.out) sizeBB rfl ?_; (intro w5 b5 B5 s5 k5; have d5 := HDE.out _ _ _ _ _ _ _ q d4 r4.out.has.nq s5 k5; have r5 := Lib.hid (r4.out.set HAJ.out v4 (arg_low mb.out) HV.out.1 b5 B5 s5 k5); obtain ⟨p0, p1, p2, p3, p4, p5⟩ := p9_cells r5.out.x; clear b5 B5 s5 k5))
                    | ((with_reducible refine atWorld w5 ?_); refine wpList_loadRow (w := w5) p9Ty rfl (.tmp 11) rfl wr.heap.size 0 (p9Cells m) rfl rfl (rangeOf r5.out.x) ?_)
                    | (go_at_call 19; refine (zan w5 H4 S4 st4 (N + 1) (DS.upd f a m.d) _ _ d5 r5.out HG.out (by have := HO4.out; have := HI.out.ops; omega)).mono ?_; (rintro e w6 ⟨g6, H6, S6, rfl, d6, C6, o6, K6⟩; have r6 := Lib.hid (r5.out.keep K6); obtain ⟨n0, n1, n2, n3, n4, n5⟩ := p9_cells r6.out.x)))
                  go_loopw [16] (fun ix wz => ∃ i H9, ix = .int .i64 ((i : Nat) : Int) ∧ i ≤ j ∧ Duo At SAt wz b g6 H9 S6 ⟨0, j, (N + 1), false⟩ ∧ R9 w wr.heap.size q j m H9 wz (DS.upd f a m.d)) (fun ix _ => j - vN9 ix)
                  case atStart => exact ⟨0, _, rfl, Nat.zero_le _, d6, r6.out⟩
                  case round =>
                    obtain ⟨i, H9, rfl, hij, d9, r9⟩ := hrel
                    by_cases hi : i < j
                    · have hi' : (i : Int) < (j : Int) := by omega
                      have hi0 : (0 : Int) ≤ (i : Int) := by omega
                      have hwi : IntKind.i64.wrap ((i : Int) + 1) = (i : Int) + 1 := IntWalk.i64_in _ (by have := HN.out; omega)
                      obtain ⟨A9, c9, e9, a9⟩ := r9.has.at_ hi
                      obtain ⟨t9, _, _⟩ := HX.out _ _ _ _ r9
                      have zz := zg wr g6 H9 S6 (N + 1) (DS.upd f a m.d) i A9 ((DS.upd f a m.d) i) c9 d9 C6 hi t9 a9
                      rw [beq_self_eq_true] at zz
                      go_wp2_with (go_at_call 20; refine zz.mono ?_; (rintro e w10 ⟨H10, rfl, d10, K10⟩; have r10 := r9.keep K10))
                      go_roundw
                      case rel => exact ⟨i + 1, H10, by go_num, by omega, d10, r10⟩
                      case measure => simp [vN9]; omega
                    · obtain rfl : i = j := by omega
                      have hi' : ¬ (i : Int) < (i : Int) := by omega
                      go_wp2
                      go_roundw
                      case rel => exact ⟨k + 1, (N + 1), g6, H9, S6, (DS.upd f a m.d), rfl, by go_num, by omega, by omega, ⟨d9, C6, r9.has, by have := HI.out.Nk; first | omega | (have := HG.out.2; omega), by have := HI.out.ops; have := HO4.out; omega, r9.far, HI.out.gq, r9.below⟩⟩
                      case measure => simp [vN9]; omega
                · have HG := Lib.hid (And.intro hG hN5)
                  have hwd : ∀ w6 g6 H6 S6, Duo At SAt w6 b g6 H6 S6 ⟨0, j, N5, false⟩ → St.Calm S6 j N5 f5 → TabAt w6 → Aside H6 w6 m.A m.d → _ := fun w6 g6 H6 S6 h C t r => zg w6 g6 H6 S6 N5 f5 a m.A m.d m.cb h C HAJ.out t r
                  clear hG hN5
                  by_cases hfd : f5 a = m.d
                  · have hf := Lib.hid (hf1 hfd)
                    rw [hfd, beq_self_eq_true] at hwd
                    clear hf1 hf2
                    go_wp2_with (first
                      | ((with_reducible refine atWorld wr ?_); refine wpList_allocRow (w := wr) p9Ty rfl rfl ?_; (intro w1 b1 B1 s1; have b1 := Lib.hid b1; replace s1 := Lib.hid s1))
                      | ((with_reducible refine atWorld w1 ?_); refine wpList_storeRow (w := w1) p9Ty rfl (.tmp 11) (.tmp 56) rfl wr.heap.size (p9Cells m) p9Z rfl rfl rfl rfl (p9_one m) b1.out ?_; (intro w2 b2 B2 s2 k2; have B12 : Below wr.heap.size wr w2 := B1.trans B2; have r2 := Lib.hid (R0.out w2 B12 b2); have d2 := HDS.out _ _ _ _ _ _ _ HI.out.duo B12; have HB2 := Lib.hid B12; obtain ⟨x0, x1, x2, x3, x4, x5⟩ := p9_cells b2; obtain ⟨t2, v2, u2⟩ := HX.out _ _ _ _ r2.out; clear b1 B1 s1 B2 k2 b2 s2 B12))
                      | (go_at_call 15; (refine (zp w2).mono ?_); (rintro e w2' ⟨rfl, rfl⟩))
                      | (go_at_call 18; refine (zf w2 d2).mono ?_; (rintro e w3 ⟨H3, rfl, d3, K3⟩; have r3 := Lib.hid (r2.out.keep K3); obtain ⟨z0, z1, z2, z3, z4, z5⟩ := p9_cells r3.out.x; obtain ⟨t3, v3, u3⟩ := HX.out _ _ _ _ r3.out))
                      | (go_at_call 11; refine (zput w3 H3 d3 t3 v3).mono ?_; (rintro e w4 ⟨H4, rfl, d4, K4⟩; have r4 := Lib.hid (r3.out.keep K4); obtain ⟨q0, q1, q2, q3, q4, q5⟩ := p9_cells r4.out.x))
                      | ((with_reducible refine atWorld w4 ?_); refine wpList_loadRow (w := w4) p9Ty rfl (.tmp 11) rfl wr.heap.size 0 (p9Cells m) rfl rfl (rangeOf r4.out.x) ?_)
                      | (go_at_call 19; refine (zan w4 H4 S4 st4 N5 f5 _ _ d4 r4.out HG.out.1 (by have := HO4.out; have := HI.out.ops; omega)).mono ?_; (rintro e w6 ⟨g6, H6, S6, rfl, d6, C6, o6, K6⟩; have r6 := Lib.hid (r4.out.keep K6); obtain ⟨n0, n1, n2, n3, n4, n5⟩ := p9_cells r6.out.x; obtain ⟨t6, v6, u6⟩ := HX.out _ _ _ _ r6.out))
                      | (go_at_call 20; refine (hwd w6 g6 H6 S6 d6 C6 t6 v6).mono ?_; (rintro e w7 ⟨H7, rfl, d7, K7⟩; have r7 := Lib.hid (r6.out.keep K7); obtain ⟨l0, l1, l2, l3, l4, l5⟩ := p9_cells r7.out.x; obtain ⟨t7, v7, u7⟩ := HX.out _ _ _ _ r7.out; obtain ⟨vs, hvl, hvb⟩ := r7.out.has.row; have HV := Lib.hid (And.intro hvb hvl); clear hvb hvl))
                      | ((with_reducible refine atWorld w7 ?_); refine wpList_storeCell (w := w7) rfl 22 (.tmp 131) (.tmp 130) rfl (.slice m.A m.d.length m.cb) rfl rfl HV.out.1 (by rw [HV.out.2]; exact HAJ.out) sizeBB rfl ?_; (intro w8 b8 B8 s8 k8; have d8 := HDE.out _ _ _ _ _ _ _ q d7 r7.out.has.nq s8 k8; have r8 := Lib.hid ((r7.out.set HAJ.out v7 (arg_low mb.out) HV.out.1 b8 B8 s8 k8).congr hf.out); clear b8 B8 s8 k8)))
                    go_loopw [16] (fun ix wz => ∃ i H9, ix = .int .i64 ((i : Nat) : Int) ∧ i ≤ j ∧ Duo At SAt wz b g6 H9 S6 ⟨0, j, N5, false⟩ ∧ R9 w wr.heap.size q j m H9 wz f5) (fun ix _ => j - vN9 ix)
                    case atStart => exact ⟨0, _, rfl, Nat.zero_le _, d8, r8.out⟩
                    case round =>
                      obtain ⟨i, H9, rfl, hij, d9, r9⟩ := hrel
                      by_cases hi : i < j
                      · have hi' : (i : Int) < (j : Int) := by omega
                        have hi0 : (0 : Int) ≤ (i : Int) := by omega
                        have hwi : IntKind.i64.wrap ((i : Int) + 1) = (i : Int) + 1 := IntWalk.i64_in _ (by have := HN.out; omega)
                        obtain ⟨A9, c9, e9, a9⟩ := r9.has.at_ hi
                        obtain ⟨t9, _, _⟩ := HX.out _ _ _ _ r9
                        have zz := zg wr g6 H9 S6 N5 f5 i A9 (f5 i) c9 d9 C6 hi t9 a9
                        rw [beq_self_eq_true] at zz
                        go_wp2_with (go_at_call 20; refine zz.mono ?_; (rintro e w10 ⟨H10, rfl, d10, K10⟩; have r10 := r9.keep K10))
                        go_roundw
                        case rel => exact ⟨i + 1, H10, by go_num, by omega, d10, r10⟩
                        case measure => simp [vN9]; omega
                      · obtain rfl : i = j := by omega
                        have hi' : ¬ (i : Int) < (i : Int) := by omega
                        go_wp2
                        go_roundw
                        case rel => exact ⟨k + 1, N5, g6, H9, S6, f5, rfl, by go_num, by omega, by omega, ⟨d9, C6, r9.has, by have := HI.out.Nk; first | omega | (have := HG.out.2; omega), by have := HI.out.ops; have := HO4.out; omega, r9.far, HI.out.gq, r9.below⟩⟩
                        case measure => simp [vN9]; omega
                  · have hf := hf2 hfd
                    subst hf
                    rw [show (f5 a == m.d) = false by simpa using hfd] at hwd
                    clear hf1 hf2
                    go_wp2_with (first
                      | ((with_reducible refine atWorld wr ?_); refine wpList_allocRow (w := wr) p9Ty rfl rfl ?_; (intro w1 b1 B1 s1; have b1 := Lib.hid b1; replace s1 := Lib.hid s1))
                      | ((with_reducible refine atWorld w1 ?_); refine wpList_storeRow (w := w1) p9Ty rfl (.tmp 11) (.tmp 56) rfl wr.heap.size (p9Cells m) p9Z rfl rfl rfl rfl (p9_one m) b1.out ?_; (intro w2 b2 B2 s2 k2; have B12 : Below wr.heap.size wr w2 := B1.trans B2; have r2 := Lib.hid (R0.out w2 B12 b2); have d2 := HDS.out _ _ _ _ _ _ _ HI.out.duo B12; have HB2 := Lib.hid B12; obtain ⟨x0, x1, x2, x3, x4, x5⟩ := p9_cells b2; obtain ⟨t2, v2, u2⟩ := HX.out _ _ _ _ r2.out; clear b1 B1 s1 B2 k2 b2 s2 B12))
                      | (go_at_call 15; (refine (zp w2).mono ?_); (rintro e w2' ⟨rfl, rfl⟩))
                      | (go_at_call 18; refine (zf w2 d2).mono ?_; (rintro e w3 ⟨H3, rfl, d3, K3⟩; have r3 := Lib.hid (r2.out.keep K3); obtain ⟨z0, z1, z2, z3, z4, z5⟩ := p9_cells r3.out.x; obtain ⟨t3, v3, u3⟩ := HX.out _ _ _ _ r3.out))
                      | (go_at_call 11; refine (zput w3 H3 d3 t3 v3).mono ?_; (rintro e w4 ⟨H4, rfl, d4, K4⟩; have r4 := Lib.hid (r3.out.keep K4); obtain ⟨q0, q1, q2, q3, q4, q5⟩ := p9_cells r4.out.x))
                      | ((with_reducible refine atWorld w4 ?_); refine wpList_loadRow (w := w4) p9Ty rfl (.tmp 11) rfl wr.heap.size 0 (p9Cells m) rfl rfl (rangeOf r4.out.x) ?_)
                      | (go_at_call 19; refine (zan w4 H4 S4 st4 N5 f5 _ _ d4 r4.out HG.out.1 (by have := HO4.out; have := HI.out.ops; omega)).mono ?_; (rintro e w6 ⟨g6, H6, S6, rfl, d6, C6, o6, K6⟩; have r6 := Lib.hid (r4.out.keep K6); obtain ⟨n0, n1, n2, n3, n4, n5⟩ := p9_cells r6.out.x; obtain ⟨t6, v6, u6⟩ := HX.out _ _ _ _ r6.out))
                      | (go_at_call 20; refine (hwd w6 g6 H6 S6 d6 C6 t6 v6).mono ?_; (rintro e w7 ⟨H7, rfl, d7, K7⟩; have r7 := Lib.hid (r6.out.keep K7))))
                    go_loopw [16] (fun ix wz => ∃ i H9, ix = .int .i64 ((i : Nat) : Int) ∧ i ≤ j ∧ Duo At SAt wz b g6 H9 S6 ⟨0, j, N5, false⟩ ∧ R9 w wr.heap.size q j m H9 wz f5) (fun ix _ => j - vN9 ix)
                    case atStart => exact ⟨0, _, rfl, Nat.zero_le _, d7, r7.out⟩
                    case round =>
                      obtain ⟨i, H9, rfl, hij, d9, r9⟩ := hrel
                      by_cases hi : i < j
                      · have hi' : (i : Int) < (j : Int) := by omega
                        have hi0 : (0 : Int) ≤ (i : Int) := by omega
                        have hwi : IntKind.i64.wrap ((i : Int) + 1) = (i : Int) + 1 := IntWalk.i64_in _ (by have := HN.out; omega)
                        obtain ⟨A9, c9, e9, a9⟩ := r9.has.at_ hi
                        obtain ⟨t9, _, _⟩ := HX.out _ _ _ _ r9
                        have zz := zg wr g6 H9 S6 N5 f5 i A9 (f5 i) c9 d9 C6 hi t9 a9
                        rw [beq_self_eq_true] at zz
                        go_wp2_with (go_at_call 20; refine zz.mono ?_; (rintro e w10 ⟨H10, rfl, d10, K10⟩; have r10 := r9.keep K10))
                        go_roundw
                        case rel => exact ⟨i + 1, H10, by go_num, by omega, d10, r10⟩
                        case measure => simp [vN9]; omega
                      · obtain rfl : i = j := by omega
                        have hi' : ¬ (i : Int) < (i : Int) := by omega
                        go_wp2
                        go_roundw
                        case rel => exact ⟨k + 1, N5, g6, H9, S6, f5, rfl, by go_num, by omega, by omega, ⟨d9, C6, r9.has, by have := HI.out.Nk; first | omega | (have := HG.out.2; omega), by have := HI.out.ops; have := HO4.out; omega, r9.far, HI.out.gq, r9.below⟩⟩
                        case measure => simp [vN9]; omega
            · have zp := fun w : World => pick_any m.blk j w bln.1 bln.2 (by have := HN.out; omega) (by have := HN.out; omega)
              obtain ⟨mp, hmp⟩ : ∃ x, x = m.blk % (j : Int) := ⟨_, rfl⟩
              rw [← hmp] at zp
              clear bln hmp
              by_cases hb32 : m.d.length = 32
              · have i1 : ((m.d.length : Int) != 32) = false := by simp [hb32]
                have i2 : (10 : Int) < (m.keeps.length : Int) := by omega
                have i3 : decide ((10 : Int) < (m.keeps.length : Int)) = true := by simp; omega
                clear hb32 hbad
                go_wp2_with (first
                  | ((with_reducible refine atWorld wr ?_); refine wpList_allocRow (w := wr) p9Ty rfl rfl ?_; (intro w1 b1 B1 s1; have b1 := Lib.hid b1; replace s1 := Lib.hid s1))
                  | ((with_reducible refine atWorld w1 ?_); refine wpList_storeRow (w := w1) p9Ty rfl (.tmp 11) (.tmp 56) rfl wr.heap.size (p9Cells m) p9Z rfl rfl rfl rfl (p9_one m) b1.out ?_; (intro w2 b2 B2 s2 k2; have B12 : Below wr.heap.size wr w2 := B1.trans B2; have r2 := Lib.hid (R0.out w2 B12 b2); have d2 := HDS.out _ _ _ _ _ _ _ HI.out.duo B12; have HB2 := Lib.hid B12; obtain ⟨x0, x1, x2, x3, x4, x5⟩ := p9_cells b2; obtain ⟨t2, v2, u2⟩ := HX.out _ _ _ _ r2.out; clear b1 B1 s1 B2 k2 b2 s2 B12))
                  | (go_at_call 15; (refine (zp w2).mono ?_); (rintro e w2' ⟨rfl, rfl⟩)))
                go_ret
                exact ⟨rfl, r2.out.below⟩
              · have i1 : ((m.d.length : Int) != 32) = true := by simp; omega
                clear hb32 hbad
                go_wp2_with (first
                  | ((with_reducible refine atWorld wr ?_); refine wpList_allocRow (w := wr) p9Ty rfl rfl ?_; (intro w1 b1 B1 s1; have b1 := Lib.hid b1; replace s1 := Lib.hid s1))
                  | ((with_reducible refine atWorld w1 ?_); refine wpList_storeRow (w := w1) p9Ty rfl (.tmp 11) (.tmp 56) rfl wr.heap.size (p9Cells m) p9Z rfl rfl rfl rfl (p9_one m) b1.out ?_; (intro w2 b2 B2 s2 k2; have B12 : Below wr.heap.size wr w2 := B1.trans B2; have r2 := Lib.hid (R0.out w2 B12 b2); have d2 := HDS.out _ _ _ _ _ _ _ HI.out.duo B12; have HB2 := Lib.hid B12; obtain ⟨x0, x1, x2, x3, x4, x5⟩ := p9_cells b2; obtain ⟨t2, v2, u2⟩ := HX.out _ _ _ _ r2.out; clear b1 B1 s1 B2 k2 b2 s2 B12))
                  | (go_at_call 15; (refine (zp w2).mono ?_); (rintro e w2' ⟨rfl, rfl⟩)))
                go_ret
                exact ⟨rfl, r2.out.below⟩
          · have hlt' : (k : Int) < (len : Int) := by omega
            have h20' : ¬ (k : Int) < 20 := by omega
            have hb := inv.below
            clear inv
            go_wp2
            go_ret
            exact ⟨rfl, hb⟩
        · have hlt' : ¬ (k : Int) < (len : Int) := by omega
          have hb := inv.below
          clear inv
          go_wp2
          go_ret
          exact ⟨rfl, hb⟩
end
end Go.Proofs.YtlchpolheciadaaDoor
