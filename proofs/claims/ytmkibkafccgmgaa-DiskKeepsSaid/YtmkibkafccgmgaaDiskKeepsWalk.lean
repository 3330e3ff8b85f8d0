/-
  The walk of DiskKeeps. Conditions: a disk's methods do what the document says (Disks).
-/
import Derived.Test.YtmkibkafccgmgaaDiskAwake
import Derived.Test.YtmkibkafccgmgaaDiskKeep
import Derived.Test.YtmkibkafccgmgaaDiskPuts
import Derived.Test.YtmkibkafccgmgaaKit
import Derived.Test.YtmkibkafccgmgaaUndrew
import Derived.Deep.RegionHeld3
import Derived.Deep.CutRange
namespace Go.Proofs.Ytmkibkafccgmgaa
open Go.RowKit DS

section
variable {At : World → Nat → (Nat → Prop) → DS → Prop} (D : Disks Try.prog At)
include D
set_option maxRecDepth 100000 in
theorem keeps_walk (s0 tear : Int) (A : Option Addr) (ps : List PutV) (c : Nat) (A2 : Option Addr) (keeps : List Bool) (cc2 : Nat) (w : World) (hn : -9223372036854775808 ≤ s0) (hn2 : s0 ≤ 9223372036854775807) (hl : ps.length ≤ 60) (hl2 : keeps.length ≤ 100) (hlc2 : keeps.length ≤ cc2)
    (hr : PutsAt w w.heap.size A ps) (hr2 : RowAt w w.heap.size A2 (keeps.map Value.bool))
    (hps : ∀ p ∈ ps, -9223372036854775808 ≤ p.sector ∧ p.sector ≤ 9223372036854775807) :
    Calls Try.prog 5 #[.int .i64 s0, .slice A ps.length c, .slice A2 keeps.length cc2, .int .i64 tear] w fun e w' => e = .returned (.bool true) ∧ Below w.heap.size w w' := by
  obtain ⟨m, hm⟩ : ∃ m : Nat, 1 + s0 % 16 = (m : Int) := ⟨(1 + s0 % 16).toNat, by omega⟩
  have hm1 : 1 ≤ m := by omega
  have hm2 : m ≤ 16 := by omega
  have z0 : ∀ w, Calls Try.prog 10 #[.int .i64 (m : Int)] w fun e w' => ∃ b F, e = .returned (.tuple #[.pointer (some ⟨b, 0, none⟩), .int .i64 0]) ∧ At w' b F (DS.fresh m) ∧ (∀ k, F k → w.heap.size ≤ k) ∧ Below w.heap.size w w' := fun w => D.new_yes m w hm1 (by omega)
  have zp := fun w => pick_any s0 16 w hn hn2 (by decide) (by decide)
  have g1 : ¬ (60 : Int) < (ps.length : Int) := by omega
  have g2 : ¬ (100 : Int) < (keeps.length : Int) := by omega
  have hmk := make_bytes m (by omega)
  go_enter Try.func5, Try.ntmps5
  go_wp2_with (first
    | (go_at_call 12; ((with_reducible refine (awake_any D w).mono ?_); (rintro e w1 ⟨rfl, c1⟩)))
    | (go_at_call 27; ((with_reducible refine (zp w1).mono ?_); (rintro e w3 ⟨rfl, rfl⟩)))
    | (go_at_call 10; ((with_reducible refine (z0 w1).mono ?_); (rintro e w2 ⟨b, F0, rfl, hat2, hF0, hB2⟩; have c2 := step_trans c1 hB2))))
  clear hm
  have HI := Lib.hid (two_makes D m hat2 (fun k hk => Nat.le_trans c1.size (hF0 k hk)) c2)
  have hsz := c2.size
  clear hat2 hF0 hB2 c1 c2 z0 zp
  go_cut [12, 13] from 43 to 46 (fun f l wx => ∃ gf gl, f = .slice (some ⟨gf, 0, none⟩) m m ∧ l = .slice (some ⟨gl, 0, none⟩) m m ∧ gf ≠ gl ∧ w.heap.size ≤ gf ∧ w.heap.size ≤ gl ∧ At wx b F0 (DS.fresh m) ∧ BlkB wx gf (List.replicate m 0) ∧ BlkB wx gl (List.replicate m 0) ∧ (∀ k, F0 k → w.heap.size ≤ k ∧ k ≠ gf ∧ k ≠ gl) ∧ Below w.heap.size w wx)
  case first =>
    go_region
    all_goals (go_wp2_with fail; go_meet)
    all_goals (obtain ⟨h1, h2, h3, h4, h5⟩ := HI.out)
    · exact ⟨w2.heap.size, w2.heap.size + 1, rfl, rfl, by omega, by omega, by omega, h3, h1, h2, h4, h5⟩
    · exact ⟨w2.heap.size + 1, w2.heap.size, rfl, rfl, by omega, by omega, by omega, h3, h2, h1, fun k hk => ⟨(h4 k hk).1, (h4 k hk).2.2, (h4 k hk).2.1⟩, h5⟩
  case rest =>
    obtain ⟨gf, gl, rfl, rfl, hne, hgw1, hgw2, HIc⟩ := hcut
    have hgw := And.intro hgw1 hgw2
    replace HI := Lib.hid HIc
    have hfr := Lib.hid (fresh_kep m)
    clear HIc
    go_wp2
    go_loopw [14] (fun iv wr => ∃ i d fl ll S F, i ≤ ps.length ∧ iv = .int .i64 ((i : Nat) : Int) ∧ d ≤ 2 * i ∧ At wr b F S ∧ Kep m d fl ll S ∧ BlkB wr gf fl ∧ BlkB wr gl ll ∧ (∀ k, F k → w.heap.size ≤ k ∧ k ≠ gf ∧ k ≠ gl) ∧ Below w.heap.size w wr) (fun iv _ => ps.length - (intOf iv).toNat)
    case atStart =>
      obtain ⟨h3, h1, h2, h4, h5⟩ := HI.out
      exact ⟨0, 0, _, _, _, F0, Nat.zero_le _, rfl, Nat.zero_le _, h3, hfr.out, h1, h2, h4, h5⟩
    case round =>
      clear HI hfr
      obtain ⟨i, d, fl, ll, S, F, hi, rfl, hdi, hat, hkep, hbf, hbl, hF, hB⟩ := hrel
      have hlf := Lib.hid hkep.lf
      have hll := Lib.hid hkep.ll_
      have hops := Lib.hid (show S.ops ≤ 1000000 by rw [hkep.ops]; omega)
      by_cases hlt : i < ps.length
      · obtain ⟨p, hp⟩ : ∃ p, ps[i]? = some p := ⟨_, List.getElem?_eq_getElem hlt⟩
        obtain ⟨ad, rfl, hadb, x1, x2, x3⟩ := (hr.below hB).at_ hp
        have hpr := hps p (List.mem_of_getElem? hp)
        obtain ⟨k, hk⟩ : ∃ k : Nat, p.sector % (m : Int) = (k : Int) := ⟨(p.sector % (m : Int)).toNat, by have := Int.emod_nonneg p.sector (b := (m : Int)) (by omega); omega⟩
        have hkm : k < m := by have := Int.emod_lt_of_pos p.sector (b := (m : Int)) (by omega); omega
        have zq := fun w => pick_any p.sector (m : Int) w hpr.1 hpr.2 (by omega) (by omega)
        rw [hk] at zq
        have ha : (ad.add (i * 3)).block < w.heap.size := by rw [block_add]; exact hadb
        have HY := Lib.hid (hkep.write k hkm p.byte)
        have hops2 := Lib.hid (show d + 1 ≤ 1000000 by omega)
        clear hk hpr hp
        cases hfl : p.flush with
        | false =>
          rw [hfl] at x3
          go_wp2_with (first
            | (go_at_call 27; ((with_reducible refine (zq wr).mono ?_); (rintro e w5 ⟨rfl, rfl⟩)))
            | (go_at_call 28; ((with_reducible refine (of_any p.byte wr).mono ?_); (rintro e w6 ⟨g6, rfl, hg6, hb6, hB6⟩; have hat6 := At_step D hat hB6; have c6 := hB.trans (hB6.mono hB.size); have hbf6 := hbf.step hB6; have hbl6 := hbl.step hB6)))
            | (go_at_call 18; ((with_reducible refine (D.write w6 b F S (k : Int) (some ⟨g6, 0, none⟩) (sec p.byte) 64 64 hat6 hops.out hb6.at_ (sec_length _) (Nat.le_refl _)).mono ?_); (rintro e w7 ⟨F7, rfl, hat7, hF7, hFr7⟩; rw [HY.out.1]; have hFk := fun j hj => (hF7 j hj).elim (fun h => hF j h) (fun h => (⟨Nat.le_trans c6.size h, fun e => by (have := hbf6.lt; omega), fun e => by (have := hbl6.lt; omega)⟩ : w.heap.size ≤ j ∧ j ≠ gf ∧ j ≠ gl)); have c7 := c6.trans (hFr7.below (fun j hj => (hF j hj).1) c6.size); have hbf7 := hFr7.blk hbf6 (fun h => (hF gf h).2.1 rfl); have hbl7 := hFr7.blk hbl6 (fun h => (hF gl h).2.2 rfl); have y2 := keep_cell hB c7 x2 ha; have y3 := keep_cell hB c7 x3 ha; have y4 := hbl7.cell k (by rw [hll.out]; exact hkm); have y5 := hbl7.frozen k; have hbl7' := hbl7.set_ k p.byte; have hbf7' := blkB_other hbf7 ⟨gl, k, none⟩ (.int .u8 (p.byte.toNat : Int)) hne; have hat7' := At_set D hat7 ⟨gl, k, none⟩ (.int .u8 (p.byte.toNat : Int)) (fun h => (hFk gl h).2.2 rfl); have c7' := c7.setCell (p := ⟨gl, k, none⟩) hgw.2 (.int .u8 (p.byte.toNat : Int)); have y6 := keep_cell c7 c7' y3 ha; replace hbl7' := Lib.hid hbl7'; replace hbf7' := Lib.hid hbf7'; clear hbf hbl hbf6 hbl6 hbf7 hbl7))))
          go_roundw
          case rel => exact ⟨i + 1, d + 1, fl, ll.set k p.byte, (S.write (k : Int) (sec p.byte)).1, F7, by omega, by go_num, by omega, hat7', HY.out.2, hbf7'.out, hbl7'.out, hFk, c7'⟩
          case measure => simp [intOf]; omega
        | true =>
          rw [hfl] at x3
          go_wp2_with (first
            | (go_at_call 27; ((with_reducible refine (zq wr).mono ?_); (rintro e w5 ⟨rfl, rfl⟩)))
            | (go_at_call 28; ((with_reducible refine (of_any p.byte wr).mono ?_); (rintro e w6 ⟨g6, rfl, hg6, hb6, hB6⟩; have hat6 := At_step D hat hB6; have c6 := hB.trans (hB6.mono hB.size); have hbf6 := hbf.step hB6; have hbl6 := hbl.step hB6)))
            | (go_at_call 18; ((with_reducible refine (D.write w6 b F S (k : Int) (some ⟨g6, 0, none⟩) (sec p.byte) 64 64 hat6 hops.out hb6.at_ (sec_length _) (Nat.le_refl _)).mono ?_); (rintro e w7 ⟨F7, rfl, hat7, hF7, hFr7⟩; rw [HY.out.1]; have hFk := fun j hj => (hF7 j hj).elim (fun h => hF j h) (fun h => (⟨Nat.le_trans c6.size h, fun e => by (have := hbf6.lt; omega), fun e => by (have := hbl6.lt; omega)⟩ : w.heap.size ≤ j ∧ j ≠ gf ∧ j ≠ gl)); have c7 := c6.trans (hFr7.below (fun j hj => (hF j hj).1) c6.size); have hbf7 := hFr7.blk hbf6 (fun h => (hF gf h).2.1 rfl); have hbl7 := hFr7.blk hbl6 (fun h => (hF gl h).2.2 rfl); have y2 := keep_cell hB c7 x2 ha; have y3 := keep_cell hB c7 x3 ha; have y4 := hbl7.cell k (by rw [hll.out]; exact hkm); have y5 := hbl7.frozen k; have hbl7' := hbl7.set_ k p.byte; have hbf7' := blkB_other hbf7 ⟨gl, k, none⟩ (.int .u8 (p.byte.toNat : Int)) hne; have hat7' := At_set D hat7 ⟨gl, k, none⟩ (.int .u8 (p.byte.toNat : Int)) (fun h => (hFk gl h).2.2 rfl); have c7' := c7.setCell (p := ⟨gl, k, none⟩) hgw.2 (.int .u8 (p.byte.toNat : Int)); have y6 := keep_cell c7 c7' y3 ha; replace hbl7' := Lib.hid hbl7'; replace hbf7' := Lib.hid hbf7'; clear hbf hbl hbf6 hbl6 hbf7 hbl7)))
            | (go_at_call 19; ((with_reducible refine (D.flush (w7.setCell ⟨gl, k, none⟩ (.int .u8 (p.byte.toNat : Int))) b F7 (S.write (k : Int) (sec p.byte)).1 hat7' (by rw [HY.out.2.ops]; exact hops2.out)).mono ?_); (rintro e w8 ⟨F8, rfl, hat8, hF8, hFr8⟩; rw [HY.out.2.flush.1]; have hFm := fun j hj => (hF8 j hj).elim (fun h => hFk j h) (fun h => (⟨Nat.le_trans c7'.size h, fun e => by (have := hbf7'.out.lt; omega), fun e => by (have := hbl7'.out.lt; omega)⟩ : w.heap.size ≤ j ∧ j ≠ gf ∧ j ≠ gl)); have c8 := c7'.trans (hFr8.below (fun j hj => (hFk j hj).1) c7'.size); have hbf8 := hFr8.blk hbf7'.out (fun h => (hFk gf h).2.1 rfl); have hbl8 := hFr8.blk hbl7'.out (fun h => (hFk gl h).2.2 rfl); replace hbf8 := Lib.hid hbf8; replace hbl8 := Lib.hid hbl8)))
            | ((with_reducible refine wpList_copy_blk rfl (.tmp 86) (.tmp 87) rfl gf gl m m m rfl rfl fl (ll.set k p.byte) hlf.out (by rw [List.length_set]; exact hll.out) hbf8.out hbl8.out ?_); (intro w9 hbf9 hFr9; have hat9 := At_frame D hat8 hFr9 (fun j hj e => (hFm j hj).2.1 e); have hbl9 := hFr9.blk hbl8.out (fun e => hne e.symm); have c9 := c8.trans (hFr9.below (fun j (hj : j = gf) => by omega) c8.size); replace hbf9 := Lib.hid hbf9; replace hbl9 := Lib.hid hbl9)))
          go_roundw
          case rel => exact ⟨i + 1, d + 2, ll.set k p.byte, ll.set k p.byte, (S.write (k : Int) (sec p.byte)).1.flush.1, F8, by omega, by go_num, by omega, hat9, HY.out.2.flush.2, hbf9.out, hbl9.out, hFm, c9⟩
          case measure => simp [intOf]; omega
      · obtain rfl : i = ps.length := by omega
        have hk2 : RowAt wr wr.heap.size A2 (keeps.map Value.bool) := (hr2.below hB).more hB.size
        go_wp2_with (first
          | (go_at_call 20; ((with_reducible refine (D.crash wr b F S A2 keeps keeps.length cc2 tear hat hk2 rfl hlc2).mono ?_); (rintro e w5 ⟨F5, rfl, hat5, hF5, hFr5⟩; have c5 := hB.trans (hFr5.below (fun j hj => (hF j hj).1) hB.size); have hbf5 := hFr5.blk hbf (fun h => (hF gf h).2.1 rfl); have hbl5 := hFr5.blk hbl (fun h => (hF gl h).2.2 rfl))))
          | (go_at_call 26; ((with_reducible refine (D.loose w5 b F5 (S.crash keeps tear) hat5).mono ?_); (rintro e w6 ⟨A6, cc6, rfl, _, _, hB6⟩; rw [crash_looseList]; have hat6 := At_step D hat5 hB6; have c6 := c5.trans (hB6.mono c5.size); have hbf6 := hbf5.step hB6; have hbl6 := hbl5.step hB6))))
        have HI := Lib.hid (And.intro hat6 (And.intro hbf6 (And.intro hbl6 c6)))
        have HK := Lib.hid hkep
        have hq : ∀ (g : Nat) (W : World), (Instr.slice 36 (.slice (some ⟨g, 0, none⟩) 64 64) none (some (.int .i64 32)) none).run Try.prog W = .ok (.slice (some ⟨g, 0, none⟩) 32 64) W := fun g W => cut_to (some ⟨g, 0, none⟩) 64 64 32 (by decide) W
        clear hk2 hat hkep hbf hbl hF hB hdi hat5 hF5 hFr5 c5 hbf5 hbl5 hB6 hat6 c6 hbf6 hbl6 hops
        go_loopw [16, 17] (fun tv iv wx => ∃ k t : Nat, k ≤ m ∧ iv = .int .i64 (k : Int) ∧ tv = .int .i64 (t : Int) ∧ Torn S keeps tear k t ∧ At wx b F5 (S.crash keeps tear) ∧ BlkB wx gf fl ∧ BlkB wx gl ll ∧ Below w.heap.size w wx) (fun _ iv _ => m - (intOf iv).toNat)
        case atStart =>
          obtain ⟨h1, h2, h3, h4⟩ := HI.out
          exact ⟨0, 0, Nat.zero_le _, rfl, rfl, Torn.zero _ _ _, h1, h2, h3, h4⟩
        case round =>
          clear HI
          obtain ⟨k, t, hk, rfl, rfl, htn, hat, hbf, hbl, hB⟩ := hrel
          have ht1 := htn.1
          have HTN := Lib.hid htn
          by_cases hkm : k < m
          · obtain ⟨x, hx⟩ : ∃ x, x = ll.getD k 0 := ⟨_, rfl⟩
            obtain ⟨y, hy⟩ : ∃ x, x = fl.getD k 0 := ⟨_, rfl⟩
            have kl : ∀ w', Below wr.heap.size wr w' → w'.cell? ⟨gl, k, none⟩ = some (.int .u8 (x.toNat : Int)) := fun w' h => by rw [hx]; exact (hbl.step h).cell k (by rw [hll.out]; exact hkm)
            have kf : ∀ w', Below wr.heap.size wr w' → w'.cell? ⟨gf, k, none⟩ = some (.int .u8 (y.toNat : Int)) := fun w' h => by rw [hy]; exact (hbf.step h).cell k (by rw [hlf.out]; exact hkm)
            have l0 := kl wr (Below.refl _ _)
            have f0 := kf wr (Below.refl _ _)
            have b0 := (Below.refl wr.heap.size wr).drew
            have hsl : ∀ z : UInt8, ((sec z).take 32).length = 32 := fun z => by simp [sec]
            have HX := Lib.hid (And.intro hx hy)
            have hbf' := Lib.hid hbf
            have hbl' := Lib.hid hbl
            replace hsl := Lib.hid hsl
            clear hx hy hbf hbl htn
            go_wp2
            go_region_held3 (fun w' => w'.cell? ⟨gl, k, none⟩ = some (.int .u8 (x.toNat : Int)) ∧ w'.cell? ⟨gf, k, none⟩ = some (.int .u8 (y.toNat : Int)) ∧ Below wr.heap.size wr w') (first | assumption | exact ⟨l0, f0, b0⟩ | exact ⟨kl _ b10, kf _ b10, b10⟩ | exact ⟨kl _ b11, kf _ b11, b11⟩ | exact ⟨kl _ b14, kf _ b14, b14⟩) (first
              | (go_at_call 28; first
                | ((with_reducible refine (of_any x wr.drew).mono ?_); (rintro e w10 ⟨g10, rfl, hg10, hb10, hB10⟩; have b10 : Below wr.heap.size wr w10 := undrewD hB10))
                | ((with_reducible refine (of_any y w10).mono ?_); (rintro e w11 ⟨g11, rfl, hg11, hb11, hB11⟩; have b11 := step_trans b10 hB11; have ho11 : OwnB w11 wr.heap.size (.slice (some ⟨g10, 0, none⟩) 32 64) ((sec x).take 32) := (hb10.step hB11).own_cut hg10 32 64 (by rw [sec_length]; decide) (sec_length _) (by decide))))
              | (refine step_appendB rfl (.tmp 110) (.tmp 116) 36 rfl rfl wr.heap.size _ ((sec x).take 32) rfl ho11 (some ⟨g11, 0, none⟩) ((sec y).take 32) 32 64 w11.heap.size rfl (hsl.out y) (hb11.at_.take 32) (by rw [hsl.out, hsl.out]; decide) b11.size ?_; (intro v14 w14 ho14 hg14 hx14; have b14 : Below wr.heap.size wr w14 := b11.grown hg14 b11.size (fun j hj => (ho11.lt j hj).1); change OwnB w14 wr.heap.size v14 (half x y) at ho14)))
            obtain ⟨A14, c14, rfl, _⟩ := ho14.form
            rw [half_length] at ho14 ⊢
            have l14 := kl w14 b14
            have hat14 := At_step D hat b14
            have hB14 := hB.trans (b14.mono hB.size)
            have ht2 : (t : Int) ≤ 1 := by omega
            have hHL := Lib.hid (half_length x y)
            cases hR1 : ((S.crash keeps tear).readE (k : Int) == 0 && (S.crash keeps tear).readB (k : Int) == sec x) with
            | true =>
              go_wp2_with (first
                | (go_at_call 28; ((with_reducible refine (of_any x w14).mono ?_); (rintro e w15 ⟨g15, rfl, hg15, hb15, hB15⟩; have hat15 := At_step D hat14 hB15; have b15 := step_trans b14 hB15; have c15 := hB14.trans (hB15.mono hB14.size))))
                | (go_at_call 29; ((with_reducible refine (reads_any D w15 b F5 (S.crash keeps tear) (k : Int) (some ⟨g15, 0, none⟩) (sec x) 64 64 (sec_length _) hat15 hb15.at_).mono ?_); (rintro e w16 ⟨rfl, hB16⟩; rw [hR1]; have hat16 := At_step D hat15 hB16; have b16 := step_trans b15 hB16; have c16 := c15.trans (hB16.mono c15.size)))))
              go_roundw
              case rel => exact ⟨k + 1, t, by omega, by go_num, rfl, HTN.out.next, hat16, hbf'.out.step b16, hbl'.out.step b16, c16⟩
              case measure => simp [intOf]; omega
            | false =>
              cases hR2 : ((S.crash keeps tear).readE (k : Int) == 0 && (S.crash keeps tear).readB (k : Int) == sec y) with
              | true =>
                go_wp2_with (first
                  | (go_at_call 28; first
                    | ((with_reducible refine (of_any x w14).mono ?_); (rintro e w15 ⟨g15, rfl, hg15, hb15, hB15⟩; have hat15 := At_step D hat14 hB15; have b15 := step_trans b14 hB15; have c15 := hB14.trans (hB15.mono hB14.size)))
                    | ((with_reducible refine (of_any y w16).mono ?_); (rintro e w17 ⟨g17, rfl, hg17, hb17, hB17⟩; have hat17 := At_step D hat16 hB17; have b17 := step_trans b16 hB17; have c17 := c16.trans (hB17.mono c16.size))))
                  | (go_at_call 29; first
                    | ((with_reducible refine (reads_any D w15 b F5 (S.crash keeps tear) (k : Int) (some ⟨g15, 0, none⟩) (sec x) 64 64 (sec_length _) hat15 hb15.at_).mono ?_); (rintro e w16 ⟨rfl, hB16⟩; rw [hR1]; have hat16 := At_step D hat15 hB16; have b16 := step_trans b15 hB16; have c16 := c15.trans (hB16.mono c15.size); have f16 := kf w16 b16))
                    | ((with_reducible refine (reads_any D w17 b F5 (S.crash keeps tear) (k : Int) (some ⟨g17, 0, none⟩) (sec y) 64 64 (sec_length _) hat17 hb17.at_).mono ?_); (rintro e w18 ⟨rfl, hB18⟩; rw [hR2]; have hat18 := At_step D hat17 hB18; have b18 := step_trans b17 hB18; have c18 := c17.trans (hB18.mono c17.size)))))
                go_roundw
                case rel => exact ⟨k + 1, t, by omega, by go_num, rfl, HTN.out.next, hat18, hbf'.out.step b18, hbl'.out.step b18, c18⟩
                case measure => simp [intOf]; omega
              | false =>
                have HT := Lib.hid (HK.out.torn hkm HTN.out (by rw [← HX.out.1]; exact hR1) (by rw [← HX.out.2]; exact hR2))
                rw [← HX.out.1, ← HX.out.2] at HT
                go_wp2_with (first
                  | (go_at_call 28; first
                    | ((with_reducible refine (of_any x w14).mono ?_); (rintro e w15 ⟨g15, rfl, hg15, hb15, hB15⟩; have hat15 := At_step D hat14 hB15; have b15 := step_trans b14 hB15; have c15 := hB14.trans (hB15.mono hB14.size)))
                    | ((with_reducible refine (of_any y w16).mono ?_); (rintro e w17 ⟨g17, rfl, hg17, hb17, hB17⟩; have hat17 := At_step D hat16 hB17; have b17 := step_trans b16 hB17; have c17 := c16.trans (hB17.mono c16.size))))
                  | (go_at_call 29; first
                    | ((with_reducible refine (reads_any D w15 b F5 (S.crash keeps tear) (k : Int) (some ⟨g15, 0, none⟩) (sec x) 64 64 (sec_length _) hat15 hb15.at_).mono ?_); (rintro e w16 ⟨rfl, hB16⟩; rw [hR1]; have hat16 := At_step D hat15 hB16; have b16 := step_trans b15 hB16; have c16 := c15.trans (hB16.mono c15.size); have f16 := kf w16 b16))
                    | ((with_reducible refine (reads_any D w17 b F5 (S.crash keeps tear) (k : Int) (some ⟨g17, 0, none⟩) (sec y) 64 64 (sec_length _) hat17 hb17.at_).mono ?_); (rintro e w18 ⟨rfl, hB18⟩; rw [hR2]; have hat18 := At_step D hat17 hB18; have b18 := step_trans b17 hB18; have c18 := c17.trans (hB18.mono c17.size); have hh18 := ((ho14.bytes.step hB15).step hB16).step hB17; replace hh18 := hh18.step hB18))
                    | ((with_reducible refine (reads_any D w18 b F5 (S.crash keeps tear) (k : Int) A14 (half x y) 64 c14 hHL.out hat18 hh18).mono ?_); (rintro e w19 ⟨rfl, hB19⟩; rw [HT.out.1]; have hat19 := At_step D hat18 hB19; have b19 := step_trans b18 hB19; have c19 := c18.trans (hB19.mono c18.size)))))
                go_roundw
                case rel => exact ⟨k + 1, t + 1, by omega, by go_num, by go_num, HT.out.2, hat19, hbf'.out.step b19, hbl'.out.step b19, c19⟩
                case measure => simp [intOf]; omega
          · obtain rfl : k = m := by omega
            have ht2 : (t : Int) ≤ 1 := by omega
            go_wp2
            go_ret
            exact ⟨rfl, hB⟩
set_option maxRecDepth 100000 in
theorem keeps_long (s0 tear : Int) (A : Option Addr) (ps : List PutV) (c : Nat) (A2 : Option Addr) (keeps : List Bool) (cc2 : Nat) (w : World) (hn : -9223372036854775808 ≤ s0) (hn2 : s0 ≤ 9223372036854775807) (h : 60 < ps.length ∨ 100 < keeps.length) :
    Calls Try.prog 5 #[.int .i64 s0, .slice A ps.length c, .slice A2 keeps.length cc2, .int .i64 tear] w fun e w' => e = .returned (.bool true) ∧ Below w.heap.size w w' := by
  obtain ⟨m, hm⟩ : ∃ m : Nat, 1 + s0 % 16 = (m : Int) := ⟨(1 + s0 % 16).toNat, by omega⟩
  have z0 : ∀ w, Calls Try.prog 10 #[.int .i64 (m : Int)] w fun e w' => ∃ b F, e = .returned (.tuple #[.pointer (some ⟨b, 0, none⟩), .int .i64 0]) ∧ At w' b F (DS.fresh m) ∧ (∀ k, F k → w.heap.size ≤ k) ∧ Below w.heap.size w w' := fun w => D.new_yes m w (by omega) (by omega)
  have zp := fun w => pick_any s0 16 w hn hn2 (by decide) (by decide)
  by_cases h1 : 60 < ps.length
  · have g1 : (60 : Int) < (ps.length : Int) := by omega
    clear h
    go_enter Try.func5, Try.ntmps5
    go_wp2_with (first
      | (go_at_call 12; ((with_reducible refine (awake_any D w).mono ?_); (rintro e w1 ⟨rfl, c1⟩)))
      | (go_at_call 27; ((with_reducible refine (zp w1).mono ?_); (rintro e w3 ⟨rfl, rfl⟩)))
      | (go_at_call 10; ((with_reducible refine (z0 w1).mono ?_); (rintro e w2 ⟨b, F0, rfl, hat2, hF0, hB2⟩; have c2 := step_trans c1 hB2))))
    go_ret
    exact ⟨rfl, c2⟩
  · have g1 : ¬ (60 : Int) < (ps.length : Int) := by omega
    have g2 : (100 : Int) < (keeps.length : Int) := by omega
    clear h
    go_enter Try.func5, Try.ntmps5
    go_wp2_with (first
      | (go_at_call 12; ((with_reducible refine (awake_any D w).mono ?_); (rintro e w1 ⟨rfl, c1⟩)))
      | (go_at_call 27; ((with_reducible refine (zp w1).mono ?_); (rintro e w3 ⟨rfl, rfl⟩)))
      | (go_at_call 10; ((with_reducible refine (z0 w1).mono ?_); (rintro e w2 ⟨b, F0, rfl, hat2, hF0, hB2⟩; have c2 := step_trans c1 hB2))))
    go_ret
    exact ⟨rfl, c2⟩
theorem keeps_any (s0 tear : Int) (A : Option Addr) (ps : List PutV) (c : Nat) (A2 : Option Addr) (keeps : List Bool) (cc2 : Nat) (w : World) (hn : -9223372036854775808 ≤ s0 ∧ s0 ≤ 9223372036854775807) (hlc2 : keeps.length ≤ cc2)
    (hr : PutsAt w w.heap.size A ps) (hr2 : RowAt w w.heap.size A2 (keeps.map Value.bool)) (hps : ∀ p ∈ ps, -9223372036854775808 ≤ p.sector ∧ p.sector ≤ 9223372036854775807) :
    Calls Try.prog 5 #[.int .i64 s0, .slice A ps.length c, .slice A2 keeps.length cc2, .int .i64 tear] w fun e w' => e = .returned (.bool true) ∧ Below w.heap.size w w' := by
  by_cases h : 60 < ps.length ∨ 100 < keeps.length
  · exact keeps_long D s0 tear A ps c A2 keeps cc2 w hn.1 hn.2 h
  · exact keeps_walk D s0 tear A ps c A2 keeps cc2 w hn.1 hn.2 (by omega) (by omega) hlc2 hr hr2 hps
end
end Go.Proofs.Ytmkibkafccgmgaa
