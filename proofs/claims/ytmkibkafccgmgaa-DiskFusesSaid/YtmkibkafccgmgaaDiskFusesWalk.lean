/-
  The walk of DiskFuses. Conditions: a disk's methods do what the document says (Disks).
-/
import Derived.Test.YtmkibkafccgmgaaDiskAwake
import Derived.Test.YtmkibkafccgmgaaDiskFuse
import Derived.Test.YtmkibkafccgmgaaDiskPuts
import Derived.Test.YtmkibkafccgmgaaKit
import Derived.Test.YtmkibkafccgmgaaUndrew
namespace Go.Proofs.Ytmkibkafccgmgaa
open Go.RowKit DS

section
variable {At : World → Nat → (Nat → Prop) → DS → Prop} (D : Disks Try.prog At)
include D
set_option maxRecDepth 100000 in
theorem fuses_walk (A : Option Addr) (ps : List PutV) (c : Nat) (n0 : Int) (w : World) (hn : -9223372036854775808 ≤ n0) (hn2 : n0 ≤ 9223372036854775807) (hl : ps.length ≤ 60) (hr : PutsAt w w.heap.size A ps)
    (hps : ∀ p ∈ ps, -9223372036854775808 ≤ p.sector ∧ p.sector ≤ 9223372036854775807) :
    Calls Try.prog 6 #[.slice A ps.length c, .int .i64 n0] w fun e w' => e = .returned (.bool true) ∧ Below w.heap.size w w' := by
  have z0 : ∀ w, Calls Try.prog 10 #[.int .i64 8] w fun e w' => ∃ b F, e = .returned (.tuple #[.pointer (some ⟨b, 0, none⟩), .int .i64 0]) ∧ At w' b F (DS.fresh 8) ∧ (∀ k, F k → w.heap.size ≤ k) ∧ Below w.heap.size w w' := fun w => D.new_yes 8 w (by decide) (by decide)
  obtain ⟨n, hnn⟩ : ∃ n : Nat, n0 % 131 = (n : Int) := ⟨(n0 % 131).toNat, by omega⟩
  have hnb : n ≤ 130 := by omega
  have zp := fun w => pick_any n0 131 w hn hn2 (by decide) (by decide)
  rw [hnn] at zp
  have hf0 : ((DS.fresh 8).fuse (n : Int)) = ({ DS.fresh 8 with left := some n }, 0) := by
    unfold DS.fuse
    rw [if_neg (by simp [DS.fresh]), if_neg (by omega), Int.toNat_natCast]
  have HF := Lib.hid hf0
  have g1 : ¬ (60 : Int) < (ps.length : Int) := by omega
  clear hf0 hnn
  go_enter Try.func6, Try.ntmps6
  go_wp2_with (first
    | (go_at_call 12; ((with_reducible refine (awake_any D w).mono ?_); (rintro e w1 ⟨rfl, c1⟩)))
    | (go_at_call 10; ((with_reducible refine (z0 w1).mono ?_); (rintro e w2 ⟨b, F0, rfl, hat2, hF0, hB2⟩; have c2 := step_trans c1 hB2)))
    | (go_at_call 27; ((with_reducible refine (zp w2).mono ?_); (rintro e w3 ⟨rfl, rfl⟩)))
    | (go_at_call 22; ((with_reducible refine (D.fuse w2 b F0 (DS.fresh 8) (n : Int) hat2 (by omega) (by omega)).mono ?_); (rintro e w4 ⟨F1, rfl, hat4, hF1, hFr4⟩; rw [HF.out] at hat4 ⊢; obtain ⟨c4, hF1'⟩ := chg_go c2 (fun k hk => Nat.le_trans c1.size (hF0 k hk)) hF1 hFr4))))
  obtain ⟨gf, hgf⟩ : ∃ g, g = w4.heap.size := ⟨_, rfl⟩
  have hFat : Fus 8 n 0 (List.replicate 8 0) (List.replicate 8 0) { DS.fresh 8 with left := some n } := fresh_fus 8 n
  have hst : ∀ W : World, BlkR 70 ((W.alloc (.cells #[.int .u8 0, .int .u8 0, .int .u8 0, .int .u8 0, .int .u8 0, .int .u8 0, .int .u8 0, .int .u8 0] 70)).alloc (.cells #[.int .u8 0, .int .u8 0, .int .u8 0, .int .u8 0, .int .u8 0, .int .u8 0, .int .u8 0, .int .u8 0] 70)) W.heap.size (cellsOfBytes (List.replicate 8 0)) ∧
      BlkR 70 ((W.alloc (.cells #[.int .u8 0, .int .u8 0, .int .u8 0, .int .u8 0, .int .u8 0, .int .u8 0, .int .u8 0, .int .u8 0] 70)).alloc (.cells #[.int .u8 0, .int .u8 0, .int .u8 0, .int .u8 0, .int .u8 0, .int .u8 0, .int .u8 0, .int .u8 0] 70)) (W.heap.size + 1) (cellsOfBytes (List.replicate 8 0)) := fun W => by
    refine ⟨(Below.heap_alloc _ _ _ (by simp)).trans (heap_alloc_new W _), ?_⟩
    have h := BlkR.new (W.alloc (.cells #[.int .u8 0, .int .u8 0, .int .u8 0, .int .u8 0, .int .u8 0, .int .u8 0, .int .u8 0, .int .u8 0] 70)) (cellsOfBytes (List.replicate 8 0)) 70
    have e : (W.alloc (.cells #[.int .u8 0, .int .u8 0, .int .u8 0, .int .u8 0, .int .u8 0, .int .u8 0, .int .u8 0, .int .u8 0] 70)).heap.size = W.heap.size + 1 := by simp
    rw [e] at h
    exact h
  have hS0 := Lib.hid (And.intro hFat (And.intro (hst w4) (And.intro hat4 (And.intro hF1' c4))))
  have hlt4 : ∀ k, F1 k → k < w4.heap.size := D.lt w4 b F1 _ hat4
  have HLT := Lib.hid hlt4
  have HGF := Lib.hid hgf
  rw [← hgf]
  clear hFat hst hat4 hF1' c4 hlt4 hgf hat2 hF0 hB2 c2 hFr4 hF1 c1 z0 zp HF
  go_loopw [10, 11] (fun dv iv wr => ∃ i d fl ll S F, i ≤ ps.length ∧ iv = .int .i64 ((i : Nat) : Int) ∧ dv = .int .i64 ((d : Nat) : Int) ∧ At wr b F S ∧ Fus 8 n d fl ll S ∧ BlkR 70 wr gf (cellsOfBytes fl) ∧ BlkR 70 wr (gf + 1) (cellsOfBytes ll) ∧ (∀ k, F k → w.heap.size ≤ k ∧ k ≠ gf ∧ k ≠ gf + 1) ∧ w.heap.size ≤ gf ∧ Below w.heap.size w wr) (fun _ iv _ => ps.length - (intOf iv).toNat)
  case atStart =>
    obtain ⟨h1, ⟨h2, h3⟩, h4, h5, h6⟩ := hS0.out
    have hg := HGF.out
    subst hg
    refine ⟨0, 0, _, _, _, F1, Nat.zero_le _, rfl, rfl, At_alloc D (At_alloc D h4 _) _, h1, h2, h3, fun k hk => ⟨h5 k hk, ?_, ?_⟩, h6.size, step_alloc (step_alloc h6 _) _⟩
    · have := HLT.out k hk; omega
    · have := HLT.out k hk; omega
  case round =>
    clear hS0 HLT HGF
    obtain ⟨i, d, fl, ll, S, F, hi, rfl, rfl, hat, hfus, hbf, hbl, hF, hgw, hB⟩ := hrel
    by_cases hlt : i < ps.length
    · obtain ⟨p, hp⟩ : ∃ p, ps[i]? = some p := ⟨_, List.getElem?_eq_getElem hlt⟩
      obtain ⟨ad, rfl, hadb, x1, x2, x3⟩ := (hr.below hB).at_ hp
      have hpr := hps p (List.mem_of_getElem? hp)
      obtain ⟨k, hk⟩ : ∃ k : Nat, p.sector % 8 = (k : Int) := ⟨(p.sector % 8).toNat, by omega⟩
      have hk8 : k < 8 := by omega
      have zq := fun w => pick_any p.sector 8 w hpr.1 hpr.2 (by decide) (by decide)
      rw [hk] at zq
      have HK := Lib.hid (And.intro hk (And.intro hpr hp))
      clear hk hpr hp
      by_cases hd : d < n
      · have hd' : (d : Int) < (n : Int) := by omega
        cases hfl : p.flush with
        | false =>
          rw [hfl] at x3
          have hops : S.ops ≤ 1000000 := by (have := hfus.d_le; rw [hfus.ops]; omega)
          have HOP := Lib.hid hops
          have HOP2 := Lib.hid (show d ≤ 130 by (have := hfus.d_le; omega))
          have hlf := Lib.hid hfus.lf
          have hll := Lib.hid hfus.ll_
          have ha : (ad.add (i * 3)).block < w.heap.size := by rw [block_add]; exact hadb
          have HY := Lib.hid (hfus.write_go hd k hk8 p.byte)
          clear hops
          go_wp2_with (first
            | (go_at_call 27; ((with_reducible refine (zq wr).mono ?_); (rintro e w5 ⟨rfl, rfl⟩)))
            | (go_at_call 28; ((with_reducible refine (of_any p.byte wr).mono ?_); (rintro e w6 ⟨g6, rfl, hg6, hb6, hB6⟩; have hat6 := At_step D hat hB6; have c6 := hB.trans (hB6.mono hB.size); have hbf6 := hbf.step hB6; have hbl6 := hbl.step hB6)))
            | (go_at_call 18; ((with_reducible refine (D.write w6 b F S (k : Int) (some ⟨g6, 0, none⟩) (sec p.byte) 64 64 hat6 HOP.out hb6.at_ (sec_length _) (Nat.le_refl _)).mono ?_); (rintro e w7 ⟨F7, rfl, hat7, hF7, hFr7⟩; rw [HY.out.1]; have hFk := fun j hj => (hF7 j hj).elim (fun h => hF j h) (fun h => (⟨Nat.le_trans c6.size h, fun e => by (have := hbf6.lt; omega), fun e => by (have := hbl6.lt; omega)⟩ : w.heap.size ≤ j ∧ j ≠ gf ∧ j ≠ gf + 1)); have c7 := c6.trans (hFr7.below (fun j hj => (hF j hj).1) c6.size); have hbf7 := hbf6.frame hFr7 (fun h => (hF gf h).2.1 rfl); have hbl7 := hbl6.frame hFr7 (fun h => (hF (gf + 1) h).2.2 rfl); have y2 := keep_cell hB c7 x2 ha; have y3 := keep_cell hB c7 x3 ha; have y4 := bytesR hbl7 (k := k) (by rw [hll.out]; exact hk8); have y5 := hbl7.frozen k; have hbl7' := bytesR_set hbl7 k p.byte; have hbf7' := hbf7.other ⟨gf + 1, k, none⟩ (.int .u8 (p.byte.toNat : Int)) (by simp); have hat7' := At_set D hat7 ⟨gf + 1, k, none⟩ (.int .u8 (p.byte.toNat : Int)) (fun h => (hFk (gf + 1) h).2.2 rfl); have c7' := c7.setCell (p := ⟨gf + 1, k, none⟩) (by show w.heap.size ≤ gf + 1; omega) (.int .u8 (p.byte.toNat : Int)); have y6 := keep_cell c7 c7' y3 ha; replace hbl7' := Lib.hid hbl7'; replace hbf7' := Lib.hid hbf7'; clear hbf hbl hbf6 hbl6 hbf7 hbl7))))
          go_roundw
          case rel =>
            exact ⟨i + 1, d + 1, fl, (ll.set k p.byte), (S.write (k : Int) (sec p.byte)).1, F7, by omega, by go_num, by go_num, hat7', HY.out.2, hbf7'.out, hbl7'.out, hFk, hgw, c7'⟩
          case measure => simp [intOf]; omega
        | true =>
          by_cases hd2 : d + 1 < n
          · have hd2' : (d : Int) + 1 < (n : Int) := by omega
            rw [hfl] at x3
            have hops : S.ops ≤ 1000000 := by (have := hfus.d_le; rw [hfus.ops]; omega)
            have HOP := Lib.hid hops
            have HOP2 := Lib.hid (show d ≤ 130 by (have := hfus.d_le; omega))
            have hlf := Lib.hid hfus.lf
            have hll := Lib.hid hfus.ll_
            have ha : (ad.add (i * 3)).block < w.heap.size := by rw [block_add]; exact hadb
            have HY := Lib.hid (hfus.write_go hd k hk8 p.byte)
            clear hops
            go_wp2_with (first
              | (go_at_call 27; ((with_reducible refine (zq wr).mono ?_); (rintro e w5 ⟨rfl, rfl⟩)))
              | (go_at_call 28; ((with_reducible refine (of_any p.byte wr).mono ?_); (rintro e w6 ⟨g6, rfl, hg6, hb6, hB6⟩; have hat6 := At_step D hat hB6; have c6 := hB.trans (hB6.mono hB.size); have hbf6 := hbf.step hB6; have hbl6 := hbl.step hB6)))
              | (go_at_call 18; ((with_reducible refine (D.write w6 b F S (k : Int) (some ⟨g6, 0, none⟩) (sec p.byte) 64 64 hat6 HOP.out hb6.at_ (sec_length _) (Nat.le_refl _)).mono ?_); (rintro e w7 ⟨F7, rfl, hat7, hF7, hFr7⟩; rw [HY.out.1]; have hFk := fun j hj => (hF7 j hj).elim (fun h => hF j h) (fun h => (⟨Nat.le_trans c6.size h, fun e => by (have := hbf6.lt; omega), fun e => by (have := hbl6.lt; omega)⟩ : w.heap.size ≤ j ∧ j ≠ gf ∧ j ≠ gf + 1)); have c7 := c6.trans (hFr7.below (fun j hj => (hF j hj).1) c6.size); have hbf7 := hbf6.frame hFr7 (fun h => (hF gf h).2.1 rfl); have hbl7 := hbl6.frame hFr7 (fun h => (hF (gf + 1) h).2.2 rfl); have y2 := keep_cell hB c7 x2 ha; have y3 := keep_cell hB c7 x3 ha; have y4 := bytesR hbl7 (k := k) (by rw [hll.out]; exact hk8); have y5 := hbl7.frozen k; have hbl7' := bytesR_set hbl7 k p.byte; have hbf7' := hbf7.other ⟨gf + 1, k, none⟩ (.int .u8 (p.byte.toNat : Int)) (by simp); have hat7' := At_set D hat7 ⟨gf + 1, k, none⟩ (.int .u8 (p.byte.toNat : Int)) (fun h => (hFk (gf + 1) h).2.2 rfl); have c7' := c7.setCell (p := ⟨gf + 1, k, none⟩) (by show w.heap.size ≤ gf + 1; omega) (.int .u8 (p.byte.toNat : Int)); have y6 := keep_cell c7 c7' y3 ha; replace hbl7' := Lib.hid hbl7'; replace hbf7' := Lib.hid hbf7'; clear hbf hbl hbf6 hbl6 hbf7 hbl7)))
              | (go_at_call 19; ((with_reducible refine (D.flush (w7.setCell ⟨gf + 1, k, none⟩ (.int .u8 (p.byte.toNat : Int))) b F7 (S.write (k : Int) (sec p.byte)).1 hat7' (by (have := HOP2.out; rw [HY.out.2.ops]; omega))).mono ?_); (rintro e w8 ⟨F8, rfl, hat8, hF8, hFr8⟩; rw [(HY.out.2.flush_go hd2).1]; have hFm := fun j hj => (hF8 j hj).elim (fun h => hFk j h) (fun h => (⟨Nat.le_trans c7'.size h, fun e => by (have := hbf7'.out.lt; omega), fun e => by (have := hbl7'.out.lt; omega)⟩ : w.heap.size ≤ j ∧ j ≠ gf ∧ j ≠ gf + 1)); have c8 := c7'.trans (hFr8.below (fun j hj => (hFk j hj).1) c7'.size); have hbf8 := hbf7'.out.frame hFr8 (fun h => (hFk gf h).2.1 rfl); have hbl8 := hbl7'.out.frame hFr8 (fun h => (hFk (gf + 1) h).2.2 rfl); have v0 := bytesR hbl8 (k := 0) (by rw [List.length_set, hll.out]; decide); have v1 := bytesR hbl8 (k := 1) (by rw [List.length_set, hll.out]; decide); have v2 := bytesR hbl8 (k := 2) (by rw [List.length_set, hll.out]; decide); have v3 := bytesR hbl8 (k := 3) (by rw [List.length_set, hll.out]; decide); have v4 := bytesR hbl8 (k := 4) (by rw [List.length_set, hll.out]; decide); have v5 := bytesR hbl8 (k := 5) (by rw [List.length_set, hll.out]; decide); have v6 := bytesR hbl8 (k := 6) (by rw [List.length_set, hll.out]; decide); have v7 := bytesR hbl8 (k := 7) (by rw [List.length_set, hll.out]; decide); have u0 := bytesR hbf8 (k := 0) (by rw [hlf.out]; decide); have f0 := hbf8.frozen 0; have u1 := bytesR hbf8 (k := 1) (by rw [hlf.out]; decide); have f1 := hbf8.frozen 1; have u2 := bytesR hbf8 (k := 2) (by rw [hlf.out]; decide); have f2 := hbf8.frozen 2; have u3 := bytesR hbf8 (k := 3) (by rw [hlf.out]; decide); have f3 := hbf8.frozen 3; have u4 := bytesR hbf8 (k := 4) (by rw [hlf.out]; decide); have f4 := hbf8.frozen 4; have u5 := bytesR hbf8 (k := 5) (by rw [hlf.out]; decide); have f5 := hbf8.frozen 5; have u6 := bytesR hbf8 (k := 6) (by rw [hlf.out]; decide); have f6 := hbf8.frozen 6; have u7 := bytesR hbf8 (k := 7) (by rw [hlf.out]; decide); have f7 := hbf8.frozen 7; replace hbf8 := Lib.hid hbf8; replace hbl8 := Lib.hid hbl8))))
            go_roundw
            case rel =>
              have hFs : ¬ F8 gf := fun h => (hFm gf h).2.1 rfl
              refine ⟨i + 1, d + 2, (ll.set k p.byte), (ll.set k p.byte), ((S.write (k : Int) (sec p.byte)).1).flush.1, F8, by omega, by go_num, by go_num, ?_, (HY.out.2.flush_go hd2).2, ?_, ?_, hFm, hgw, ?_⟩
              · exact At_set8 D hat8 (fun j => .int .u8 ((((ll.set k p.byte)).getD j 0).toNat : Int)) hFs
              · exact bytesR_set8 hbf8.out hlf.out (by rw [List.length_set]; exact hll.out)
              · exact hbl8.out.set8_other (fun j => .int .u8 ((((ll.set k p.byte)).getD j 0).toNat : Int)) (by omega)
              · exact Below.set8 c8 hgw (fun j => .int .u8 ((((ll.set k p.byte)).getD j 0).toNat : Int))
            case measure => simp [intOf]; omega
          · have hd2' : ¬ (d : Int) + 1 < (n : Int) := by omega
            rw [hfl] at x3
            have hops : S.ops ≤ 1000000 := by (have := hfus.d_le; rw [hfus.ops]; omega)
            have HOP := Lib.hid hops
            have HOP2 := Lib.hid (show d ≤ 130 by (have := hfus.d_le; omega))
            have hlf := Lib.hid hfus.lf
            have hll := Lib.hid hfus.ll_
            have ha : (ad.add (i * 3)).block < w.heap.size := by rw [block_add]; exact hadb
            have HY := Lib.hid (hfus.write_go hd k hk8 p.byte)
            clear hops
            go_wp2_with (first
              | (go_at_call 27; ((with_reducible refine (zq wr).mono ?_); (rintro e w5 ⟨rfl, rfl⟩)))
              | (go_at_call 28; ((with_reducible refine (of_any p.byte wr).mono ?_); (rintro e w6 ⟨g6, rfl, hg6, hb6, hB6⟩; have hat6 := At_step D hat hB6; have c6 := hB.trans (hB6.mono hB.size); have hbf6 := hbf.step hB6; have hbl6 := hbl.step hB6)))
              | (go_at_call 18; ((with_reducible refine (D.write w6 b F S (k : Int) (some ⟨g6, 0, none⟩) (sec p.byte) 64 64 hat6 HOP.out hb6.at_ (sec_length _) (Nat.le_refl _)).mono ?_); (rintro e w7 ⟨F7, rfl, hat7, hF7, hFr7⟩; rw [HY.out.1]; have hFk := fun j hj => (hF7 j hj).elim (fun h => hF j h) (fun h => (⟨Nat.le_trans c6.size h, fun e => by (have := hbf6.lt; omega), fun e => by (have := hbl6.lt; omega)⟩ : w.heap.size ≤ j ∧ j ≠ gf ∧ j ≠ gf + 1)); have c7 := c6.trans (hFr7.below (fun j hj => (hF j hj).1) c6.size); have hbf7 := hbf6.frame hFr7 (fun h => (hF gf h).2.1 rfl); have hbl7 := hbl6.frame hFr7 (fun h => (hF (gf + 1) h).2.2 rfl); have y2 := keep_cell hB c7 x2 ha; have y3 := keep_cell hB c7 x3 ha; have y4 := bytesR hbl7 (k := k) (by rw [hll.out]; exact hk8); have y5 := hbl7.frozen k; have hbl7' := bytesR_set hbl7 k p.byte; have hbf7' := hbf7.other ⟨gf + 1, k, none⟩ (.int .u8 (p.byte.toNat : Int)) (by simp); have hat7' := At_set D hat7 ⟨gf + 1, k, none⟩ (.int .u8 (p.byte.toNat : Int)) (fun h => (hFk (gf + 1) h).2.2 rfl); have c7' := c7.setCell (p := ⟨gf + 1, k, none⟩) (by show w.heap.size ≤ gf + 1; omega) (.int .u8 (p.byte.toNat : Int)); have y6 := keep_cell c7 c7' y3 ha; replace hbl7' := Lib.hid hbl7'; replace hbf7' := Lib.hid hbf7'; clear hbf hbl hbf6 hbl6 hbf7 hbl7)))
              | (go_at_call 19; ((with_reducible refine (D.flush (w7.setCell ⟨gf + 1, k, none⟩ (.int .u8 (p.byte.toNat : Int))) b F7 (S.write (k : Int) (sec p.byte)).1 hat7' (by (have := HOP2.out; rw [HY.out.2.ops]; omega))).mono ?_); (rintro e w8 ⟨F8, rfl, hat8, hF8, hFr8⟩; rw [(HY.out.2.flush_no hd2).1]; have hFm := fun j hj => (hF8 j hj).elim (fun h => hFk j h) (fun h => (⟨Nat.le_trans c7'.size h, fun e => by (have := hbf7'.out.lt; omega), fun e => by (have := hbl7'.out.lt; omega)⟩ : w.heap.size ≤ j ∧ j ≠ gf ∧ j ≠ gf + 1)); have c8 := c7'.trans (hFr8.below (fun j hj => (hFk j hj).1) c7'.size); have hbf8 := hbf7'.out.frame hFr8 (fun h => (hFk gf h).2.1 rfl); have hbl8 := hbl7'.out.frame hFr8 (fun h => (hFk (gf + 1) h).2.2 rfl)))))
            go_roundw
            case rel =>
              exact ⟨i + 1, d + 1, fl, (ll.set k p.byte), ((S.write (k : Int) (sec p.byte)).1).flush.1, F8, by omega, by go_num, by go_num, hat8, (HY.out.2.flush_no hd2).2, hbf8, hbl8, hFm, hgw, c8⟩
            case measure => simp [intOf]; omega
      · have hd' : ¬ (d : Int) < (n : Int) := by omega
        have hd2 := hd
        cases hfl : p.flush with
        | false =>
          rw [hfl] at x3
          have hops : S.ops ≤ 1000000 := by (have := hfus.d_le; rw [hfus.ops]; omega)
          have HOP := Lib.hid hops
          have HOP2 := Lib.hid (show d ≤ 130 by (have := hfus.d_le; omega))
          have hlf := Lib.hid hfus.lf
          have hll := Lib.hid hfus.ll_
          have ha : (ad.add (i * 3)).block < w.heap.size := by rw [block_add]; exact hadb
          have HY := Lib.hid (hfus.write_no hd k hk8 p.byte)
          clear hops
          go_wp2_with (first
            | (go_at_call 27; ((with_reducible refine (zq wr).mono ?_); (rintro e w5 ⟨rfl, rfl⟩)))
            | (go_at_call 28; ((with_reducible refine (of_any p.byte wr).mono ?_); (rintro e w6 ⟨g6, rfl, hg6, hb6, hB6⟩; have hat6 := At_step D hat hB6; have c6 := hB.trans (hB6.mono hB.size); have hbf6 := hbf.step hB6; have hbl6 := hbl.step hB6)))
            | (go_at_call 18; ((with_reducible refine (D.write w6 b F S (k : Int) (some ⟨g6, 0, none⟩) (sec p.byte) 64 64 hat6 HOP.out hb6.at_ (sec_length _) (Nat.le_refl _)).mono ?_); (rintro e w7 ⟨F7, rfl, hat7, hF7, hFr7⟩; rw [HY.out.1]; have hFk := fun j hj => (hF7 j hj).elim (fun h => hF j h) (fun h => (⟨Nat.le_trans c6.size h, fun e => by (have := hbf6.lt; omega), fun e => by (have := hbl6.lt; omega)⟩ : w.heap.size ≤ j ∧ j ≠ gf ∧ j ≠ gf + 1)); have c7 := c6.trans (hFr7.below (fun j hj => (hF j hj).1) c6.size); have hbf7 := hbf6.frame hFr7 (fun h => (hF gf h).2.1 rfl); have hbl7 := hbl6.frame hFr7 (fun h => (hF (gf + 1) h).2.2 rfl); have y2 := keep_cell hB c7 x2 ha; have y3 := keep_cell hB c7 x3 ha; have hbl7' := hbl7; have hbf7' := hbf7; have hat7' := hat7; have c7' := c7; have y6 := y3; replace hbl7' := Lib.hid hbl7'; replace hbf7' := Lib.hid hbf7'; clear hbf hbl hbf6 hbl6 hbf7 hbl7))))
          go_roundw
          case rel =>
            exact ⟨i + 1, d, fl, ll, (S.write (k : Int) (sec p.byte)).1, F7, by omega, by go_num, by go_num, hat7', HY.out.2, hbf7'.out, hbl7'.out, hFk, hgw, c7'⟩
          case measure => simp [intOf]; omega
        | true =>
          rw [hfl] at x3
          have hops : S.ops ≤ 1000000 := by (have := hfus.d_le; rw [hfus.ops]; omega)
          have HOP := Lib.hid hops
          have HOP2 := Lib.hid (show d ≤ 130 by (have := hfus.d_le; omega))
          have hlf := Lib.hid hfus.lf
          have hll := Lib.hid hfus.ll_
          have ha : (ad.add (i * 3)).block < w.heap.size := by rw [block_add]; exact hadb
          have HY := Lib.hid (hfus.write_no hd k hk8 p.byte)
          clear hops
          go_wp2_with (first
            | (go_at_call 27; ((with_reducible refine (zq wr).mono ?_); (rintro e w5 ⟨rfl, rfl⟩)))
            | (go_at_call 28; ((with_reducible refine (of_any p.byte wr).mono ?_); (rintro e w6 ⟨g6, rfl, hg6, hb6, hB6⟩; have hat6 := At_step D hat hB6; have c6 := hB.trans (hB6.mono hB.size); have hbf6 := hbf.step hB6; have hbl6 := hbl.step hB6)))
            | (go_at_call 18; ((with_reducible refine (D.write w6 b F S (k : Int) (some ⟨g6, 0, none⟩) (sec p.byte) 64 64 hat6 HOP.out hb6.at_ (sec_length _) (Nat.le_refl _)).mono ?_); (rintro e w7 ⟨F7, rfl, hat7, hF7, hFr7⟩; rw [HY.out.1]; have hFk := fun j hj => (hF7 j hj).elim (fun h => hF j h) (fun h => (⟨Nat.le_trans c6.size h, fun e => by (have := hbf6.lt; omega), fun e => by (have := hbl6.lt; omega)⟩ : w.heap.size ≤ j ∧ j ≠ gf ∧ j ≠ gf + 1)); have c7 := c6.trans (hFr7.below (fun j hj => (hF j hj).1) c6.size); have hbf7 := hbf6.frame hFr7 (fun h => (hF gf h).2.1 rfl); have hbl7 := hbl6.frame hFr7 (fun h => (hF (gf + 1) h).2.2 rfl); have y2 := keep_cell hB c7 x2 ha; have y3 := keep_cell hB c7 x3 ha; have hbl7' := hbl7; have hbf7' := hbf7; have hat7' := hat7; have c7' := c7; have y6 := y3; replace hbl7' := Lib.hid hbl7'; replace hbf7' := Lib.hid hbf7'; clear hbf hbl hbf6 hbl6 hbf7 hbl7)))
            | (go_at_call 19; ((with_reducible refine (D.flush w7 b F7 (S.write (k : Int) (sec p.byte)).1 hat7' (by (have := HOP2.out; rw [HY.out.2.ops]; omega))).mono ?_); (rintro e w8 ⟨F8, rfl, hat8, hF8, hFr8⟩; rw [(HY.out.2.flush_no hd2).1]; have hFm := fun j hj => (hF8 j hj).elim (fun h => hFk j h) (fun h => (⟨Nat.le_trans c7'.size h, fun e => by (have := hbf7'.out.lt; omega), fun e => by (have := hbl7'.out.lt; omega)⟩ : w.heap.size ≤ j ∧ j ≠ gf ∧ j ≠ gf + 1)); have c8 := c7'.trans (hFr8.below (fun j hj => (hFk j hj).1) c7'.size); have hbf8 := hbf7'.out.frame hFr8 (fun h => (hFk gf h).2.1 rfl); have hbl8 := hbl7'.out.frame hFr8 (fun h => (hFk (gf + 1) h).2.2 rfl)))))
          go_roundw
          case rel =>
            exact ⟨i + 1, d, fl, ll, ((S.write (k : Int) (sec p.byte)).1).flush.1, F8, by omega, by go_num, by go_num, hat8, (HY.out.2.flush_no hd2).2, hbf8, hbl8, hFm, hgw, c8⟩
          case measure => simp [intOf]; omega
    · obtain rfl : i = ps.length := by omega
      have HOPS : Hid (S.ops ≤ 1000000) := (by (have := hfus.d_le; rw [hfus.ops]; omega) : S.ops ≤ 1000000)
      have HOP := Lib.hid (show S.ops = d from hfus.ops)
      have HC := Lib.hid (hfus.crash_none 0)
      have hlf := Lib.hid hfus.lf
      go_wp2_with (first
        | (go_at_call 25; ((with_reducible refine (D.ops wr b F S hat HOPS.out).mono ?_); (rintro e w5 ⟨rfl, hB5⟩; rw [HOP.out]; have hat5 := At_step D hat hB5; have c5 := hB.trans (hB5.mono hB.size); have hbf5 := hbf.step hB5)))
        | (go_at_call 20; ((with_reducible refine (D.crash w5 b F S none [] 0 0 0 hat5 RowAt.none_ rfl (Nat.le_refl _)).mono ?_); (rintro e w6 ⟨F6, rfl, hat6, hF6, hFr6⟩; have c6 := c5.trans (hFr6.below (fun j hj => (hF j hj).1) c5.size); have hbf6 := hbf5.frame hFr6 (fun h => (hF gf h).2.1 rfl))))
        | (go_at_call 23; ((with_reducible refine (D.up w6 b F6 (S.crash [] 0) hat6).mono ?_); (rintro e w7 ⟨rfl, hB7⟩; rw [HC.out.1]; have hat7 := At_step D hat6 hB7; have c7 := c6.trans (hB7.mono c6.size); have hbf7 := hbf6.step hB7))))
      go_loopw [15] (fun iv wx => ∃ k : Nat, k ≤ 8 ∧ iv = .int .i64 (k : Int) ∧ At wx b F6 (S.crash [] 0) ∧ BlkR 70 wx gf (cellsOfBytes fl) ∧ Below w.heap.size w wx) (fun iv _ => 8 - (intOf iv).toNat)
      case atStart => exact ⟨0, by omega, rfl, hat7, hbf7, c7⟩
      case round =>
        clear hat hbf hbl hB hat5 hbf5 c5 hat6 hbf6 c6 hat7 hbf7 c7 hB5 hB7
        obtain ⟨k, hk, rfl, hat, hbf, hB⟩ := hrel
        by_cases hk8 : k < 8
        · have y1 := bytesR hbf (k := k) (by rw [hlf.out]; exact hk8)
          obtain ⟨x, hx⟩ : ∃ x, x = fl.getD k 0 := ⟨_, rfl⟩
          have HX := Lib.hid hx
          rw [← hx] at y1
          have hbf' := Lib.hid hbf
          clear hx hbf
          go_wp2_with (first
            | (go_at_call 28; ((with_reducible refine (of_any x wr).mono ?_); (rintro e w8 ⟨g8, rfl, hg8, hb8, hB8⟩; have hat8 := At_step D hat hB8; have c8 := hB.trans (hB8.mono hB.size); have hbf8 := hbf'.out.step hB8)))
            | (go_at_call 29; ((with_reducible refine (reads_any D w8 b F6 (S.crash [] 0) (k : Int) (some ⟨g8, 0, none⟩) (sec x) 64 64 (sec_length _) hat8 hb8.at_).mono ?_); (rintro e w9 ⟨rfl, hB9⟩; rw [HX.out, HC.out.2 k hk8]; have hat9 := At_step D hat8 hB9; have c9 := c8.trans (hB9.mono c8.size); have hbf9 := hbf8.step hB9))))
          go_roundw
          case rel => exact ⟨k + 1, by omega, by go_num, hat9, hbf9, c9⟩
          case measure => simp [intOf]; omega
        · obtain rfl : k = 8 := by omega
          go_wp2
          go_ret
          exact ⟨rfl, hB⟩
theorem fuses_long (A : Option Addr) (ps : List PutV) (c : Nat) (n0 : Int) (w : World) (hn : -9223372036854775808 ≤ n0) (hn2 : n0 ≤ 9223372036854775807) (hl : 60 < ps.length) :
    Calls Try.prog 6 #[.slice A ps.length c, .int .i64 n0] w fun e w' => e = .returned (.bool true) ∧ Below w.heap.size w w' := by
  have z0 : ∀ w, Calls Try.prog 10 #[.int .i64 8] w fun e w' => ∃ b F, e = .returned (.tuple #[.pointer (some ⟨b, 0, none⟩), .int .i64 0]) ∧ At w' b F (DS.fresh 8) ∧ (∀ k, F k → w.heap.size ≤ k) ∧ Below w.heap.size w w' := fun w => D.new_yes 8 w (by decide) (by decide)
  have zp := fun w => pick_any n0 131 w hn hn2 (by decide) (by decide)
  have g1 : (60 : Int) < (ps.length : Int) := by omega
  go_enter Try.func6, Try.ntmps6
  go_wp2_with (first
    | (go_at_call 12; ((with_reducible refine (awake_any D w).mono ?_); (rintro e w1 ⟨rfl, c1⟩)))
    | (go_at_call 10; ((with_reducible refine (z0 w1).mono ?_); (rintro e w2 ⟨b, F0, rfl, hat2, hF0, hB2⟩; have c2 := step_trans c1 hB2)))
    | (go_at_call 27; ((with_reducible refine (zp w2).mono ?_); (rintro e w3 ⟨rfl, rfl⟩))))
  go_ret
  exact ⟨rfl, c2⟩
theorem fuses_any (A : Option Addr) (ps : List PutV) (c : Nat) (n0 : Int) (w : World) (hn : -9223372036854775808 ≤ n0 ∧ n0 ≤ 9223372036854775807) (hr : PutsAt w w.heap.size A ps)
    (hps : ∀ p ∈ ps, -9223372036854775808 ≤ p.sector ∧ p.sector ≤ 9223372036854775807) :
    Calls Try.prog 6 #[.slice A ps.length c, .int .i64 n0] w fun e w' => e = .returned (.bool true) ∧ Below w.heap.size w w' := by
  by_cases h : ps.length ≤ 60
  · exact fuses_walk D A ps c n0 w hn.1 hn.2 h hr hps
  · exact fuses_long D A ps c n0 w hn.1 hn.2 (by omega)
end
end Go.Proofs.Ytmkibkafccgmgaa
