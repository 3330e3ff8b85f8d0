/-
  The walk of DiskTwice. Conditions: a disk's methods do what the document says (Disks).
-/
import Derived.Test.YtmkibkafccgmgaaDiskTwice
import Derived.Test.YtmkibkafccgmgaaDiskPuts
import Derived.Test.YtmkibkafccgmgaaKit
import Derived.Test.YtmkibkafccgmgaaUndrew
import Derived.Deep.RegionHeldLaw
import Derived.Deep.RegionHeld3
namespace Go.Proofs.Ytmkibkafccgmgaa
open Go.RowKit DS

theorem read_alike {m d d' : Nat} {fl fl' ll : List UInt8} {S T : DS} (h : Kep m d fl ll S) (h2 : Kep m d' fl' ll T) : ∀ k, k < m → S.readE (k : Int) = 0 ∧ T.readE (k : Int) = 0 ∧ S.readB (k : Int) = T.readB (k : Int) := fun k hk => by
  obtain ⟨a1, a2⟩ := h.read k hk
  obtain ⟨b1, b2⟩ := h2.read k hk
  exact ⟨a1, b1, by rw [a2, b2]⟩
section
variable {At : World → Nat → (Nat → Prop) → DS → Prop} (D : Disks Try.prog At)
include D
set_option maxHeartbeats 2000000 in
set_option maxRecDepth 100000 in
theorem twice_walk (s0 i0 a0 : Int) (mask : UInt8) (A : Option Addr) (ps : List PutV) (c : Nat) (w : World) (hn : -9223372036854775808 ≤ s0 ∧ s0 ≤ 9223372036854775807) (hi0 : -9223372036854775808 ≤ i0 ∧ i0 ≤ 9223372036854775807) (ha0 : -9223372036854775808 ≤ a0 ∧ a0 ≤ 9223372036854775807)
    (hl : ps.length ≤ 60) (hr : PutsAt w w.heap.size A ps) (hps : ∀ p ∈ ps, -9223372036854775808 ≤ p.sector ∧ p.sector ≤ 9223372036854775807) :
    Calls Try.prog 7 #[.int .i64 s0, .slice A ps.length c, .int .i64 i0, .int .i64 a0, .int .u8 (mask.toNat : Int)] w fun e w' => e = .returned (.bool true) ∧ Below w.heap.size w w' := by
  obtain ⟨m, hm⟩ : ∃ m : Nat, 1 + s0 % 8 = (m : Int) := ⟨(1 + s0 % 8).toNat, by omega⟩
  have hm1 : 1 ≤ m := by omega
  have hm2 : m ≤ 8 := by omega
  obtain ⟨i1, hi1⟩ : ∃ k : Nat, i0 % (m : Int) = (k : Int) := ⟨(i0 % (m : Int)).toNat, by have := Int.emod_nonneg i0 (b := (m : Int)) (by omega); omega⟩
  have hi2 : i1 < m := by have := Int.emod_lt_of_pos i0 (b := (m : Int)) (by omega); omega
  obtain ⟨a1, ha1⟩ : ∃ k : Nat, a0 % 64 = (k : Int) := ⟨(a0 % 64).toNat, by omega⟩
  have ha2 : a1 < 64 := by omega
  have z0 : ∀ w, Calls Try.prog 10 #[.int .i64 (m : Int)] w fun e w' => ∃ b F, e = .returned (.tuple #[.pointer (some ⟨b, 0, none⟩), .int .i64 0]) ∧ At w' b F (DS.fresh m) ∧ (∀ k, F k → w.heap.size ≤ k) ∧ Below w.heap.size w w' := fun w => D.new_yes m w hm1 (by omega)
  have zp := fun w => pick_any s0 8 w hn.1 hn.2 (by decide) (by decide)
  have zi := fun w => pick_any i0 (m : Int) w hi0.1 hi0.2 (by omega) (by omega)
  have za := fun w => pick_any a0 64 w ha0.1 ha0.2 (by decide) (by decide)
  rw [hi1] at zi
  rw [ha1] at za
  have g1 : ¬ (60 : Int) < (ps.length : Int) := by omega
  clear hi1 ha1
  go_enter Try.func7, Try.ntmps7
  go_wp2_with (first
    | (go_at_call 12; ((with_reducible refine (awake_any D w).mono ?_); (rintro e w1 ⟨rfl, c1⟩)))
    | (go_at_call 27; ((with_reducible refine (zp w1).mono ?_); (rintro e w3 ⟨rfl, rfl⟩)))
    | (go_at_call 10; ((with_reducible refine (z0 w1).mono ?_); (rintro e w2 ⟨b, F0, rfl, hat2, hF0, hB2⟩; have c2 := step_trans c1 hB2))))
  clear hm
  have HI := Lib.hid (And.intro hat2 (And.intro (fun k hk => Nat.le_trans c1.size (hF0 k hk) : ∀ k, F0 k → w.heap.size ≤ k) c2))
  clear hat2 hF0 hB2 c1 c2 z0 zp
  go_loopw [14] (fun iv wr => ∃ i d fl ll S F, i ≤ ps.length ∧ iv = .int .i64 ((i : Nat) : Int) ∧ d ≤ 2 * i ∧ At wr b F S ∧ Kep m d fl ll S ∧ (∀ k, F k → w.heap.size ≤ k) ∧ Below w.heap.size w wr) (fun iv _ => ps.length - (intOf iv).toNat)
  case atStart =>
    obtain ⟨h1, h2, h3⟩ := HI.out
    exact ⟨0, 0, _, _, _, F0, Nat.zero_le _, rfl, Nat.zero_le _, h1, fresh_kep m, h2, h3⟩
  case round =>
    clear HI
    obtain ⟨i, d, fl, ll, S, F, hi, rfl, hdi, hat, hkep, hF, hB⟩ := hrel
    have hops := Lib.hid (show S.ops ≤ 1000000 by rw [hkep.ops]; omega)
    by_cases hlt : i < ps.length
    · obtain ⟨p, hp⟩ : ∃ p, ps[i]? = some p := ⟨_, List.getElem?_eq_getElem hlt⟩
      obtain ⟨ad, rfl, hadb, x1, x2, x3⟩ := (hr.below hB).at_ hp
      have hpr := hps p (List.mem_of_getElem? hp)
      obtain ⟨k, hk⟩ : ∃ k : Nat, p.sector % (m : Int) = (k : Int) := ⟨(p.sector % (m : Int)).toNat, by have := Int.emod_nonneg p.sector (b := (m : Int)) (by omega); omega⟩
      have hkm : k < m := by have := Int.emod_lt_of_pos p.sector (b := (m : Int)) (by omega); omega
      have zq := fun w => pick_any p.sector (m : Int) w hpr.1 hpr.2 (by omega) (by omega)
      rw [hk] at zq
      have ha : (ad.add (i * 3)).block < w.heap.size := by rw [block_add]; exact hadb
      have HY := Lib.hid (hkep.write k hkm p.byte)
      have hops2 := Lib.hid (show d + 1 ≤ 1000000 by omega)
      have kx : ∀ w', Below w.heap.size w w' → w'.cell? (ad.add (i * 3)) = some (.int .i64 p.sector) ∧ w'.cell? ⟨(ad.add (i * 3)).block, (ad.add (i * 3)).off + 1, none⟩ = some (.int .u8 (p.byte.toNat : Int)) ∧ w'.cell? ⟨(ad.add (i * 3)).block, (ad.add (i * 3)).off + 2, none⟩ = some (.bool p.flush) := fun w' h => ⟨keep_cell hB h x1 ha, keep_cell hB h x2 ha, keep_cell hB h x3 ha⟩
      have hatd : At wr.drew b F S := At_step D hat (Below.refl _ wr).drew
      have cd : Below w.heap.size w wr.drew := hB.drew
      clear hk hpr hp
      cases hfl : p.flush with
      | false =>
        rw [hfl] at kx x3
        go_wp2
        first
        | go_region_held_law (fun w' => w'.cell? (ad.add (i * 3)) = some (.int .i64 p.sector) ∧ w'.cell? ⟨(ad.add (i * 3)).block, (ad.add (i * 3)).off + 1, none⟩ = some (.int .u8 (p.byte.toNat : Int)) ∧ w'.cell? ⟨(ad.add (i * 3)).block, (ad.add (i * 3)).off + 2, none⟩ = some (.bool false)) (first | assumption | exact kx _ c7 | exact kx _ c6 | exact kx _ cd | exact ⟨x1, x2, x3⟩) (first
          | (go_at_call 27; ((with_reducible refine (zq wr.drew).mono ?_); (rintro e w5 ⟨rfl, rfl⟩)))
          | (go_at_call 28; ((with_reducible refine (of_any p.byte wr.drew).mono ?_); (rintro e w6 ⟨g6, rfl, hg6, hb6, hB6⟩; have hat6 := At_step D hatd hB6; have c6 := cd.trans (hB6.mono cd.size))))
          | (go_at_call 18; ((with_reducible refine (D.write w6 b F S (k : Int) (some ⟨g6, 0, none⟩) (sec p.byte) 64 64 hat6 hops.out hb6.at_ (sec_length _) (Nat.le_refl _)).mono ?_); (rintro e w7 ⟨F7, rfl, hat7, hF7, hFr7⟩; rw [HY.out.1]; obtain ⟨c7, hFk⟩ := chg_go c6 hF hF7 hFr7))))
        | fail
        go_wp2
        go_roundw
        case rel => exact ⟨i + 1, d + 1, fl, ll.set k p.byte, (S.write (k : Int) (sec p.byte)).1, F7, by omega, by go_num, by omega, hat7, HY.out.2, hFk, c7⟩
        case measure => simp [intOf]; omega
      | true =>
        rw [hfl] at kx x3
        go_wp2
        first
        | go_region_held3 (fun w' => w'.cell? (ad.add (i * 3)) = some (.int .i64 p.sector) ∧ w'.cell? ⟨(ad.add (i * 3)).block, (ad.add (i * 3)).off + 1, none⟩ = some (.int .u8 (p.byte.toNat : Int)) ∧ w'.cell? ⟨(ad.add (i * 3)).block, (ad.add (i * 3)).off + 2, none⟩ = some (.bool true)) (first | assumption | exact kx _ c8 | exact kx _ c7 | exact kx _ c6 | exact kx _ cd | exact ⟨x1, x2, x3⟩) (first
          | (go_at_call 27; ((with_reducible refine (zq wr.drew).mono ?_); (rintro e w5 ⟨rfl, rfl⟩)))
          | (go_at_call 28; ((with_reducible refine (of_any p.byte wr.drew).mono ?_); (rintro e w6 ⟨g6, rfl, hg6, hb6, hB6⟩; have hat6 := At_step D hatd hB6; have c6 := cd.trans (hB6.mono cd.size))))
          | (go_at_call 18; ((with_reducible refine (D.write w6 b F S (k : Int) (some ⟨g6, 0, none⟩) (sec p.byte) 64 64 hat6 hops.out hb6.at_ (sec_length _) (Nat.le_refl _)).mono ?_); (rintro e w7 ⟨F7, rfl, hat7, hF7, hFr7⟩; rw [HY.out.1]; obtain ⟨c7, hFk⟩ := chg_go c6 hF hF7 hFr7)))
          | (go_at_call 19; ((with_reducible refine (D.flush w7 b F7 (S.write (k : Int) (sec p.byte)).1 hat7 (by rw [HY.out.2.ops]; exact hops2.out)).mono ?_); (rintro e w8 ⟨F8, rfl, hat8, hF8, hFr8⟩; rw [HY.out.2.flush.1]; obtain ⟨c8, hFm⟩ := chg_go c7 hFk hF8 hFr8))))
        | fail
        go_wp2
        go_roundw
        case rel => exact ⟨i + 1, d + 2, ll.set k p.byte, ll.set k p.byte, (S.write (k : Int) (sec p.byte)).1.flush.1, F8, by omega, by go_num, by omega, hat8, HY.out.2.flush.2, hFm, c8⟩
        case measure => simp [intOf]; omega
    · obtain rfl : i = ps.length := by omega
      have K2 := hkep.turn_twice i1 a1 hi2 ha2 mask
      obtain ⟨y1, y2, K2⟩ := K2
      have Kc := K2.crash_none
      have Kx := Kc.crash_clean (fun _ => rfl) [true, true] 0
      have Kf := Kx.flush
      have Ky := hkep.write i1 hi2 mask
      have Kd := hkep.flush
      have Kz := Kd.2.flush
      have R1 := read_alike K2 hkep
      have R2 := read_alike Kf.2 Kc
      have R3 := read_alike Kz.2 Kd.2
      have hfin : ((S.write (i1 : Int) (sec mask)).1.readE (i1 : Int) == 0 && (S.write (i1 : Int) (sec mask)).1.readB (i1 : Int) == sec mask) = true := by
        obtain ⟨e1, e2⟩ := Ky.2.read i1 hi2
        rw [e1, e2, getD_set _ _ _ _ (by rw [hkep.ll_]; exact hi2), if_pos rfl]
        simp
      have o1 := Lib.hid (show ((((S.turn (i1 : Int) (a1 : Int) mask).1.turn (i1 : Int) (a1 : Int) mask).1.crash [] 0).crash [true, true] 0).ops ≤ 1000000 by rw [Kx.ops]; omega)
      have o2 := Lib.hid (show S.flush.1.ops ≤ 1000000 by rw [Kd.2.ops]; omega)
      have HA := Lib.hid (And.intro y1 (And.intro y2 (And.intro Kf.1 (And.intro Ky.1 (And.intro Kd.1 Kz.1)))))
      have HR := Lib.hid (And.intro R1 (And.intro R2 R3))
      replace hfin := Lib.hid hfin
      obtain ⟨y1, y2, kf1, ky1, kd1, kz1⟩ := HA.out
      have m8 : m ≤ 1024 := by omega
      replace y1 := Lib.hid y1
      replace y2 := Lib.hid y2
      replace kf1 := Lib.hid kf1
      replace ky1 := Lib.hid ky1
      replace kd1 := Lib.hid kd1
      replace kz1 := Lib.hid kz1
      clear K2 Kc Kx Kf Ky Kd Kz R1 R2 R3 HA hkep hdi
      go_wp2_with (first
        | (go_at_call 27; first
          | ((with_reducible refine (zi wr).mono ?_); (rintro e w0 ⟨rfl, rfl⟩))
          | ((with_reducible refine (za wr).mono ?_); (rintro e w0 ⟨rfl, rfl⟩)))
        | (go_at_call 21; first
          | ((with_reducible refine (D.turn w1 b2 F2 S (i1 : Int) (a1 : Int) mask ht1).mono ?_); (rintro e w2 ⟨F3, rfl, ht2, hF3, hFr2⟩; rw [y1.out]; obtain ⟨c2, G3⟩ := chg_go c1 G2 hF3 hFr2; have d2 := At_else D d1 hFr2 j2.symm; have j3 := j2.next hF3 (D.lt _ _ _ _ d1)))
          | ((with_reducible refine (D.turn w2 b2 F3 (S.turn (i1 : Int) (a1 : Int) mask).1 (i1 : Int) (a1 : Int) mask ht2).mono ?_); (rintro e w3 ⟨F4, rfl, ht3, hF4, hFr3⟩; rw [y2.out]; obtain ⟨c3, G4⟩ := chg_go c2 G3 hF4 hFr3; have d3 := At_else D d2 hFr3 j3.symm; have j4 := j3.next hF4 (D.lt _ _ _ _ d2))))
        | (go_at_call 20; first
          | ((with_reducible refine (D.crash w4 b2 F4 ((S.turn (i1 : Int) (a1 : Int) mask).1.turn (i1 : Int) (a1 : Int) mask).1 none [] 0 0 0 ht4 RowAt.none_ rfl (Nat.le_refl _)).mono ?_); (rintro e w5 ⟨F5, rfl, ht5, hF5, hFr5⟩; obtain ⟨c5, G5⟩ := chg_go c4 G4 hF5 hFr5; have d5 := At_else D d4 hFr5 j4.symm; have j5 := j4.next hF5 (D.lt _ _ _ _ d4)))
          | ((with_reducible refine (D.crash (w6.alloc (.cells #[.bool true, .bool true] 4)) b3 F6 (((S.turn (i1 : Int) (a1 : Int) mask).1.turn (i1 : Int) (a1 : Int) mask).1.crash [] 0) (some ⟨w6.heap.size, 0, none⟩) [true, true] 2 2 0 hx6' ((BlkR.new w6 [.bool true, .bool true] 4).row ⟨[], rfl⟩ (by simp)) rfl (Nat.le_refl _)).mono ?_); (rintro e w7 ⟨F7, rfl, hx7, hF7, hFr7⟩; obtain ⟨c7, G7⟩ := chg_go c6' G6 hF7 hFr7; have ht7 := At_else D ht6' hFr7 jx6.symm; have d7 := At_else D d6' hFr7 jd6.symm; have jx7 := jx6.next hF7 (D.lt _ _ _ _ ht6'); have jd7 := jd6.next hF7 (D.lt _ _ _ _ d6'))))
        | (go_at_call 18; ((with_reducible refine (D.write w11 b4 F9 S (i1 : Int) (some ⟨g11, 0, none⟩) (sec mask) 64 64 hy11 hops.out hb11.at_ (sec_length _) (Nat.le_refl _)).mono ?_); (rintro e w12 ⟨F10, rfl, hy12, hF10, hFr12⟩; rw [ky1.out]; obtain ⟨c12, G10⟩ := chg_go c11 G9 hF10 hFr12; have d12 := At_else D d11 hFr12 jy10.symm; have jy12 := jy10.next hF10 (D.lt _ _ _ _ d11))))
        | (go_at_call 19; first
          | ((with_reducible refine (D.flush w7 b3 F7 ((((S.turn (i1 : Int) (a1 : Int) mask).1.turn (i1 : Int) (a1 : Int) mask).1.crash [] 0).crash [true, true] 0) hx7 o1.out).mono ?_); (rintro e w8 ⟨F8, rfl, hx8, hF8, hFr8⟩; rw [kf1.out]; obtain ⟨c8, G8⟩ := chg_go c7 G7 hF8 hFr8; have ht8 := At_else D ht7 hFr8 jx7.symm; have d8 := At_else D d7 hFr8 jd7.symm))
          | ((with_reducible refine (D.flush w12 b F S d12 hops.out).mono ?_); (rintro e w13 ⟨F11, rfl, d13, hF11, hFr13⟩; rw [kd1.out]; obtain ⟨c13, G11⟩ := chg_go c12 hF hF11 hFr13; have hy13 := At_else D hy12 hFr13 jy12))
          | ((with_reducible refine (D.flush w14 b5 F12 S.flush.1 hz14 o2.out).mono ?_); (rintro e w15 ⟨F13, rfl, hz15, hF13, hFr15⟩; rw [kz1.out]; obtain ⟨c15, G13⟩ := chg_go c14 G12 hF13 hFr15; have d15 := At_else D d14 hFr15 jz14.symm; have hy15 := At_else D hy14 hFr15 jzy14.symm)))
        | (go_at_call 13; first
          | ((with_reducible refine (D.clone wr b F S hat).mono ?_); (rintro e w1 ⟨b2, F2, rfl, ht1, hF2, hB1⟩; have d1 := At_step D hat hB1; have j2 := Disj.new hF2 (D.lt _ _ _ _ hat); have c1 := hB.trans (hB1.mono hB.size); have G2 := fun k hk => Nat.le_trans hB.size (hF2 k hk)))
          | ((with_reducible refine (D.clone w5 b2 F5 (((S.turn (i1 : Int) (a1 : Int) mask).1.turn (i1 : Int) (a1 : Int) mask).1.crash [] 0) ht5).mono ?_); (rintro e w6 ⟨b3, F6, rfl, hx6, hF6, hB6⟩; have ht6 := At_step D ht5 hB6; have d6 := At_step D d5 hB6; have c6 := step_trans c5 hB6; have G6 := fun k hk => Nat.le_trans c5.size (hF6 k hk); have jx6 := Disj.new hF6 (D.lt _ _ _ _ ht5); have jd6 := Disj.new hF6 (D.lt _ _ _ _ d5); have hx6' := At_alloc D hx6 (.cells #[.bool true, .bool true] 4); have ht6' := At_alloc D ht6 (.cells #[.bool true, .bool true] 4); have d6' := At_alloc D d6 (.cells #[.bool true, .bool true] 4); have c6' := step_alloc c6 (.cells #[.bool true, .bool true] 4)))
          | ((with_reducible refine (D.clone w9 b F S d9).mono ?_); (rintro e w10 ⟨b4, F9, rfl, hy10, hF9, hB10⟩; have d10 := At_step D d9 hB10; have c10 := step_trans c9 hB10; have G9 := fun k hk => Nat.le_trans c9.size (hF9 k hk); have jy10 := Disj.new hF9 (D.lt _ _ _ _ d9)))
          | ((with_reducible refine (D.clone w13 b F11 S.flush.1 d13).mono ?_); (rintro e w14 ⟨b5, F12, rfl, hz14, hF12, hB14⟩; have d14 := At_step D d13 hB14; have hy14 := At_step D hy13 hB14; have c14 := step_trans c13 hB14; have G12 := fun k hk => Nat.le_trans c13.size (hF12 k hk); have jz14 := Disj.new hF12 (D.lt _ _ _ _ d13); have jzy14 := Disj.new hF12 (D.lt _ _ _ _ hy13))))
        | (go_at_call 30; first
          | ((with_reducible refine (alike_any D w3 b2 b F4 F ((S.turn (i1 : Int) (a1 : Int) mask).1.turn (i1 : Int) (a1 : Int) mask).1 S m m8 ht3 d3 HR.out.1).mono ?_); (rintro e w4 ⟨rfl, hB4⟩; have ht4 := At_step D ht3 hB4; have d4 := At_step D d3 hB4; have c4 := step_trans c3 hB4))
          | ((with_reducible refine (alike_any D w8 b3 b2 F8 F5 ((((S.turn (i1 : Int) (a1 : Int) mask).1.turn (i1 : Int) (a1 : Int) mask).1.crash [] 0).crash [true, true] 0).flush.1 (((S.turn (i1 : Int) (a1 : Int) mask).1.turn (i1 : Int) (a1 : Int) mask).1.crash [] 0) m m8 hx8 ht8 HR.out.2.1).mono ?_); (rintro e w9 ⟨rfl, hB9⟩; have d9 := At_step D d8 hB9; have c9 := step_trans c8 hB9))
          | ((with_reducible refine (alike_any D w15 b5 b F13 F11 S.flush.1.flush.1 S.flush.1 m m8 hz15 d15 HR.out.2.2).mono ?_); (rintro e w16 ⟨rfl, hB16⟩; have hy16 := At_step D hy15 hB16; have c16 := step_trans c15 hB16)))
        | (go_at_call 28; first
          | ((with_reducible refine (of_any mask w10).mono ?_); (rintro e w11 ⟨g11, rfl, hg11, hb11, hB11⟩; have hy11 := At_step D hy10 hB11; have d11 := At_step D d10 hB11; have c11 := step_trans c10 hB11))
          | ((with_reducible refine (of_any mask w16).mono ?_); (rintro e w17 ⟨g17, rfl, hg17, hb17, hB17⟩; have hy17 := At_step D hy16 hB17; have c17 := step_trans c16 hB17)))
        | (go_at_call 29; ((with_reducible refine (reads_any D w17 b4 F10 (S.write (i1 : Int) (sec mask)).1 (i1 : Int) (some ⟨g17, 0, none⟩) (sec mask) 64 64 (sec_length _) hy17 hb17.at_).mono ?_); (rintro e w18 ⟨rfl, hB18⟩; rw [hfin.out]; have c18 := step_trans c17 hB18))))
      go_ret
      exact ⟨rfl, c18⟩
set_option maxRecDepth 100000 in
theorem twice_long (s0 i0 a0 : Int) (mask : UInt8) (A : Option Addr) (ps : List PutV) (c : Nat) (w : World) (hn : -9223372036854775808 ≤ s0 ∧ s0 ≤ 9223372036854775807) (hl : 60 < ps.length) :
    Calls Try.prog 7 #[.int .i64 s0, .slice A ps.length c, .int .i64 i0, .int .i64 a0, .int .u8 (mask.toNat : Int)] w fun e w' => e = .returned (.bool true) ∧ Below w.heap.size w w' := by
  obtain ⟨m, hm⟩ : ∃ m : Nat, 1 + s0 % 8 = (m : Int) := ⟨(1 + s0 % 8).toNat, by omega⟩
  have z0 : ∀ w, Calls Try.prog 10 #[.int .i64 (m : Int)] w fun e w' => ∃ b F, e = .returned (.tuple #[.pointer (some ⟨b, 0, none⟩), .int .i64 0]) ∧ At w' b F (DS.fresh m) ∧ (∀ k, F k → w.heap.size ≤ k) ∧ Below w.heap.size w w' := fun w => D.new_yes m w (by omega) (by omega)
  have zp := fun w => pick_any s0 8 w hn.1 hn.2 (by decide) (by decide)
  have g1 : (60 : Int) < (ps.length : Int) := by omega
  go_enter Try.func7, Try.ntmps7
  go_wp2_with (first
    | (go_at_call 12; ((with_reducible refine (awake_any D w).mono ?_); (rintro e w1 ⟨rfl, c1⟩)))
    | (go_at_call 27; ((with_reducible refine (zp w1).mono ?_); (rintro e w3 ⟨rfl, rfl⟩)))
    | (go_at_call 10; ((with_reducible refine (z0 w1).mono ?_); (rintro e w2 ⟨b, F0, rfl, hat2, hF0, hB2⟩; have c2 := step_trans c1 hB2))))
  go_ret
  exact ⟨rfl, c2⟩
theorem twice_any (s0 i0 a0 nm : Int) (A : Option Addr) (ps : List PutV) (c : Nat) (w : World) (hn : -9223372036854775808 ≤ s0 ∧ s0 ≤ 9223372036854775807) (hi0 : -9223372036854775808 ≤ i0 ∧ i0 ≤ 9223372036854775807) (ha0 : -9223372036854775808 ≤ a0 ∧ a0 ≤ 9223372036854775807) (hm : 0 ≤ nm ∧ nm ≤ 255)
    (hr : PutsAt w w.heap.size A ps) (hps : ∀ p ∈ ps, -9223372036854775808 ≤ p.sector ∧ p.sector ≤ 9223372036854775807) :
    Calls Try.prog 7 #[.int .i64 s0, .slice A ps.length c, .int .i64 i0, .int .i64 a0, .int .u8 nm] w fun e w' => e = .returned (.bool true) ∧ Below w.heap.size w w' := by
  obtain ⟨mask, rfl⟩ : ∃ m : UInt8, nm = (m.toNat : Int) := ⟨UInt8.ofNat nm.toNat, by rw [UInt8.toNat_ofNat']; omega⟩
  by_cases h : ps.length ≤ 60
  · exact twice_walk D s0 i0 a0 mask A ps c w hn hi0 ha0 h hr hps
  · exact twice_long D s0 i0 a0 mask A ps c w hn (by omega)
end
end Go.Proofs.Ytmkibkafccgmgaa
