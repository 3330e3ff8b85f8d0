/-
  The walk of DirtyScript. Conditions: the table of crc lies as the program's text lays it; what came in can be read.
-/
import Derived.Test.YtcahpodmcklnbaaGreatDoorDyInv
import Derived.Deep.RegionHeldLaw
namespace Go.Proofs.YtcahpodmcklnbaaGreatDoor
open Go.RowKit Fix

set_option maxRecDepth 100000 in
set_option maxHeartbeats 16000000 in
theorem script_any (x0 : Int) (A0 : Option Addr) (ms : List DaM) (c0 : Nat) (w : World) (hx : -9223372036854775808 ≤ x0 ∧ x0 ≤ 9223372036854775807) (ht : TabAt w) (hA : DasAt w w.heap.size A0 ms) (hms : ms.length ≤ 9223372036854775807) :
    Calls Tryz.prog 3 #[.int .i64 x0, .slice A0 ms.length c0] w fun e w' => e = .returned (.bool true) ∧ Below w.heap.size w w' := by
  obtain ⟨s, hs⟩ : ∃ s : Nat, (s : Int) = 1 + x0 % 8 := ⟨(1 + x0 % 8).toNat, by omega⟩
  have hs1 : 1 ≤ s := by omega
  have hs2 : s ≤ 1024 := by omega
  have zp := fun w : World => pick_any x0 8 w hx.1 hx.2 (by decide) (by decide)
  have hw0 : IntKind.i64.wrap (1 + x0 % 8) = (s : Int) := by rw [hs, IntWalk.i64_in _ (by omega)]
  have zn := fun w : World => disks.new_yes s w hs1 hs2
  have zm := fun w : World => mNew s w hs1 hs2
  have zw := fun w t => awake_any w t
  obtain ⟨n, hn⟩ : ∃ n, n = ms.length := ⟨_, rfl⟩
  rw [← hn] at hms ⊢
  have HA := Lib.hid (And.intro hA hn)
  have HT := Lib.hid ht
  obtain ⟨q, hq⟩ : ∃ q, q = x0 % 8 := ⟨_, rfl⟩
  rw [← hq] at zp hw0
  clear hA hn ht hs hs1 hs2 hx hq
  go_enter Tryz.func3, Tryz.ntmps3
  go_wp2_with (first
    | (go_at_call 4; refine (zp w).mono ?_; (rintro e w1 ⟨rfl, rfl⟩))
    | (go_at_call 5; refine (zn w).mono ?_; (rintro e w2 ⟨b, F0, rfl, h2, hF2, B2⟩))
    | (go_at_call 6; refine (zm w2).mono ?_; (rintro e w3 ⟨c, G0, rfl, h3, hG3, B3⟩)))
  have I0 : MsInv w w3 b c 0 F0 G0 (DS.fresh s) := ⟨⟨At_step disks h2 B3, h3, fun k h1 h2' => by have := disks.lt _ _ _ _ h2 k h1; have := hG3 k h2'; omega⟩, hF2, fun k hk => Nat.le_trans B2.size (hG3 k hk), step_trans B2 B3, Nat.zero_le _⟩
  replace I0 := Lib.hid I0
  clear h2 hF2 B2 h3 hG3 B3 zn zm zp hw0
  obtain ⟨i5, z5, p1, p2, p3, p4, p5⟩ := actInfo
  go_loopw [9, 10] (fun lv ix wr => ∃ k : Nat, k ≤ n ∧ k ≤ 61 ∧ ix = .int .i64 ((k : Nat) : Int) ∧ wr.ownsRow w3.heap.size 35 6 lv k (((ms.map DaM.h).take k).flatMap haCells) ∧ Below w3.heap.size w3 wr) (fun _ ix _ => 62 - hNat ix)
  case atStart => exact ⟨0, Nat.zero_le _, Nat.zero_le _, rfl, World.ownsRow_nil _ _ _ _, Below.refl _ _⟩
  case round =>
    obtain ⟨k, hk, hk2, rfl, hown, hB⟩ := hrel
    by_cases hlt : k < n
    · by_cases h61 : k < 61
      · obtain ⟨m, hm⟩ : ∃ m, ms[k]? = some m := ⟨_, List.getElem?_eq_getElem (by rw [← HA.out.2]; exact hlt)⟩
        obtain ⟨ad, rfl, y0, y1, y2, y3, y4, y5, _⟩ := da_at HA.out.1 (step_trans I0.out.below hB) hm
        have hlt' : (k : Int) < (n : Int) := by omega
        have h61' : (k : Int) < 61 := by omega
        have hw1 : IntKind.i64.wrap ((k : Int) + 1) = (k : Int) + 1 := IntWalk.i64_in _ (by omega)
        have hl := hown.lt
        have HK := Lib.hid (And.intro hm (And.intro hB hl))
        clear hm hB hl hk hk2
        go_wp2_with (at_builtin; go_loud (refine wpList_append_own _ rfl (.tmp 44) (.tmp 50) 31 rfl w3.heap.size 35 i5 z5 6 80 Tryz.underlying31 p1 p2 p3 p4 p5 (by decide) _ k _ rfl (hown.alloc _) ⟨wr.heap.size, 0, none⟩ 1 1 (haCells m.h) rfl rfl ?c1 ?c2 ?c3 ?c4 ?c5 ?_); rotate_left 5; (intro v' w' hown' hg hat))
        · go_roundw
          case rel =>
            refine ⟨k + 1, by omega, by omega, by go_num, ?_, ?_⟩
            · rw [flat_succ haCells (k := k) (x := m.h) (by rw [List.getElem?_map, HK.out.1]; rfl)]
              exact hown'
            · exact (HK.out.2.1.alloc HK.out.2.1.size _).grown hg (by have := HK.out.2.1.size; simp; omega) (fun j hj => (HK.out.2.2 j hj).1)
          case measure => simp [hNat]; omega
        case c1 => exact fun j u hu => (BlkR.new wr (haCells m.h) 35).add_cell hu
        case c2 => exact ha_one m.h
        case c3 => unfold maxLen; omega
        case c4 => omega
        case c5 => have := HK.out.2.1.size; simp; omega
      · obtain rfl : k = 61 := by omega
        have hlt' : ((61 : Nat) : Int) < (n : Int) := by omega
        obtain ⟨A5, c5, rfl, hrun⟩ := owns_run_k (hs := (ms.map DaM.h).take 61) (by rw [List.length_take, List.length_map, ← HA.out.2]; omega) hown
        have zL := haLong_k wr A5 ((ms.map DaM.h).take 61) 61 c5 (by rw [List.length_take, List.length_map, ← HA.out.2]; omega) hrun (by decide)
        have HK := Lib.hid hB
        have zw := zw wr (HT.out.below (step_trans I0.out.below hB) (Nat.le_refl _))
        clear hown hrun hB
        go_wp2_with fail
        refine zL.mono ?_
        rintro e w4 ⟨r, rfl, rfl, hr⟩
        cases r with
        | false => exact absurd (hr rfl).1 (by rw [List.length_take, List.length_map, ← HA.out.2]; omega)
        | true =>
          clear hr
          go_wp2_with (go_at_call 8; refine zw.mono ?_; (rintro e w5 ⟨rfl, B5⟩))
          go_ret
          exact ⟨rfl, step_trans (step_trans I0.out.below HK.out) B5⟩
    · obtain rfl : k = n := by omega
      have e6 : (ms.map DaM.h).take k = ms.map DaM.h := List.take_of_length_le (by rw [List.length_map, ← HA.out.2]; exact Nat.le_refl _)
      rw [e6] at hown
      obtain ⟨A5, c5, rfl, hrun⟩ := owns_run_k (hs := ms.map DaM.h) (by rw [List.length_map, ← HA.out.2]) hown
      have zL := haLong_k wr A5 (ms.map DaM.h) k c5 (by rw [List.length_map, ← HA.out.2]) hrun hms
      have I1 : MsInv w wr b c 0 F0 G0 (DS.fresh s) := ⟨I0.out.two.step disks hB, I0.out.farF, I0.out.farG, step_trans I0.out.below hB, Nat.zero_le _⟩
      replace I1 := Lib.hid I1
      clear hown hrun hB e6 I0
      go_wp2_with fail
      refine zL.mono ?_
      rintro e w4 ⟨r, rfl, rfl, hr⟩
      cases r with
      | true =>
        clear hr
        have zw := zw wr (HT.out.below I1.out.below (Nat.le_refl _))
        go_wp2_with (go_at_call 8; refine zw.mono ?_; (rintro e w5 ⟨rfl, B5⟩))
        go_ret
        exact ⟨rfl, step_trans I1.out.below B5⟩
      | false =>
        have HL : Hid (k ≤ 60 ∧ ∀ m, m ∈ ms → m.h.b.length ≤ 100 ∧ m.h.keeps.length ≤ 30) := Lib.hid ⟨by have := (hr rfl).1; rw [List.length_map, ← HA.out.2] at this; exact this, fun m hm => (hr rfl).2 m.h (List.mem_map_of_mem hm)⟩
        clear hr zL p1 p2 p3 p4 p5 hk2
        obtain ⟨wp, hwp⟩ : ∃ wp, wp = wr.alloc (.cells #[.pointer none, .pointer none] 45) := ⟨_, rfl⟩
        have I2 : DsInv w wp b c wr.heap.size 0 F0 G0 (DS.fresh s) none := by
          have Bp : Below wr.heap.size wr wp := by rw [hwp]; exact (Below.refl _ _).alloc (Nat.le_refl _) _
          have bp : BlkR 45 wp wr.heap.size (prL none) := by rw [hwp]; exact BlkR.new wr [.pointer none, .pointer none] _
          have two := I1.out.two
          have lt := two.lt disks
          refine ⟨⟨two.step disks Bp, ⟨bp, (fun q e => by cases e), (fun q e => by cases e)⟩, fun k hk => ?_⟩, I1.out.farF, I1.out.farG, fun x hx => ?_, step_trans I1.out.below Bp, Nat.zero_le _⟩
          · rcases hk with e | ⟨q, e, _⟩
            · exact ⟨fun x => by have := lt.1 k x; omega, fun x => by have := lt.2 k x; omega⟩
            · cases e
          · rcases hx with e | ⟨q, e, _⟩
            · have := I1.out.below.size; omega
            · cases e
        replace I2 := Lib.hid I2
        clear I1
        go_wp2
        rw [← hwp]
        clear hwp
        obtain ⟨P, hP⟩ : ∃ P, P = wr.heap.size := ⟨_, rfl⟩
        rw [← hP] at I2 ⊢
        clear hP
        go_loopw [12] (fun ix wr => ∃ (i : Nat) (F G : Nat → Prop) (S : DS) (o : Option PrM), ix = .int .i64 ((i : Nat) : Int) ∧ i ≤ k ∧ DsInv w wr b c P i F G S o) (fun ix _ => k - hNat ix)
        case atStart => exact ⟨0, F0, G0, _, none, rfl, Nat.zero_le _, I2.out⟩
        case round =>
          obtain ⟨i, F, G, S, o, rfl, hi, inv⟩ := hrel
          clear I2
          by_cases hlt : i < k
          · obtain ⟨m, hm⟩ : ∃ m, ms[i]? = some m := ⟨_, List.getElem?_eq_getElem (by rw [← HA.out.2]; exact hlt)⟩
            have hmem := List.mem_of_getElem? hm
            obtain ⟨ad, rfl, y0, y1, y2, y3, y4, y5, y6⟩ := da_at HA.out.1 inv.below hm
            have hlt' : (i : Int) < (k : Int) := by omega
            have hw1 : IntKind.i64.wrap ((i : Int) + 1) = (i : Int) + 1 := IntWalk.i64_in _ (by omega)
            have hok := inv.ms.ok (HA.out.1.in_ m hmem) (HL.out.2 m hmem).1 (HL.out.2 m hmem).2
            have hv := HA.out.1.v m hmem
            have hO : S.ops ≤ 900000 := by have := inv.ops; have := HL.out.1; omega
            have HI := Lib.hid (And.intro inv (And.intro hok hO))
            have G2 := Lib.hid (fun (w2 : World) (B : Below wr.heap.size wr w2) (hx : BlkR 38 w2 wr.heap.size (daCells m)) => HaAt.start (inv.pt.two.step disks B) hx (fun hk => Nat.lt_irrefl _ ((inv.pt.two.lt disks).1 _ hk)) (fun hk => Nat.lt_irrefl _ ((inv.pt.two.lt disks).2 _ hk)))
            clear hm hmem inv hok
            by_cases h7 : m.h.kind = 7
            · have t7 : (m.h.kind == 7) = true := by simpa using h7
              have zA := fun u t h => act_any u b c P F G S o m (.inl h7) hv t h hO
              unfold PrPost at zA
              clear h7
              go_wp2_with (first
                | ((with_reducible refine atWorld wr ?_); refine wpList_allocRow (w := wr) daTy rfl rfl ?_; (intro w1 b1 B1 s1; have b1 := Lib.hid b1))
                | ((with_reducible refine atWorld w1 ?_); refine wpList_storeRow (w := w1) daTy rfl (.tmp 13) (.tmp 66) rfl wr.heap.size (daCells m) daZ rfl rfl rfl rfl (da_one m) b1.out ?_; (intro w2 b2 B2 s2 k2; have B12 : Below wr.heap.size wr w2 := B1.trans B2; obtain ⟨e0, e1, e2, e4, e6⟩ := da_cells b2; have M2 := Lib.hid (G2.out w2 B12 b2); have b2 := Lib.hid b2; have PT2 := Lib.hid (HI.out.1.pt.step B12); have t2 := HT.out.below (HI.out.1.below.trans (B12.mono HI.out.1.below.size)) (Nat.le_refl _); clear b1 B1 s1 B2 s2 k2))
                | ((with_reducible refine atWorld w2 ?_); refine wpList_loadRow (w := w2) daTy rfl (.tmp 13) rfl wr.heap.size 0 (daCells m) rfl rfl (rangeOf b2.out) ?_)
                | (go_at_call 9; refine (zA w2 t2 PT2.out).mono ?_; (rintro e w4 ⟨T, F4, G4, o4, rfl, t4, ho4, o1, o2, o3, f4⟩; have hO4 : T.ops ≤ 1000000 := Nat.le_trans ho4 (Nat.le_trans (Nat.add_le_add_right hO 4) (by decide)); have E4 := Lib.hid (HI.out.1.next B12 t4 ho4 o1 o2 o3 f4); have T4 := Lib.hid t4; clear t4 o1 o2 o3 f4)))
              have D4 := (Below.refl w4.heap.size w4).drew
              have A4 := Lib.hid (haAlike_any disks w4.drew b c F4 G4 T (T4.out.two.step disks D4) hO4)
              cases o4 with
              | some q4 =>
                have K4 := Lib.hid (prRead T4.out)
                have J0 := (K4.out w4.drew D4).1
                have J4 := (K4.out w4 (Below.refl _ _)).1
                go_region_held3 (fun w' => w'.cell? ⟨P, 0, none⟩ = some (.pointer (some ⟨q4.g, 0, none⟩)) ∧ w'.cell? ⟨P, 1, none⟩ = some (.pointer (some ⟨q4.h, 0, none⟩)) ∧ w'.cell? ⟨q4.h, 2, none⟩ = some (.int .u64 (q4.s : Int))) (first | assumption | exact J0 | exact J4) (first
                  | (go_at_call 16; refine A4.out.mono ?_; (rintro e w5 ⟨rfl, B5⟩; have C5 := step_trans D4 B5; obtain ⟨J5, m5⟩ := K4.out w5 C5; have C5 := Lib.hid C5; clear B5))
                  | (go_at_call 17; refine (mpBits_any m5).mono ?_; (rintro e w' ⟨rfl, rfl⟩)))
                go_wp2
                go_roundw
                case rel => exact ⟨i + 1, F4, G4, T, some q4, by go_num, by omega, E4.out _ C5.out⟩
                case measure => simp [hNat]; omega
              | none =>
                have K4 := Lib.hid (prReadNo T4.out)
                have J0 := K4.out w4.drew D4
                refine wp_region_held_drew (S := fun w' => w'.cell? ⟨P, 0, none⟩ = some (.pointer none) ∧ w'.cell? ⟨P, 1, none⟩ = some (.pointer none)) (by kernel_rfl) J0 (fun hHeld => ?_)
                refine wpAnyH_take (i := 0) (oi := { dst := Option.some 123, op := Go.Op.move (Go.Operand.tmp 14), type := 4, pos := "law.go:87", after := #[], guard := Option.none }) (v := ?_) rfl (by kernel_rfl) (by kernel_rfl) (by kernel_rfl) (fun _ _ _ h => h) (Or.inl ⟨by rfl, ?_⟩) (by assumption) ?_
                rotate_left
                · intro w hSw
                  (try dsimp only at hSw)
                  go_simp
                  (try with_reducible rfl)
                (try simp only [Act.put, List.setIfInBounds_toArray, List.set_cons_zero, List.set_cons_succ])
                refine wpAnyH_take (i := 1) (oi := { dst := Option.some 124, op := Go.Op.unOp Go.UnOp.not 4 (Go.Operand.tmp 123), type := 4, pos := "law.go:87", after := #[{ on := 0, ground := Go.Ground.data }], guard := Option.none }) (v := ?_) rfl (by kernel_rfl) (by kernel_rfl) (by kernel_rfl) (fun _ _ _ h => h) (Or.inl ⟨by rfl, ?_⟩) (by assumption) ?_
                rotate_left
                · intro w hSw
                  (try dsimp only at hSw)
                  go_simp
                  (try with_reducible rfl)
                (try simp only [Act.put, List.setIfInBounds_toArray, List.set_cons_zero, List.set_cons_succ])
                refine wpAnyH_take (i := 2) (oi := { dst := Option.some 125, op := Go.Op.move (Go.Operand.tmp 124), type := 4, pos := "law.go:87", after := #[{ on := 1, ground := Go.Ground.data }], guard := Option.none }) (v := ?_) rfl (by kernel_rfl) (by kernel_rfl) (by kernel_rfl) (fun _ _ _ h => h) (Or.inl ⟨by rfl, ?_⟩) (by assumption) ?_
                rotate_left
                · intro w hSw
                  (try dsimp only at hSw)
                  go_simp
                  (try with_reducible rfl)
                (try simp only [Act.put, List.setIfInBounds_toArray, List.set_cons_zero, List.set_cons_succ])
                refine wpAnyH_take (i := 3) (oi := { dst := Option.some 126, op := Go.Op.move (Go.Operand.tmp 5), type := 24, pos := "law.go:87", after := #[{ on := 2, ground := Go.Ground.guard }], guard := Option.some (2, Bool.false) }) (v := ?_) rfl (by kernel_rfl) (by kernel_rfl) (by kernel_rfl) (fun _ _ _ h => h) (Or.inl ⟨by rfl, ?_⟩) (by assumption) ?_
                rotate_left
                · intro w hSw
                  (try dsimp only at hSw)
                  go_simp
                  (try with_reducible rfl)
                (try simp only [Act.put, List.setIfInBounds_toArray, List.set_cons_zero, List.set_cons_succ])
                refine wpAnyH_take (i := 4) (oi := { dst := Option.some 127, op := Go.Op.move (Go.Operand.tmp 7), type := 28, pos := "law.go:87", after := #[{ on := 2, ground := Go.Ground.guard }], guard := Option.some (2, Bool.false) }) (v := ?_) rfl (by kernel_rfl) (by kernel_rfl) (by kernel_rfl) (fun _ _ _ h => h) (Or.inl ⟨by rfl, ?_⟩) (by assumption) ?_
                rotate_left
                · intro w hSw
                  (try dsimp only at hSw)
                  go_simp
                  (try with_reducible rfl)
                (try simp only [Act.put, List.setIfInBounds_toArray, List.set_cons_zero, List.set_cons_succ])
                refine wpAnyH_ready (rs := [5]) (by kernel_rfl) (by simp) ?_
                refine AllReadyH.cons (o := { dst := Option.some 128, op := Go.Op.call { callee := Go.Callee.value (Go.Operand.func 16), args := #[Go.Operand.tmp 126, Go.Operand.tmp 127], argTypes := #[24, 28] }, type := 4, pos := "law.go:87", after := #[{ on := 3, ground := Go.Ground.data }, { on := 4, ground := Go.Ground.data }, { on := 2, ground := Go.Ground.chain }, { on := 2, ground := Go.Ground.guard }], guard := Option.some (2, Bool.false) }) rfl (fun K hK => ?_) AllReadyH.nil
                go_simp
                refine A4.out.mono ?_
                rintro e w5 ⟨rfl, B5⟩
                have C5 := step_trans D4 B5
                have J5 := K4.out w5 C5
                have C5 := Lib.hid C5
                clear B5
                go_wp2_with fail
                refine hK.out _ _ J5 (fun hHeld2 => ?_)
                clear hK K
                (try simp only [Act.put, List.setIfInBounds_toArray, List.set_cons_zero, List.set_cons_succ])
                refine wpAnyH_take (i := 6) (oi := { dst := Option.some 129, op := Go.Op.unOp Go.UnOp.not 4 (Go.Operand.tmp 128), type := 4, pos := "law.go:87", after := #[{ on := 5, ground := Go.Ground.data }, { on := 2, ground := Go.Ground.guard }], guard := Option.some (2, Bool.false) }) (v := ?_) rfl (by kernel_rfl) (by kernel_rfl) (by kernel_rfl) (fun _ _ _ h => h) (Or.inl ⟨by rfl, ?_⟩) (by assumption) ?_
                rotate_left
                · intro w hSw
                  (try dsimp only at hSw)
                  go_simp
                  (try with_reducible rfl)
                (try simp only [Act.put, List.setIfInBounds_toArray, List.set_cons_zero, List.set_cons_succ])
                refine wpAnyH_take (i := 7) (oi := { dst := Option.some 130, op := Go.Op.pick (Go.Operand.tmp 125) (Go.Operand.const (Go.Value.bool Bool.true)) (Go.Operand.tmp 129), type := 4, pos := "law.go:87", after := #[{ on := 2, ground := Go.Ground.data }, { on := 6, ground := Go.Ground.data }], guard := Option.none }) (v := ?_) rfl (by kernel_rfl) (by kernel_rfl) (by kernel_rfl) (fun _ _ _ h => h) (Or.inl ⟨by rfl, ?_⟩) (by assumption) ?_
                rotate_left
                · intro w hSw
                  (try dsimp only at hSw)
                  go_simp
                  (try with_reducible rfl)
                (try simp only [Act.put, List.setIfInBounds_toArray, List.set_cons_zero, List.set_cons_succ])
                refine wpAnyH_take (i := 8) (oi := { dst := Option.some 131, op := Go.Op.move (Go.Operand.tmp 130), type := 4, pos := "law.go:87", after := #[{ on := 7, ground := Go.Ground.data }, { on := 5, ground := Go.Ground.chain }], guard := Option.none }) (v := ?_) rfl (by kernel_rfl) (by kernel_rfl) (by kernel_rfl) (fun _ _ _ h => h) (Or.inl ⟨by rfl, ?_⟩) (by assumption) ?_
                rotate_left
                · intro w hSw
                  (try dsimp only at hSw)
                  go_simp
                  (try with_reducible rfl)
                (try simp only [Act.put, List.setIfInBounds_toArray, List.set_cons_zero, List.set_cons_succ])
                refine wpAnyH_take (i := 9) (oi := { dst := Option.some 132, op := Go.Op.move (Go.Operand.tmp 11), type := 41, pos := "law.go:87", after := #[{ on := 8, ground := Go.Ground.guard }], guard := Option.some (8, Bool.false) }) (v := ?_) rfl (by kernel_rfl) (by kernel_rfl) (by kernel_rfl) (fun _ _ _ h => h) (Or.inl ⟨by rfl, ?_⟩) (by assumption) ?_
                rotate_left
                · intro w hSw
                  (try dsimp only at hSw)
                  go_simp
                  (try with_reducible rfl)
                (try simp only [Act.put, List.setIfInBounds_toArray, List.set_cons_zero, List.set_cons_succ])
                refine wpAnyH_take (i := 10) (oi := { dst := Option.some 133, op := Go.Op.nilCheck (Go.Operand.tmp 132), type := 0, pos := "law.go:87", after := #[{ on := 9, ground := Go.Ground.data }, { on := 8, ground := Go.Ground.guard }], guard := Option.some (8, Bool.false) }) (v := ?_) rfl (by kernel_rfl) (by kernel_rfl) (by kernel_rfl) (fun _ _ _ h => h) (Or.inl ⟨by rfl, ?_⟩) (by assumption) ?_
                rotate_left
                · intro w hSw
                  (try dsimp only at hSw)
                  go_simp
                  (try with_reducible rfl)
                (try simp only [Act.put, List.setIfInBounds_toArray, List.set_cons_zero, List.set_cons_succ])
                refine wpAnyH_take (i := 11) (oi := { dst := Option.some 134, op := Go.Op.fieldAddr 45 (Go.Operand.tmp 133) 1, type := 0, pos := "law.go:87", after := #[{ on := 10, ground := Go.Ground.data }, { on := 8, ground := Go.Ground.guard }], guard := Option.some (8, Bool.false) }) (v := ?_) rfl (by kernel_rfl) (by kernel_rfl) (by kernel_rfl) (fun _ _ _ h => h) (Or.inl ⟨by rfl, ?_⟩) (by assumption) ?_
                rotate_left
                · intro w hSw
                  (try dsimp only at hSw)
                  go_simp
                  (try with_reducible rfl)
                (try simp only [Act.put, List.setIfInBounds_toArray, List.set_cons_zero, List.set_cons_succ])
                refine wpAnyH_take (i := 12) (oi := { dst := Option.some 135, op := Go.Op.load 43 (Go.Operand.tmp 134), type := 43, pos := "law.go:87", after := #[{ on := 11, ground := Go.Ground.data }, { on := 8, ground := Go.Ground.guard }], guard := Option.some (8, Bool.false) }) (v := ?_) rfl (by kernel_rfl) (by kernel_rfl) (by kernel_rfl) (fun _ _ _ h => h) (Or.inl ⟨by rfl, ?_⟩) (by assumption) ?_
                rotate_left
                · intro w hSw
                  (try dsimp only at hSw)
                  go_simp
                  (try with_reducible rfl)
                (try simp only [Act.put, List.setIfInBounds_toArray, List.set_cons_zero, List.set_cons_succ])
                refine wpAnyH_take (i := 13) (oi := { dst := Option.some 136, op := Go.Op.binOp Go.BinOp.neq 43 (Go.Operand.tmp 135) (Go.Operand.const (Go.Value.pointer Option.none)) 43, type := 4, pos := "law.go:87", after := #[{ on := 12, ground := Go.Ground.data }, { on := 8, ground := Go.Ground.guard }], guard := Option.some (8, Bool.false) }) (v := ?_) rfl (by kernel_rfl) (by kernel_rfl) (by kernel_rfl) (fun _ _ _ h => h) (Or.inl ⟨by rfl, ?_⟩) (by assumption) ?_
                rotate_left
                · intro w hSw
                  (try dsimp only at hSw)
                  go_simp
                  (try with_reducible rfl)
                (try simp only [Act.put, List.setIfInBounds_toArray, List.set_cons_zero, List.set_cons_succ])
                refine wpAnyH_take (i := 14) (oi := { dst := Option.some 137, op := Go.Op.move (Go.Operand.tmp 136), type := 4, pos := "law.go:87", after := #[{ on := 13, ground := Go.Ground.data }, { on := 8, ground := Go.Ground.chain }, { on := 8, ground := Go.Ground.guard }], guard := Option.some (8, Bool.false) }) (v := ?_) rfl (by kernel_rfl) (by kernel_rfl) (by kernel_rfl) (fun _ _ _ h => h) (Or.inl ⟨by rfl, ?_⟩) (by assumption) ?_
                rotate_left
                · intro w hSw
                  (try dsimp only at hSw)
                  go_simp
                  (try with_reducible rfl)
                (try simp only [Act.put, List.setIfInBounds_toArray, List.set_cons_zero, List.set_cons_succ])
                refine wpAnyH_take (i := 15) (oi := { dst := Option.some 138, op := Go.Op.move (Go.Operand.tmp 11), type := 41, pos := "law.go:87", after := #[{ on := 14, ground := Go.Ground.guard }], guard := Option.some (14, Bool.true) }) (v := undef) rfl (by kernel_rfl) (by kernel_rfl) (by kernel_rfl) (fun _ _ _ h => h) (Or.inr ⟨by rfl, rfl⟩) (by assumption) ?_
                (try simp only [Act.put, List.setIfInBounds_toArray, List.set_cons_zero, List.set_cons_succ])
                refine wpAnyH_take (i := 16) (oi := { dst := Option.some 139, op := Go.Op.nilCheck (Go.Operand.tmp 138), type := 0, pos := "law.go:87", after := #[{ on := 15, ground := Go.Ground.data }, { on := 14, ground := Go.Ground.guard }], guard := Option.some (14, Bool.true) }) (v := undef) rfl (by kernel_rfl) (by kernel_rfl) (by kernel_rfl) (fun _ _ _ h => h) (Or.inr ⟨by rfl, rfl⟩) (by assumption) ?_
                (try simp only [Act.put, List.setIfInBounds_toArray, List.set_cons_zero, List.set_cons_succ])
                refine wpAnyH_take (i := 17) (oi := { dst := Option.some 140, op := Go.Op.fieldAddr 45 (Go.Operand.tmp 139) 0, type := 0, pos := "law.go:87", after := #[{ on := 16, ground := Go.Ground.data }, { on := 14, ground := Go.Ground.guard }], guard := Option.some (14, Bool.true) }) (v := undef) rfl (by kernel_rfl) (by kernel_rfl) (by kernel_rfl) (fun _ _ _ h => h) (Or.inr ⟨by rfl, rfl⟩) (by assumption) ?_
                (try simp only [Act.put, List.setIfInBounds_toArray, List.set_cons_zero, List.set_cons_succ])
                refine wpAnyH_take (i := 18) (oi := { dst := Option.some 141, op := Go.Op.load 42 (Go.Operand.tmp 140), type := 42, pos := "law.go:87", after := #[{ on := 17, ground := Go.Ground.data }, { on := 14, ground := Go.Ground.guard }], guard := Option.some (14, Bool.true) }) (v := undef) rfl (by kernel_rfl) (by kernel_rfl) (by kernel_rfl) (fun _ _ _ h => h) (Or.inr ⟨by rfl, rfl⟩) (by assumption) ?_
                (try simp only [Act.put, List.setIfInBounds_toArray, List.set_cons_zero, List.set_cons_succ])
                refine wpAnyH_take (i := 19) (oi := { dst := Option.some 142, op := Go.Op.call { callee := Go.Callee.value (Go.Operand.func 17), args := #[Go.Operand.tmp 141], argTypes := #[42] }, type := 36, pos := "law.go:87", after := #[{ on := 18, ground := Go.Ground.data }, { on := 14, ground := Go.Ground.chain }, { on := 14, ground := Go.Ground.guard }], guard := Option.some (14, Bool.true) }) (v := undef) rfl (by kernel_rfl) (by kernel_rfl) (by kernel_rfl) (fun _ _ _ h => h) (Or.inr ⟨by rfl, rfl⟩) (by assumption) ?_
                (try simp only [Act.put, List.setIfInBounds_toArray, List.set_cons_zero, List.set_cons_succ])
                refine wpAnyH_take (i := 20) (oi := { dst := Option.some 143, op := Go.Op.move (Go.Operand.tmp 11), type := 41, pos := "law.go:87", after := #[{ on := 14, ground := Go.Ground.guard }], guard := Option.some (14, Bool.true) }) (v := undef) rfl (by kernel_rfl) (by kernel_rfl) (by kernel_rfl) (fun _ _ _ h => h) (Or.inr ⟨by rfl, rfl⟩) (by assumption) ?_
                (try simp only [Act.put, List.setIfInBounds_toArray, List.set_cons_zero, List.set_cons_succ])
                refine wpAnyH_take (i := 21) (oi := { dst := Option.some 144, op := Go.Op.nilCheck (Go.Operand.tmp 143), type := 0, pos := "law.go:87", after := #[{ on := 20, ground := Go.Ground.data }, { on := 14, ground := Go.Ground.guard }], guard := Option.some (14, Bool.true) }) (v := undef) rfl (by kernel_rfl) (by kernel_rfl) (by kernel_rfl) (fun _ _ _ h => h) (Or.inr ⟨by rfl, rfl⟩) (by assumption) ?_
                (try simp only [Act.put, List.setIfInBounds_toArray, List.set_cons_zero, List.set_cons_succ])
                refine wpAnyH_take (i := 22) (oi := { dst := Option.some 145, op := Go.Op.fieldAddr 45 (Go.Operand.tmp 144) 1, type := 0, pos := "law.go:87", after := #[{ on := 21, ground := Go.Ground.data }, { on := 14, ground := Go.Ground.guard }], guard := Option.some (14, Bool.true) }) (v := undef) rfl (by kernel_rfl) (by kernel_rfl) (by kernel_rfl) (fun _ _ _ h => h) (Or.inr ⟨by rfl, rfl⟩) (by assumption) ?_
                (try simp only [Act.put, List.setIfInBounds_toArray, List.set_cons_zero, List.set_cons_succ])
                refine wpAnyH_take (i := 23) (oi := { dst := Option.some 146, op := Go.Op.load 43 (Go.Operand.tmp 145), type := 43, pos := "law.go:87", after := #[{ on := 22, ground := Go.Ground.data }, { on := 14, ground := Go.Ground.guard }], guard := Option.some (14, Bool.true) }) (v := undef) rfl (by kernel_rfl) (by kernel_rfl) (by kernel_rfl) (fun _ _ _ h => h) (Or.inr ⟨by rfl, rfl⟩) (by assumption) ?_
                (try simp only [Act.put, List.setIfInBounds_toArray, List.set_cons_zero, List.set_cons_succ])
                refine wpAnyH_take (i := 24) (oi := { dst := Option.some 147, op := Go.Op.nilCheck (Go.Operand.tmp 146), type := 0, pos := "law.go:87", after := #[{ on := 23, ground := Go.Ground.data }, { on := 14, ground := Go.Ground.guard }], guard := Option.some (14, Bool.true) }) (v := undef) rfl (by kernel_rfl) (by kernel_rfl) (by kernel_rfl) (fun _ _ _ h => h) (Or.inr ⟨by rfl, rfl⟩) (by assumption) ?_
                (try simp only [Act.put, List.setIfInBounds_toArray, List.set_cons_zero, List.set_cons_succ])
                refine wpAnyH_take (i := 25) (oi := { dst := Option.some 148, op := Go.Op.fieldAddr 56 (Go.Operand.tmp 147) 2, type := 0, pos := "law.go:87", after := #[{ on := 24, ground := Go.Ground.data }, { on := 14, ground := Go.Ground.guard }], guard := Option.some (14, Bool.true) }) (v := undef) rfl (by kernel_rfl) (by kernel_rfl) (by kernel_rfl) (fun _ _ _ h => h) (Or.inr ⟨by rfl, rfl⟩) (by assumption) ?_
                (try simp only [Act.put, List.setIfInBounds_toArray, List.set_cons_zero, List.set_cons_succ])
                refine wpAnyH_take (i := 26) (oi := { dst := Option.some 149, op := Go.Op.load 36 (Go.Operand.tmp 148), type := 36, pos := "law.go:87", after := #[{ on := 25, ground := Go.Ground.data }, { on := 14, ground := Go.Ground.guard }], guard := Option.some (14, Bool.true) }) (v := undef) rfl (by kernel_rfl) (by kernel_rfl) (by kernel_rfl) (fun _ _ _ h => h) (Or.inr ⟨by rfl, rfl⟩) (by assumption) ?_
                (try simp only [Act.put, List.setIfInBounds_toArray, List.set_cons_zero, List.set_cons_succ])
                refine wpAnyH_take (i := 27) (oi := { dst := Option.some 150, op := Go.Op.binOp Go.BinOp.neq 36 (Go.Operand.tmp 142) (Go.Operand.tmp 149) 36, type := 4, pos := "law.go:87", after := #[{ on := 19, ground := Go.Ground.data }, { on := 26, ground := Go.Ground.data }, { on := 14, ground := Go.Ground.guard }], guard := Option.some (14, Bool.true) }) (v := undef) rfl (by kernel_rfl) (by kernel_rfl) (by kernel_rfl) (fun _ _ _ h => h) (Or.inr ⟨by rfl, rfl⟩) (by assumption) ?_
                (try simp only [Act.put, List.setIfInBounds_toArray, List.set_cons_zero, List.set_cons_succ])
                refine wpAnyH_take (i := 28) (oi := { dst := Option.some 151, op := Go.Op.pick (Go.Operand.tmp 137) (Go.Operand.tmp 150) (Go.Operand.const (Go.Value.bool Bool.false)), type := 4, pos := "law.go:87", after := #[{ on := 14, ground := Go.Ground.data }, { on := 27, ground := Go.Ground.data }, { on := 8, ground := Go.Ground.guard }], guard := Option.some (8, Bool.false) }) (v := ?_) rfl (by kernel_rfl) (by kernel_rfl) (by kernel_rfl) (fun _ _ _ h => h) (Or.inl ⟨by rfl, ?_⟩) (by assumption) ?_
                rotate_left
                · intro w hSw
                  (try dsimp only at hSw)
                  go_simp
                  (try with_reducible rfl)
                (try simp only [Act.put, List.setIfInBounds_toArray, List.set_cons_zero, List.set_cons_succ])
                refine wpAnyH_take (i := 29) (oi := { dst := Option.some 152, op := Go.Op.pick (Go.Operand.tmp 131) (Go.Operand.const (Go.Value.bool Bool.true)) (Go.Operand.tmp 151), type := 4, pos := "law.go:87", after := #[{ on := 8, ground := Go.Ground.data }, { on := 28, ground := Go.Ground.data }], guard := Option.none }) (v := ?_) rfl (by kernel_rfl) (by kernel_rfl) (by kernel_rfl) (fun _ _ _ h => h) (Or.inl ⟨by rfl, ?_⟩) (by assumption) ?_
                rotate_left
                · intro w hSw
                  (try dsimp only at hSw)
                  go_simp
                  (try with_reducible rfl)
                (try simp only [Act.put, List.setIfInBounds_toArray, List.set_cons_zero, List.set_cons_succ])
                refine wpAnyH_done (by kernel_rfl) ?_ _
                go_wp2
                go_roundw
                case rel => exact ⟨i + 1, F4, G4, T, none, by go_num, by omega, E4.out _ C5.out⟩
                case measure => simp [hNat]; omega
            have t7 : (m.h.kind == 7) = false := by simpa using h7
            clear h7
            by_cases h8 : m.h.kind = 8
            · have t8 : (m.h.kind == 8) = true := by simpa using h8
              have zA := fun u t h => act_any u b c P F G S o m (.inr (.inl h8)) hv t h hO
              unfold PrPost at zA
              clear h8
              go_wp2_with (first
                | ((with_reducible refine atWorld wr ?_); refine wpList_allocRow (w := wr) daTy rfl rfl ?_; (intro w1 b1 B1 s1; have b1 := Lib.hid b1))
                | ((with_reducible refine atWorld w1 ?_); refine wpList_storeRow (w := w1) daTy rfl (.tmp 13) (.tmp 66) rfl wr.heap.size (daCells m) daZ rfl rfl rfl rfl (da_one m) b1.out ?_; (intro w2 b2 B2 s2 k2; have B12 : Below wr.heap.size wr w2 := B1.trans B2; obtain ⟨e0, e1, e2, e4, e6⟩ := da_cells b2; have M2 := Lib.hid (G2.out w2 B12 b2); have b2 := Lib.hid b2; have PT2 := Lib.hid (HI.out.1.pt.step B12); have t2 := HT.out.below (HI.out.1.below.trans (B12.mono HI.out.1.below.size)) (Nat.le_refl _); clear b1 B1 s1 B2 s2 k2))
                | ((with_reducible refine atWorld w2 ?_); refine wpList_loadRow (w := w2) daTy rfl (.tmp 13) rfl wr.heap.size 0 (daCells m) rfl rfl (rangeOf b2.out) ?_)
                | (go_at_call 9; refine (zA w2 t2 PT2.out).mono ?_; (rintro e w4 ⟨T, F4, G4, o4, rfl, t4, ho4, o1, o2, o3, f4⟩; have hO4 : T.ops ≤ 1000000 := Nat.le_trans ho4 (Nat.le_trans (Nat.add_le_add_right hO 4) (by decide)); have E4 := Lib.hid (HI.out.1.next B12 t4 ho4 o1 o2 o3 f4); have T4 := Lib.hid t4; clear t4 o1 o2 o3 f4)))
              have D4 := (Below.refl w4.heap.size w4).drew
              have A4 := Lib.hid (haAlike_any disks w4.drew b c F4 G4 T (T4.out.two.step disks D4) hO4)
              cases o4 with
              | some q4 =>
                have K4 := Lib.hid (prRead T4.out)
                have J0 := (K4.out w4.drew D4).1
                have J4 := (K4.out w4 (Below.refl _ _)).1
                go_region_held3 (fun w' => w'.cell? ⟨P, 0, none⟩ = some (.pointer (some ⟨q4.g, 0, none⟩)) ∧ w'.cell? ⟨P, 1, none⟩ = some (.pointer (some ⟨q4.h, 0, none⟩)) ∧ w'.cell? ⟨q4.h, 2, none⟩ = some (.int .u64 (q4.s : Int))) (first | assumption | exact J0 | exact J4) (first
                  | (go_at_call 16; refine A4.out.mono ?_; (rintro e w5 ⟨rfl, B5⟩; have C5 := step_trans D4 B5; obtain ⟨J5, m5⟩ := K4.out w5 C5; have C5 := Lib.hid C5; clear B5))
                  | (go_at_call 17; refine (mpBits_any m5).mono ?_; (rintro e w' ⟨rfl, rfl⟩)))
                go_wp2
                go_roundw
                case rel => exact ⟨i + 1, F4, G4, T, some q4, by go_num, by omega, E4.out _ C5.out⟩
                case measure => simp [hNat]; omega
              | none =>
                have K4 := Lib.hid (prReadNo T4.out)
                have J0 := K4.out w4.drew D4
                refine wp_region_held_drew (S := fun w' => w'.cell? ⟨P, 0, none⟩ = some (.pointer none) ∧ w'.cell? ⟨P, 1, none⟩ = some (.pointer none)) (by kernel_rfl) J0 (fun hHeld => ?_)
                refine wpAnyH_take (i := 0) (oi := { dst := Option.some 123, op := Go.Op.move (Go.Operand.tmp 14), type := 4, pos := "law.go:87", after := #[], guard := Option.none }) (v := ?_) rfl (by kernel_rfl) (by kernel_rfl) (by kernel_rfl) (fun _ _ _ h => h) (Or.inl ⟨by rfl, ?_⟩) (by assumption) ?_
                rotate_left
                · intro w hSw
                  (try dsimp only at hSw)
                  go_simp
                  (try with_reducible rfl)
                (try simp only [Act.put, List.setIfInBounds_toArray, List.set_cons_zero, List.set_cons_succ])
                refine wpAnyH_take (i := 1) (oi := { dst := Option.some 124, op := Go.Op.unOp Go.UnOp.not 4 (Go.Operand.tmp 123), type := 4, pos := "law.go:87", after := #[{ on := 0, ground := Go.Ground.data }], guard := Option.none }) (v := ?_) rfl (by kernel_rfl) (by kernel_rfl) (by kernel_rfl) (fun _ _ _ h => h) (Or.inl ⟨by rfl, ?_⟩) (by assumption) ?_
                rotate_left
                · intro w hSw
                  (try dsimp only at hSw)
                  go_simp
                  (try with_reducible rfl)
                (try simp only [Act.put, List.setIfInBounds_toArray, List.set_cons_zero, List.set_cons_succ])
                refine wpAnyH_take (i := 2) (oi := { dst := Option.some 125, op := Go.Op.move (Go.Operand.tmp 124), type := 4, pos := "law.go:87", after := #[{ on := 1, ground := Go.Ground.data }], guard := Option.none }) (v := ?_) rfl (by kernel_rfl) (by kernel_rfl) (by kernel_rfl) (fun _ _ _ h => h) (Or.inl ⟨by rfl, ?_⟩) (by assumption) ?_
                rotate_left
                · intro w hSw
                  (try dsimp only at hSw)
                  go_simp
                  (try with_reducible rfl)
                (try simp only [Act.put, List.setIfInBounds_toArray, List.set_cons_zero, List.set_cons_succ])
                refine wpAnyH_take (i := 3) (oi := { dst := Option.some 126, op := Go.Op.move (Go.Operand.tmp 5), type := 24, pos := "law.go:87", after := #[{ on := 2, ground := Go.Ground.guard }], guard := Option.some (2, Bool.false) }) (v := ?_) rfl (by kernel_rfl) (by kernel_rfl) (by kernel_rfl) (fun _ _ _ h => h) (Or.inl ⟨by rfl, ?_⟩) (by assumption) ?_
                rotate_left
                · intro w hSw
                  (try dsimp only at hSw)
                  go_simp
                  (try with_reducible rfl)
                (try simp only [Act.put, List.setIfInBounds_toArray, List.set_cons_zero, List.set_cons_succ])
                refine wpAnyH_take (i := 4) (oi := { dst := Option.some 127, op := Go.Op.move (Go.Operand.tmp 7), type := 28, pos := "law.go:87", after := #[{ on := 2, ground := Go.Ground.guard }], guard := Option.some (2, Bool.false) }) (v := ?_) rfl (by kernel_rfl) (by kernel_rfl) (by kernel_rfl) (fun _ _ _ h => h) (Or.inl ⟨by rfl, ?_⟩) (by assumption) ?_
                rotate_left
                · intro w hSw
                  (try dsimp only at hSw)
                  go_simp
                  (try with_reducible rfl)
                (try simp only [Act.put, List.setIfInBounds_toArray, List.set_cons_zero, List.set_cons_succ])
                refine wpAnyH_ready (rs := [5]) (by kernel_rfl) (by simp) ?_
                refine AllReadyH.cons (o := { dst := Option.some 128, op := Go.Op.call { callee := Go.Callee.value (Go.Operand.func 16), args := #[Go.Operand.tmp 126, Go.Operand.tmp 127], argTypes := #[24, 28] }, type := 4, pos := "law.go:87", after := #[{ on := 3, ground := Go.Ground.data }, { on := 4, ground := Go.Ground.data }, { on := 2, ground := Go.Ground.chain }, { on := 2, ground := Go.Ground.guard }], guard := Option.some (2, Bool.false) }) rfl (fun K hK => ?_) AllReadyH.nil
                go_simp
                refine A4.out.mono ?_
                rintro e w5 ⟨rfl, B5⟩
                have C5 := step_trans D4 B5
                have J5 := K4.out w5 C5
                have C5 := Lib.hid C5
                clear B5
                go_wp2_with fail
                refine hK.out _ _ J5 (fun hHeld2 => ?_)
                clear hK K
                (try simp only [Act.put, List.setIfInBounds_toArray, List.set_cons_zero, List.set_cons_succ])
                refine wpAnyH_take (i := 6) (oi := { dst := Option.some 129, op := Go.Op.unOp Go.UnOp.not 4 (Go.Operand.tmp 128), type := 4, pos := "law.go:87", after := #[{ on := 5, ground := Go.Ground.data }, { on := 2, ground := Go.Ground.guard }], guard := Option.some (2, Bool.false) }) (v := ?_) rfl (by kernel_rfl) (by kernel_rfl) (by kernel_rfl) (fun _ _ _ h => h) (Or.inl ⟨by rfl, ?_⟩) (by assumption) ?_
                rotate_left
                · intro w hSw
                  (try dsimp only at hSw)
                  go_simp
                  (try with_reducible rfl)
                (try simp only [Act.put, List.setIfInBounds_toArray, List.set_cons_zero, List.set_cons_succ])
                refine wpAnyH_take (i := 7) (oi := { dst := Option.some 130, op := Go.Op.pick (Go.Operand.tmp 125) (Go.Operand.const (Go.Value.bool Bool.true)) (Go.Operand.tmp 129), type := 4, pos := "law.go:87", after := #[{ on := 2, ground := Go.Ground.data }, { on := 6, ground := Go.Ground.data }], guard := Option.none }) (v := ?_) rfl (by kernel_rfl) (by kernel_rfl) (by kernel_rfl) (fun _ _ _ h => h) (Or.inl ⟨by rfl, ?_⟩) (by assumption) ?_
                rotate_left
                · intro w hSw
                  (try dsimp only at hSw)
                  go_simp
                  (try with_reducible rfl)
                (try simp only [Act.put, List.setIfInBounds_toArray, List.set_cons_zero, List.set_cons_succ])
                refine wpAnyH_take (i := 8) (oi := { dst := Option.some 131, op := Go.Op.move (Go.Operand.tmp 130), type := 4, pos := "law.go:87", after := #[{ on := 7, ground := Go.Ground.data }, { on := 5, ground := Go.Ground.chain }], guard := Option.none }) (v := ?_) rfl (by kernel_rfl) (by kernel_rfl) (by kernel_rfl) (fun _ _ _ h => h) (Or.inl ⟨by rfl, ?_⟩) (by assumption) ?_
                rotate_left
                · intro w hSw
                  (try dsimp only at hSw)
                  go_simp
                  (try with_reducible rfl)
                (try simp only [Act.put, List.setIfInBounds_toArray, List.set_cons_zero, List.set_cons_succ])
                refine wpAnyH_take (i := 9) (oi := { dst := Option.some 132, op := Go.Op.move (Go.Operand.tmp 11), type := 41, pos := "law.go:87", after := #[{ on := 8, ground := Go.Ground.guard }], guard := Option.some (8, Bool.false) }) (v := ?_) rfl (by kernel_rfl) (by kernel_rfl) (by kernel_rfl) (fun _ _ _ h => h) (Or.inl ⟨by rfl, ?_⟩) (by assumption) ?_
                rotate_left
                · intro w hSw
                  (try dsimp only at hSw)
                  go_simp
                  (try with_reducible rfl)
                (try simp only [Act.put, List.setIfInBounds_toArray, List.set_cons_zero, List.set_cons_succ])
                refine wpAnyH_take (i := 10) (oi := { dst := Option.some 133, op := Go.Op.nilCheck (Go.Operand.tmp 132), type := 0, pos := "law.go:87", after := #[{ on := 9, ground := Go.Ground.data }, { on := 8, ground := Go.Ground.guard }], guard := Option.some (8, Bool.false) }) (v := ?_) rfl (by kernel_rfl) (by kernel_rfl) (by kernel_rfl) (fun _ _ _ h => h) (Or.inl ⟨by rfl, ?_⟩) (by assumption) ?_
                rotate_left
                · intro w hSw
                  (try dsimp only at hSw)
                  go_simp
                  (try with_reducible rfl)
                (try simp only [Act.put, List.setIfInBounds_toArray, List.set_cons_zero, List.set_cons_succ])
                refine wpAnyH_take (i := 11) (oi := { dst := Option.some 134, op := Go.Op.fieldAddr 45 (Go.Operand.tmp 133) 1, type := 0, pos := "law.go:87", after := #[{ on := 10, ground := Go.Ground.data }, { on := 8, ground := Go.Ground.guard }], guard := Option.some (8, Bool.false) }) (v := ?_) rfl (by kernel_rfl) (by kernel_rfl) (by kernel_rfl) (fun _ _ _ h => h) (Or.inl ⟨by rfl, ?_⟩) (by assumption) ?_
                rotate_left
                · intro w hSw
                  (try dsimp only at hSw)
                  go_simp
                  (try with_reducible rfl)
                (try simp only [Act.put, List.setIfInBounds_toArray, List.set_cons_zero, List.set_cons_succ])
                refine wpAnyH_take (i := 12) (oi := { dst := Option.some 135, op := Go.Op.load 43 (Go.Operand.tmp 134), type := 43, pos := "law.go:87", after := #[{ on := 11, ground := Go.Ground.data }, { on := 8, ground := Go.Ground.guard }], guard := Option.some (8, Bool.false) }) (v := ?_) rfl (by kernel_rfl) (by kernel_rfl) (by kernel_rfl) (fun _ _ _ h => h) (Or.inl ⟨by rfl, ?_⟩) (by assumption) ?_
                rotate_left
                · intro w hSw
                  (try dsimp only at hSw)
                  go_simp
                  (try with_reducible rfl)
                (try simp only [Act.put, List.setIfInBounds_toArray, List.set_cons_zero, List.set_cons_succ])
                refine wpAnyH_take (i := 13) (oi := { dst := Option.some 136, op := Go.Op.binOp Go.BinOp.neq 43 (Go.Operand.tmp 135) (Go.Operand.const (Go.Value.pointer Option.none)) 43, type := 4, pos := "law.go:87", after := #[{ on := 12, ground := Go.Ground.data }, { on := 8, ground := Go.Ground.guard }], guard := Option.some (8, Bool.false) }) (v := ?_) rfl (by kernel_rfl) (by kernel_rfl) (by kernel_rfl) (fun _ _ _ h => h) (Or.inl ⟨by rfl, ?_⟩) (by assumption) ?_
                rotate_left
                · intro w hSw
                  (try dsimp only at hSw)
                  go_simp
                  (try with_reducible rfl)
                (try simp only [Act.put, List.setIfInBounds_toArray, List.set_cons_zero, List.set_cons_succ])
                refine wpAnyH_take (i := 14) (oi := { dst := Option.some 137, op := Go.Op.move (Go.Operand.tmp 136), type := 4, pos := "law.go:87", after := #[{ on := 13, ground := Go.Ground.data }, { on := 8, ground := Go.Ground.chain }, { on := 8, ground := Go.Ground.guard }], guard := Option.some (8, Bool.false) }) (v := ?_) rfl (by kernel_rfl) (by kernel_rfl) (by kernel_rfl) (fun _ _ _ h => h) (Or.inl ⟨by rfl, ?_⟩) (by assumption) ?_
                rotate_left
                · intro w hSw
                  (try dsimp only at hSw)
                  go_simp
                  (try with_reducible rfl)
                (try simp only [Act.put, List.setIfInBounds_toArray, List.set_cons_zero, List.set_cons_succ])
                refine wpAnyH_take (i := 15) (oi := { dst := Option.some 138, op := Go.Op.move (Go.Operand.tmp 11), type := 41, pos := "law.go:87", after := #[{ on := 14, ground := Go.Ground.guard }], guard := Option.some (14, Bool.true) }) (v := undef) rfl (by kernel_rfl) (by kernel_rfl) (by kernel_rfl) (fun _ _ _ h => h) (Or.inr ⟨by rfl, rfl⟩) (by assumption) ?_
                (try simp only [Act.put, List.setIfInBounds_toArray, List.set_cons_zero, List.set_cons_succ])
                refine wpAnyH_take (i := 16) (oi := { dst := Option.some 139, op := Go.Op.nilCheck (Go.Operand.tmp 138), type := 0, pos := "law.go:87", after := #[{ on := 15, ground := Go.Ground.data }, { on := 14, ground := Go.Ground.guard }], guard := Option.some (14, Bool.true) }) (v := undef) rfl (by kernel_rfl) (by kernel_rfl) (by kernel_rfl) (fun _ _ _ h => h) (Or.inr ⟨by rfl, rfl⟩) (by assumption) ?_
                (try simp only [Act.put, List.setIfInBounds_toArray, List.set_cons_zero, List.set_cons_succ])
                refine wpAnyH_take (i := 17) (oi := { dst := Option.some 140, op := Go.Op.fieldAddr 45 (Go.Operand.tmp 139) 0, type := 0, pos := "law.go:87", after := #[{ on := 16, ground := Go.Ground.data }, { on := 14, ground := Go.Ground.guard }], guard := Option.some (14, Bool.true) }) (v := undef) rfl (by kernel_rfl) (by kernel_rfl) (by kernel_rfl) (fun _ _ _ h => h) (Or.inr ⟨by rfl, rfl⟩) (by assumption) ?_
                (try simp only [Act.put, List.setIfInBounds_toArray, List.set_cons_zero, List.set_cons_succ])
                refine wpAnyH_take (i := 18) (oi := { dst := Option.some 141, op := Go.Op.load 42 (Go.Operand.tmp 140), type := 42, pos := "law.go:87", after := #[{ on := 17, ground := Go.Ground.data }, { on := 14, ground := Go.Ground.guard }], guard := Option.some (14, Bool.true) }) (v := undef) rfl (by kernel_rfl) (by kernel_rfl) (by kernel_rfl) (fun _ _ _ h => h) (Or.inr ⟨by rfl, rfl⟩) (by assumption) ?_
                (try simp only [Act.put, List.setIfInBounds_toArray, List.set_cons_zero, List.set_cons_succ])
                refine wpAnyH_take (i := 19) (oi := { dst := Option.some 142, op := Go.Op.call { callee := Go.Callee.value (Go.Operand.func 17), args := #[Go.Operand.tmp 141], argTypes := #[42] }, type := 36, pos := "law.go:87", after := #[{ on := 18, ground := Go.Ground.data }, { on := 14, ground := Go.Ground.chain }, { on := 14, ground := Go.Ground.guard }], guard := Option.some (14, Bool.true) }) (v := undef) rfl (by kernel_rfl) (by kernel_rfl) (by kernel_rfl) (fun _ _ _ h => h) (Or.inr ⟨by rfl, rfl⟩) (by assumption) ?_
                (try simp only [Act.put, List.setIfInBounds_toArray, List.set_cons_zero, List.set_cons_succ])
                refine wpAnyH_take (i := 20) (oi := { dst := Option.some 143, op := Go.Op.move (Go.Operand.tmp 11), type := 41, pos := "law.go:87", after := #[{ on := 14, ground := Go.Ground.guard }], guard := Option.some (14, Bool.true) }) (v := undef) rfl (by kernel_rfl) (by kernel_rfl) (by kernel_rfl) (fun _ _ _ h => h) (Or.inr ⟨by rfl, rfl⟩) (by assumption) ?_
                (try simp only [Act.put, List.setIfInBounds_toArray, List.set_cons_zero, List.set_cons_succ])
                refine wpAnyH_take (i := 21) (oi := { dst := Option.some 144, op := Go.Op.nilCheck (Go.Operand.tmp 143), type := 0, pos := "law.go:87", after := #[{ on := 20, ground := Go.Ground.data }, { on := 14, ground := Go.Ground.guard }], guard := Option.some (14, Bool.true) }) (v := undef) rfl (by kernel_rfl) (by kernel_rfl) (by kernel_rfl) (fun _ _ _ h => h) (Or.inr ⟨by rfl, rfl⟩) (by assumption) ?_
                (try simp only [Act.put, List.setIfInBounds_toArray, List.set_cons_zero, List.set_cons_succ])
                refine wpAnyH_take (i := 22) (oi := { dst := Option.some 145, op := Go.Op.fieldAddr 45 (Go.Operand.tmp 144) 1, type := 0, pos := "law.go:87", after := #[{ on := 21, ground := Go.Ground.data }, { on := 14, ground := Go.Ground.guard }], guard := Option.some (14, Bool.true) }) (v := undef) rfl (by kernel_rfl) (by kernel_rfl) (by kernel_rfl) (fun _ _ _ h => h) (Or.inr ⟨by rfl, rfl⟩) (by assumption) ?_
                (try simp only [Act.put, List.setIfInBounds_toArray, List.set_cons_zero, List.set_cons_succ])
                refine wpAnyH_take (i := 23) (oi := { dst := Option.some 146, op := Go.Op.load 43 (Go.Operand.tmp 145), type := 43, pos := "law.go:87", after := #[{ on := 22, ground := Go.Ground.data }, { on := 14, ground := Go.Ground.guard }], guard := Option.some (14, Bool.true) }) (v := undef) rfl (by kernel_rfl) (by kernel_rfl) (by kernel_rfl) (fun _ _ _ h => h) (Or.inr ⟨by rfl, rfl⟩) (by assumption) ?_
                (try simp only [Act.put, List.setIfInBounds_toArray, List.set_cons_zero, List.set_cons_succ])
                refine wpAnyH_take (i := 24) (oi := { dst := Option.some 147, op := Go.Op.nilCheck (Go.Operand.tmp 146), type := 0, pos := "law.go:87", after := #[{ on := 23, ground := Go.Ground.data }, { on := 14, ground := Go.Ground.guard }], guard := Option.some (14, Bool.true) }) (v := undef) rfl (by kernel_rfl) (by kernel_rfl) (by kernel_rfl) (fun _ _ _ h => h) (Or.inr ⟨by rfl, rfl⟩) (by assumption) ?_
                (try simp only [Act.put, List.setIfInBounds_toArray, List.set_cons_zero, List.set_cons_succ])
                refine wpAnyH_take (i := 25) (oi := { dst := Option.some 148, op := Go.Op.fieldAddr 56 (Go.Operand.tmp 147) 2, type := 0, pos := "law.go:87", after := #[{ on := 24, ground := Go.Ground.data }, { on := 14, ground := Go.Ground.guard }], guard := Option.some (14, Bool.true) }) (v := undef) rfl (by kernel_rfl) (by kernel_rfl) (by kernel_rfl) (fun _ _ _ h => h) (Or.inr ⟨by rfl, rfl⟩) (by assumption) ?_
                (try simp only [Act.put, List.setIfInBounds_toArray, List.set_cons_zero, List.set_cons_succ])
                refine wpAnyH_take (i := 26) (oi := { dst := Option.some 149, op := Go.Op.load 36 (Go.Operand.tmp 148), type := 36, pos := "law.go:87", after := #[{ on := 25, ground := Go.Ground.data }, { on := 14, ground := Go.Ground.guard }], guard := Option.some (14, Bool.true) }) (v := undef) rfl (by kernel_rfl) (by kernel_rfl) (by kernel_rfl) (fun _ _ _ h => h) (Or.inr ⟨by rfl, rfl⟩) (by assumption) ?_
                (try simp only [Act.put, List.setIfInBounds_toArray, List.set_cons_zero, List.set_cons_succ])
                refine wpAnyH_take (i := 27) (oi := { dst := Option.some 150, op := Go.Op.binOp Go.BinOp.neq 36 (Go.Operand.tmp 142) (Go.Operand.tmp 149) 36, type := 4, pos := "law.go:87", after := #[{ on := 19, ground := Go.Ground.data }, { on := 26, ground := Go.Ground.data }, { on := 14, ground := Go.Ground.guard }], guard := Option.some (14, Bool.true) }) (v := undef) rfl (by kernel_rfl) (by kernel_rfl) (by kernel_rfl) (fun _ _ _ h => h) (Or.inr ⟨by rfl, rfl⟩) (by assumption) ?_
                (try simp only [Act.put, List.setIfInBounds_toArray, List.set_cons_zero, List.set_cons_succ])
                refine wpAnyH_take (i := 28) (oi := { dst := Option.some 151, op := Go.Op.pick (Go.Operand.tmp 137) (Go.Operand.tmp 150) (Go.Operand.const (Go.Value.bool Bool.false)), type := 4, pos := "law.go:87", after := #[{ on := 14, ground := Go.Ground.data }, { on := 27, ground := Go.Ground.data }, { on := 8, ground := Go.Ground.guard }], guard := Option.some (8, Bool.false) }) (v := ?_) rfl (by kernel_rfl) (by kernel_rfl) (by kernel_rfl) (fun _ _ _ h => h) (Or.inl ⟨by rfl, ?_⟩) (by assumption) ?_
                rotate_left
                · intro w hSw
                  (try dsimp only at hSw)
                  go_simp
                  (try with_reducible rfl)
                (try simp only [Act.put, List.setIfInBounds_toArray, List.set_cons_zero, List.set_cons_succ])
                refine wpAnyH_take (i := 29) (oi := { dst := Option.some 152, op := Go.Op.pick (Go.Operand.tmp 131) (Go.Operand.const (Go.Value.bool Bool.true)) (Go.Operand.tmp 151), type := 4, pos := "law.go:87", after := #[{ on := 8, ground := Go.Ground.data }, { on := 28, ground := Go.Ground.data }], guard := Option.none }) (v := ?_) rfl (by kernel_rfl) (by kernel_rfl) (by kernel_rfl) (fun _ _ _ h => h) (Or.inl ⟨by rfl, ?_⟩) (by assumption) ?_
                rotate_left
                · intro w hSw
                  (try dsimp only at hSw)
                  go_simp
                  (try with_reducible rfl)
                (try simp only [Act.put, List.setIfInBounds_toArray, List.set_cons_zero, List.set_cons_succ])
                refine wpAnyH_done (by kernel_rfl) ?_ _
                go_wp2
                go_roundw
                case rel => exact ⟨i + 1, F4, G4, T, none, by go_num, by omega, E4.out _ C5.out⟩
                case measure => simp [hNat]; omega
            have t8 : (m.h.kind == 8) = false := by simpa using h8
            clear h8
            by_cases h9 : m.h.kind = 9
            · have t9 : (m.h.kind == 9) = true := by simpa using h9
              have zA := fun u t h => act_any u b c P F G S o m (.inr (.inr h9)) hv t h hO
              unfold PrPost at zA
              clear h9
              go_wp2_with (first
                | ((with_reducible refine atWorld wr ?_); refine wpList_allocRow (w := wr) daTy rfl rfl ?_; (intro w1 b1 B1 s1; have b1 := Lib.hid b1))
                | ((with_reducible refine atWorld w1 ?_); refine wpList_storeRow (w := w1) daTy rfl (.tmp 13) (.tmp 66) rfl wr.heap.size (daCells m) daZ rfl rfl rfl rfl (da_one m) b1.out ?_; (intro w2 b2 B2 s2 k2; have B12 : Below wr.heap.size wr w2 := B1.trans B2; obtain ⟨e0, e1, e2, e4, e6⟩ := da_cells b2; have M2 := Lib.hid (G2.out w2 B12 b2); have b2 := Lib.hid b2; have PT2 := Lib.hid (HI.out.1.pt.step B12); have t2 := HT.out.below (HI.out.1.below.trans (B12.mono HI.out.1.below.size)) (Nat.le_refl _); clear b1 B1 s1 B2 s2 k2))
                | ((with_reducible refine atWorld w2 ?_); refine wpList_loadRow (w := w2) daTy rfl (.tmp 13) rfl wr.heap.size 0 (daCells m) rfl rfl (rangeOf b2.out) ?_)
                | (go_at_call 9; refine (zA w2 t2 PT2.out).mono ?_; (rintro e w4 ⟨T, F4, G4, o4, rfl, t4, ho4, o1, o2, o3, f4⟩; have hO4 : T.ops ≤ 1000000 := Nat.le_trans ho4 (Nat.le_trans (Nat.add_le_add_right hO 4) (by decide)); have E4 := Lib.hid (HI.out.1.next B12 t4 ho4 o1 o2 o3 f4); have T4 := Lib.hid t4; clear t4 o1 o2 o3 f4)))
              have D4 := (Below.refl w4.heap.size w4).drew
              have A4 := Lib.hid (haAlike_any disks w4.drew b c F4 G4 T (T4.out.two.step disks D4) hO4)
              cases o4 with
              | some q4 =>
                have K4 := Lib.hid (prRead T4.out)
                have J0 := (K4.out w4.drew D4).1
                have J4 := (K4.out w4 (Below.refl _ _)).1
                go_region_held3 (fun w' => w'.cell? ⟨P, 0, none⟩ = some (.pointer (some ⟨q4.g, 0, none⟩)) ∧ w'.cell? ⟨P, 1, none⟩ = some (.pointer (some ⟨q4.h, 0, none⟩)) ∧ w'.cell? ⟨q4.h, 2, none⟩ = some (.int .u64 (q4.s : Int))) (first | assumption | exact J0 | exact J4) (first
                  | (go_at_call 16; refine A4.out.mono ?_; (rintro e w5 ⟨rfl, B5⟩; have C5 := step_trans D4 B5; obtain ⟨J5, m5⟩ := K4.out w5 C5; have C5 := Lib.hid C5; clear B5))
                  | (go_at_call 17; refine (mpBits_any m5).mono ?_; (rintro e w' ⟨rfl, rfl⟩)))
                go_wp2
                go_roundw
                case rel => exact ⟨i + 1, F4, G4, T, some q4, by go_num, by omega, E4.out _ C5.out⟩
                case measure => simp [hNat]; omega
              | none =>
                have K4 := Lib.hid (prReadNo T4.out)
                have J0 := K4.out w4.drew D4
                refine wp_region_held_drew (S := fun w' => w'.cell? ⟨P, 0, none⟩ = some (.pointer none) ∧ w'.cell? ⟨P, 1, none⟩ = some (.pointer none)) (by kernel_rfl) J0 (fun hHeld => ?_)
                refine wpAnyH_take (i := 0) (oi := { dst := Option.some 123, op := Go.Op.move (Go.Operand.tmp 14), type := 4, pos := "law.go:87", after := #[], guard := Option.none }) (v := ?_) rfl (by kernel_rfl) (by kernel_rfl) (by kernel_rfl) (fun _ _ _ h => h) (Or.inl ⟨by rfl, ?_⟩) (by assumption) ?_
                rotate_left
                · intro w hSw
                  (try dsimp only at hSw)
                  go_simp
                  (try with_reducible rfl)
                (try simp only [Act.put, List.setIfInBounds_toArray, List.set_cons_zero, List.set_cons_succ])
                refine wpAnyH_take (i := 1) (oi := { dst := Option.some 124, op := Go.Op.unOp Go.UnOp.not 4 (Go.Operand.tmp 123), type := 4, pos := "law.go:87", after := #[{ on := 0, ground := Go.Ground.data }], guard := Option.none }) (v := ?_) rfl (by kernel_rfl) (by kernel_rfl) (by kernel_rfl) (fun _ _ _ h => h) (Or.inl ⟨by rfl, ?_⟩) (by assumption) ?_
                rotate_left
                · intro w hSw
                  (try dsimp only at hSw)
                  go_simp
                  (try with_reducible rfl)
                (try simp only [Act.put, List.setIfInBounds_toArray, List.set_cons_zero, List.set_cons_succ])
                refine wpAnyH_take (i := 2) (oi := { dst := Option.some 125, op := Go.Op.move (Go.Operand.tmp 124), type := 4, pos := "law.go:87", after := #[{ on := 1, ground := Go.Ground.data }], guard := Option.none }) (v := ?_) rfl (by kernel_rfl) (by kernel_rfl) (by kernel_rfl) (fun _ _ _ h => h) (Or.inl ⟨by rfl, ?_⟩) (by assumption) ?_
                rotate_left
                · intro w hSw
                  (try dsimp only at hSw)
                  go_simp
                  (try with_reducible rfl)
                (try simp only [Act.put, List.setIfInBounds_toArray, List.set_cons_zero, List.set_cons_succ])
                refine wpAnyH_take (i := 3) (oi := { dst := Option.some 126, op := Go.Op.move (Go.Operand.tmp 5), type := 24, pos := "law.go:87", after := #[{ on := 2, ground := Go.Ground.guard }], guard := Option.some (2, Bool.false) }) (v := ?_) rfl (by kernel_rfl) (by kernel_rfl) (by kernel_rfl) (fun _ _ _ h => h) (Or.inl ⟨by rfl, ?_⟩) (by assumption) ?_
                rotate_left
                · intro w hSw
                  (try dsimp only at hSw)
                  go_simp
                  (try with_reducible rfl)
                (try simp only [Act.put, List.setIfInBounds_toArray, List.set_cons_zero, List.set_cons_succ])
                refine wpAnyH_take (i := 4) (oi := { dst := Option.some 127, op := Go.Op.move (Go.Operand.tmp 7), type := 28, pos := "law.go:87", after := #[{ on := 2, ground := Go.Ground.guard }], guard := Option.some (2, Bool.false) }) (v := ?_) rfl (by kernel_rfl) (by kernel_rfl) (by kernel_rfl) (fun _ _ _ h => h) (Or.inl ⟨by rfl, ?_⟩) (by assumption) ?_
                rotate_left
                · intro w hSw
                  (try dsimp only at hSw)
                  go_simp
                  (try with_reducible rfl)
                (try simp only [Act.put, List.setIfInBounds_toArray, List.set_cons_zero, List.set_cons_succ])
                refine wpAnyH_ready (rs := [5]) (by kernel_rfl) (by simp) ?_
                refine AllReadyH.cons (o := { dst := Option.some 128, op := Go.Op.call { callee := Go.Callee.value (Go.Operand.func 16), args := #[Go.Operand.tmp 126, Go.Operand.tmp 127], argTypes := #[24, 28] }, type := 4, pos := "law.go:87", after := #[{ on := 3, ground := Go.Ground.data }, { on := 4, ground := Go.Ground.data }, { on := 2, ground := Go.Ground.chain }, { on := 2, ground := Go.Ground.guard }], guard := Option.some (2, Bool.false) }) rfl (fun K hK => ?_) AllReadyH.nil
                go_simp
                refine A4.out.mono ?_
                rintro e w5 ⟨rfl, B5⟩
                have C5 := step_trans D4 B5
                have J5 := K4.out w5 C5
                have C5 := Lib.hid C5
                clear B5
                go_wp2_with fail
                refine hK.out _ _ J5 (fun hHeld2 => ?_)
                clear hK K
                (try simp only [Act.put, List.setIfInBounds_toArray, List.set_cons_zero, List.set_cons_succ])
                refine wpAnyH_take (i := 6) (oi := { dst := Option.some 129, op := Go.Op.unOp Go.UnOp.not 4 (Go.Operand.tmp 128), type := 4, pos := "law.go:87", after := #[{ on := 5, ground := Go.Ground.data }, { on := 2, ground := Go.Ground.guard }], guard := Option.some (2, Bool.false) }) (v := ?_) rfl (by kernel_rfl) (by kernel_rfl) (by kernel_rfl) (fun _ _ _ h => h) (Or.inl ⟨by rfl, ?_⟩) (by assumption) ?_
                rotate_left
                · intro w hSw
                  (try dsimp only at hSw)
                  go_simp
                  (try with_reducible rfl)
                (try simp only [Act.put, List.setIfInBounds_toArray, List.set_cons_zero, List.set_cons_succ])
                refine wpAnyH_take (i := 7) (oi := { dst := Option.some 130, op := Go.Op.pick (Go.Operand.tmp 125) (Go.Operand.const (Go.Value.bool Bool.true)) (Go.Operand.tmp 129), type := 4, pos := "law.go:87", after := #[{ on := 2, ground := Go.Ground.data }, { on := 6, ground := Go.Ground.data }], guard := Option.none }) (v := ?_) rfl (by kernel_rfl) (by kernel_rfl) (by kernel_rfl) (fun _ _ _ h => h) (Or.inl ⟨by rfl, ?_⟩) (by assumption) ?_
                rotate_left
                · intro w hSw
                  (try dsimp only at hSw)
                  go_simp
                  (try with_reducible rfl)
                (try simp only [Act.put, List.setIfInBounds_toArray, List.set_cons_zero, List.set_cons_succ])
                refine wpAnyH_take (i := 8) (oi := { dst := Option.some 131, op := Go.Op.move (Go.Operand.tmp 130), type := 4, pos := "law.go:87", after := #[{ on := 7, ground := Go.Ground.data }, { on := 5, ground := Go.Ground.chain }], guard := Option.none }) (v := ?_) rfl (by kernel_rfl) (by kernel_rfl) (by kernel_rfl) (fun _ _ _ h => h) (Or.inl ⟨by rfl, ?_⟩) (by assumption) ?_
                rotate_left
                · intro w hSw
                  (try dsimp only at hSw)
                  go_simp
                  (try with_reducible rfl)
                (try simp only [Act.put, List.setIfInBounds_toArray, List.set_cons_zero, List.set_cons_succ])
                refine wpAnyH_take (i := 9) (oi := { dst := Option.some 132, op := Go.Op.move (Go.Operand.tmp 11), type := 41, pos := "law.go:87", after := #[{ on := 8, ground := Go.Ground.guard }], guard := Option.some (8, Bool.false) }) (v := ?_) rfl (by kernel_rfl) (by kernel_rfl) (by kernel_rfl) (fun _ _ _ h => h) (Or.inl ⟨by rfl, ?_⟩) (by assumption) ?_
                rotate_left
                · intro w hSw
                  (try dsimp only at hSw)
                  go_simp
                  (try with_reducible rfl)
                (try simp only [Act.put, List.setIfInBounds_toArray, List.set_cons_zero, List.set_cons_succ])
                refine wpAnyH_take (i := 10) (oi := { dst := Option.some 133, op := Go.Op.nilCheck (Go.Operand.tmp 132), type := 0, pos := "law.go:87", after := #[{ on := 9, ground := Go.Ground.data }, { on := 8, ground := Go.Ground.guard }], guard := Option.some (8, Bool.false) }) (v := ?_) rfl (by kernel_rfl) (by kernel_rfl) (by kernel_rfl) (fun _ _ _ h => h) (Or.inl ⟨by rfl, ?_⟩) (by assumption) ?_
                rotate_left
                · intro w hSw
                  (try dsimp only at hSw)
                  go_simp
                  (try with_reducible rfl)
                (try simp only [Act.put, List.setIfInBounds_toArray, List.set_cons_zero, List.set_cons_succ])
                refine wpAnyH_take (i := 11) (oi := { dst := Option.some 134, op := Go.Op.fieldAddr 45 (Go.Operand.tmp 133) 1, type := 0, pos := "law.go:87", after := #[{ on := 10, ground := Go.Ground.data }, { on := 8, ground := Go.Ground.guard }], guard := Option.some (8, Bool.false) }) (v := ?_) rfl (by kernel_rfl) (by kernel_rfl) (by kernel_rfl) (fun _ _ _ h => h) (Or.inl ⟨by rfl, ?_⟩) (by assumption) ?_
                rotate_left
                · intro w hSw
                  (try dsimp only at hSw)
                  go_simp
                  (try with_reducible rfl)
                (try simp only [Act.put, List.setIfInBounds_toArray, List.set_cons_zero, List.set_cons_succ])
                refine wpAnyH_take (i := 12) (oi := { dst := Option.some 135, op := Go.Op.load 43 (Go.Operand.tmp 134), type := 43, pos := "law.go:87", after := #[{ on := 11, ground := Go.Ground.data }, { on := 8, ground := Go.Ground.guard }], guard := Option.some (8, Bool.false) }) (v := ?_) rfl (by kernel_rfl) (by kernel_rfl) (by kernel_rfl) (fun _ _ _ h => h) (Or.inl ⟨by rfl, ?_⟩) (by assumption) ?_
                rotate_left
                · intro w hSw
                  (try dsimp only at hSw)
                  go_simp
                  (try with_reducible rfl)
                (try simp only [Act.put, List.setIfInBounds_toArray, List.set_cons_zero, List.set_cons_succ])
                refine wpAnyH_take (i := 13) (oi := { dst := Option.some 136, op := Go.Op.binOp Go.BinOp.neq 43 (Go.Operand.tmp 135) (Go.Operand.const (Go.Value.pointer Option.none)) 43, type := 4, pos := "law.go:87", after := #[{ on := 12, ground := Go.Ground.data }, { on := 8, ground := Go.Ground.guard }], guard := Option.some (8, Bool.false) }) (v := ?_) rfl (by kernel_rfl) (by kernel_rfl) (by kernel_rfl) (fun _ _ _ h => h) (Or.inl ⟨by rfl, ?_⟩) (by assumption) ?_
                rotate_left
                · intro w hSw
                  (try dsimp only at hSw)
                  go_simp
                  (try with_reducible rfl)
                (try simp only [Act.put, List.setIfInBounds_toArray, List.set_cons_zero, List.set_cons_succ])
                refine wpAnyH_take (i := 14) (oi := { dst := Option.some 137, op := Go.Op.move (Go.Operand.tmp 136), type := 4, pos := "law.go:87", after := #[{ on := 13, ground := Go.Ground.data }, { on := 8, ground := Go.Ground.chain }, { on := 8, ground := Go.Ground.guard }], guard := Option.some (8, Bool.false) }) (v := ?_) rfl (by kernel_rfl) (by kernel_rfl) (by kernel_rfl) (fun _ _ _ h => h) (Or.inl ⟨by rfl, ?_⟩) (by assumption) ?_
                rotate_left
                · intro w hSw
                  (try dsimp only at hSw)
                  go_simp
                  (try with_reducible rfl)
                (try simp only [Act.put, List.setIfInBounds_toArray, List.set_cons_zero, List.set_cons_succ])
                refine wpAnyH_take (i := 15) (oi := { dst := Option.some 138, op := Go.Op.move (Go.Operand.tmp 11), type := 41, pos := "law.go:87", after := #[{ on := 14, ground := Go.Ground.guard }], guard := Option.some (14, Bool.true) }) (v := undef) rfl (by kernel_rfl) (by kernel_rfl) (by kernel_rfl) (fun _ _ _ h => h) (Or.inr ⟨by rfl, rfl⟩) (by assumption) ?_
                (try simp only [Act.put, List.setIfInBounds_toArray, List.set_cons_zero, List.set_cons_succ])
                refine wpAnyH_take (i := 16) (oi := { dst := Option.some 139, op := Go.Op.nilCheck (Go.Operand.tmp 138), type := 0, pos := "law.go:87", after := #[{ on := 15, ground := Go.Ground.data }, { on := 14, ground := Go.Ground.guard }], guard := Option.some (14, Bool.true) }) (v := undef) rfl (by kernel_rfl) (by kernel_rfl) (by kernel_rfl) (fun _ _ _ h => h) (Or.inr ⟨by rfl, rfl⟩) (by assumption) ?_
                (try simp only [Act.put, List.setIfInBounds_toArray, List.set_cons_zero, List.set_cons_succ])
                refine wpAnyH_take (i := 17) (oi := { dst := Option.some 140, op := Go.Op.fieldAddr 45 (Go.Operand.tmp 139) 0, type := 0, pos := "law.go:87", after := #[{ on := 16, ground := Go.Ground.data }, { on := 14, ground := Go.Ground.guard }], guard := Option.some (14, Bool.true) }) (v := undef) rfl (by kernel_rfl) (by kernel_rfl) (by kernel_rfl) (fun _ _ _ h => h) (Or.inr ⟨by rfl, rfl⟩) (by assumption) ?_
                (try simp only [Act.put, List.setIfInBounds_toArray, List.set_cons_zero, List.set_cons_succ])
                refine wpAnyH_take (i := 18) (oi := { dst := Option.some 141, op := Go.Op.load 42 (Go.Operand.tmp 140), type := 42, pos := "law.go:87", after := #[{ on := 17, ground := Go.Ground.data }, { on := 14, ground := Go.Ground.guard }], guard := Option.some (14, Bool.true) }) (v := undef) rfl (by kernel_rfl) (by kernel_rfl) (by kernel_rfl) (fun _ _ _ h => h) (Or.inr ⟨by rfl, rfl⟩) (by assumption) ?_
                (try simp only [Act.put, List.setIfInBounds_toArray, List.set_cons_zero, List.set_cons_succ])
                refine wpAnyH_take (i := 19) (oi := { dst := Option.some 142, op := Go.Op.call { callee := Go.Callee.value (Go.Operand.func 17), args := #[Go.Operand.tmp 141], argTypes := #[42] }, type := 36, pos := "law.go:87", after := #[{ on := 18, ground := Go.Ground.data }, { on := 14, ground := Go.Ground.chain }, { on := 14, ground := Go.Ground.guard }], guard := Option.some (14, Bool.true) }) (v := undef) rfl (by kernel_rfl) (by kernel_rfl) (by kernel_rfl) (fun _ _ _ h => h) (Or.inr ⟨by rfl, rfl⟩) (by assumption) ?_
                (try simp only [Act.put, List.setIfInBounds_toArray, List.set_cons_zero, List.set_cons_succ])
                refine wpAnyH_take (i := 20) (oi := { dst := Option.some 143, op := Go.Op.move (Go.Operand.tmp 11), type := 41, pos := "law.go:87", after := #[{ on := 14, ground := Go.Ground.guard }], guard := Option.some (14, Bool.true) }) (v := undef) rfl (by kernel_rfl) (by kernel_rfl) (by kernel_rfl) (fun _ _ _ h => h) (Or.inr ⟨by rfl, rfl⟩) (by assumption) ?_
                (try simp only [Act.put, List.setIfInBounds_toArray, List.set_cons_zero, List.set_cons_succ])
                refine wpAnyH_take (i := 21) (oi := { dst := Option.some 144, op := Go.Op.nilCheck (Go.Operand.tmp 143), type := 0, pos := "law.go:87", after := #[{ on := 20, ground := Go.Ground.data }, { on := 14, ground := Go.Ground.guard }], guard := Option.some (14, Bool.true) }) (v := undef) rfl (by kernel_rfl) (by kernel_rfl) (by kernel_rfl) (fun _ _ _ h => h) (Or.inr ⟨by rfl, rfl⟩) (by assumption) ?_
                (try simp only [Act.put, List.setIfInBounds_toArray, List.set_cons_zero, List.set_cons_succ])
                refine wpAnyH_take (i := 22) (oi := { dst := Option.some 145, op := Go.Op.fieldAddr 45 (Go.Operand.tmp 144) 1, type := 0, pos := "law.go:87", after := #[{ on := 21, ground := Go.Ground.data }, { on := 14, ground := Go.Ground.guard }], guard := Option.some (14, Bool.true) }) (v := undef) rfl (by kernel_rfl) (by kernel_rfl) (by kernel_rfl) (fun _ _ _ h => h) (Or.inr ⟨by rfl, rfl⟩) (by assumption) ?_
                (try simp only [Act.put, List.setIfInBounds_toArray, List.set_cons_zero, List.set_cons_succ])
                refine wpAnyH_take (i := 23) (oi := { dst := Option.some 146, op := Go.Op.load 43 (Go.Operand.tmp 145), type := 43, pos := "law.go:87", after := #[{ on := 22, ground := Go.Ground.data }, { on := 14, ground := Go.Ground.guard }], guard := Option.some (14, Bool.true) }) (v := undef) rfl (by kernel_rfl) (by kernel_rfl) (by kernel_rfl) (fun _ _ _ h => h) (Or.inr ⟨by rfl, rfl⟩) (by assumption) ?_
                (try simp only [Act.put, List.setIfInBounds_toArray, List.set_cons_zero, List.set_cons_succ])
                refine wpAnyH_take (i := 24) (oi := { dst := Option.some 147, op := Go.Op.nilCheck (Go.Operand.tmp 146), type := 0, pos := "law.go:87", after := #[{ on := 23, ground := Go.Ground.data }, { on := 14, ground := Go.Ground.guard }], guard := Option.some (14, Bool.true) }) (v := undef) rfl (by kernel_rfl) (by kernel_rfl) (by kernel_rfl) (fun _ _ _ h => h) (Or.inr ⟨by rfl, rfl⟩) (by assumption) ?_
                (try simp only [Act.put, List.setIfInBounds_toArray, List.set_cons_zero, List.set_cons_succ])
                refine wpAnyH_take (i := 25) (oi := { dst := Option.some 148, op := Go.Op.fieldAddr 56 (Go.Operand.tmp 147) 2, type := 0, pos := "law.go:87", after := #[{ on := 24, ground := Go.Ground.data }, { on := 14, ground := Go.Ground.guard }], guard := Option.some (14, Bool.true) }) (v := undef) rfl (by kernel_rfl) (by kernel_rfl) (by kernel_rfl) (fun _ _ _ h => h) (Or.inr ⟨by rfl, rfl⟩) (by assumption) ?_
                (try simp only [Act.put, List.setIfInBounds_toArray, List.set_cons_zero, List.set_cons_succ])
                refine wpAnyH_take (i := 26) (oi := { dst := Option.some 149, op := Go.Op.load 36 (Go.Operand.tmp 148), type := 36, pos := "law.go:87", after := #[{ on := 25, ground := Go.Ground.data }, { on := 14, ground := Go.Ground.guard }], guard := Option.some (14, Bool.true) }) (v := undef) rfl (by kernel_rfl) (by kernel_rfl) (by kernel_rfl) (fun _ _ _ h => h) (Or.inr ⟨by rfl, rfl⟩) (by assumption) ?_
                (try simp only [Act.put, List.setIfInBounds_toArray, List.set_cons_zero, List.set_cons_succ])
                refine wpAnyH_take (i := 27) (oi := { dst := Option.some 150, op := Go.Op.binOp Go.BinOp.neq 36 (Go.Operand.tmp 142) (Go.Operand.tmp 149) 36, type := 4, pos := "law.go:87", after := #[{ on := 19, ground := Go.Ground.data }, { on := 26, ground := Go.Ground.data }, { on := 14, ground := Go.Ground.guard }], guard := Option.some (14, Bool.true) }) (v := undef) rfl (by kernel_rfl) (by kernel_rfl) (by kernel_rfl) (fun _ _ _ h => h) (Or.inr ⟨by rfl, rfl⟩) (by assumption) ?_
                (try simp only [Act.put, List.setIfInBounds_toArray, List.set_cons_zero, List.set_cons_succ])
                refine wpAnyH_take (i := 28) (oi := { dst := Option.some 151, op := Go.Op.pick (Go.Operand.tmp 137) (Go.Operand.tmp 150) (Go.Operand.const (Go.Value.bool Bool.false)), type := 4, pos := "law.go:87", after := #[{ on := 14, ground := Go.Ground.data }, { on := 27, ground := Go.Ground.data }, { on := 8, ground := Go.Ground.guard }], guard := Option.some (8, Bool.false) }) (v := ?_) rfl (by kernel_rfl) (by kernel_rfl) (by kernel_rfl) (fun _ _ _ h => h) (Or.inl ⟨by rfl, ?_⟩) (by assumption) ?_
                rotate_left
                · intro w hSw
                  (try dsimp only at hSw)
                  go_simp
                  (try with_reducible rfl)
                (try simp only [Act.put, List.setIfInBounds_toArray, List.set_cons_zero, List.set_cons_succ])
                refine wpAnyH_take (i := 29) (oi := { dst := Option.some 152, op := Go.Op.pick (Go.Operand.tmp 131) (Go.Operand.const (Go.Value.bool Bool.true)) (Go.Operand.tmp 151), type := 4, pos := "law.go:87", after := #[{ on := 8, ground := Go.Ground.data }, { on := 28, ground := Go.Ground.data }], guard := Option.none }) (v := ?_) rfl (by kernel_rfl) (by kernel_rfl) (by kernel_rfl) (fun _ _ _ h => h) (Or.inl ⟨by rfl, ?_⟩) (by assumption) ?_
                rotate_left
                · intro w hSw
                  (try dsimp only at hSw)
                  go_simp
                  (try with_reducible rfl)
                (try simp only [Act.put, List.setIfInBounds_toArray, List.set_cons_zero, List.set_cons_succ])
                refine wpAnyH_done (by kernel_rfl) ?_ _
                go_wp2
                go_roundw
                case rel => exact ⟨i + 1, F4, G4, T, none, by go_num, by omega, E4.out _ C5.out⟩
                case measure => simp [hNat]; omega
            have t9 : (m.h.kind == 9) = false := by simpa using h9
            clear h9
            by_cases h10 : m.h.kind = 10
            · have t10 : (m.h.kind == 10) = true := by simpa using h10
              have zA := fun u t h => opens_any u b c P F G S o m.h.at_ t h
              unfold PrPost at zA
              clear h10
              go_wp2_with (first
                | ((with_reducible refine atWorld wr ?_); refine wpList_allocRow (w := wr) daTy rfl rfl ?_; (intro w1 b1 B1 s1; have b1 := Lib.hid b1))
                | ((with_reducible refine atWorld w1 ?_); refine wpList_storeRow (w := w1) daTy rfl (.tmp 13) (.tmp 66) rfl wr.heap.size (daCells m) daZ rfl rfl rfl rfl (da_one m) b1.out ?_; (intro w2 b2 B2 s2 k2; have B12 : Below wr.heap.size wr w2 := B1.trans B2; obtain ⟨e0, e1, e2, e4, e6⟩ := da_cells b2; have M2 := Lib.hid (G2.out w2 B12 b2); have b2 := Lib.hid b2; have PT2 := Lib.hid (HI.out.1.pt.step B12); have t2 := HT.out.below (HI.out.1.below.trans (B12.mono HI.out.1.below.size)) (Nat.le_refl _); clear b1 B1 s1 B2 s2 k2))
                | (go_at_call 10; refine (zA w2 t2 PT2.out).mono ?_; (rintro e w4 ⟨T, F4, G4, o4, rfl, t4, ho4, o1, o2, o3, f4⟩; have hO4 : T.ops ≤ 1000000 := Nat.le_trans ho4 (Nat.le_trans (Nat.add_le_add_right hO 4) (by decide)); have E4 := Lib.hid (HI.out.1.next B12 t4 ho4 o1 o2 o3 f4); have T4 := Lib.hid t4; clear t4 o1 o2 o3 f4)))
              have D4 := (Below.refl w4.heap.size w4).drew
              have A4 := Lib.hid (haAlike_any disks w4.drew b c F4 G4 T (T4.out.two.step disks D4) hO4)
              cases o4 with
              | some q4 =>
                have K4 := Lib.hid (prRead T4.out)
                have J0 := (K4.out w4.drew D4).1
                have J4 := (K4.out w4 (Below.refl _ _)).1
                go_region_held3 (fun w' => w'.cell? ⟨P, 0, none⟩ = some (.pointer (some ⟨q4.g, 0, none⟩)) ∧ w'.cell? ⟨P, 1, none⟩ = some (.pointer (some ⟨q4.h, 0, none⟩)) ∧ w'.cell? ⟨q4.h, 2, none⟩ = some (.int .u64 (q4.s : Int))) (first | assumption | exact J0 | exact J4) (first
                  | (go_at_call 16; refine A4.out.mono ?_; (rintro e w5 ⟨rfl, B5⟩; have C5 := step_trans D4 B5; obtain ⟨J5, m5⟩ := K4.out w5 C5; have C5 := Lib.hid C5; clear B5))
                  | (go_at_call 17; refine (mpBits_any m5).mono ?_; (rintro e w' ⟨rfl, rfl⟩)))
                go_wp2
                go_roundw
                case rel => exact ⟨i + 1, F4, G4, T, some q4, by go_num, by omega, E4.out _ C5.out⟩
                case measure => simp [hNat]; omega
              | none =>
                have K4 := Lib.hid (prReadNo T4.out)
                have J0 := K4.out w4.drew D4
                refine wp_region_held_drew (S := fun w' => w'.cell? ⟨P, 0, none⟩ = some (.pointer none) ∧ w'.cell? ⟨P, 1, none⟩ = some (.pointer none)) (by kernel_rfl) J0 (fun hHeld => ?_)
                refine wpAnyH_take (i := 0) (oi := { dst := Option.some 123, op := Go.Op.move (Go.Operand.tmp 14), type := 4, pos := "law.go:87", after := #[], guard := Option.none }) (v := ?_) rfl (by kernel_rfl) (by kernel_rfl) (by kernel_rfl) (fun _ _ _ h => h) (Or.inl ⟨by rfl, ?_⟩) (by assumption) ?_
                rotate_left
                · intro w hSw
                  (try dsimp only at hSw)
                  go_simp
                  (try with_reducible rfl)
                (try simp only [Act.put, List.setIfInBounds_toArray, List.set_cons_zero, List.set_cons_succ])
                refine wpAnyH_take (i := 1) (oi := { dst := Option.some 124, op := Go.Op.unOp Go.UnOp.not 4 (Go.Operand.tmp 123), type := 4, pos := "law.go:87", after := #[{ on := 0, ground := Go.Ground.data }], guard := Option.none }) (v := ?_) rfl (by kernel_rfl) (by kernel_rfl) (by kernel_rfl) (fun _ _ _ h => h) (Or.inl ⟨by rfl, ?_⟩) (by assumption) ?_
                rotate_left
                · intro w hSw
                  (try dsimp only at hSw)
                  go_simp
                  (try with_reducible rfl)
                (try simp only [Act.put, List.setIfInBounds_toArray, List.set_cons_zero, List.set_cons_succ])
                refine wpAnyH_take (i := 2) (oi := { dst := Option.some 125, op := Go.Op.move (Go.Operand.tmp 124), type := 4, pos := "law.go:87", after := #[{ on := 1, ground := Go.Ground.data }], guard := Option.none }) (v := ?_) rfl (by kernel_rfl) (by kernel_rfl) (by kernel_rfl) (fun _ _ _ h => h) (Or.inl ⟨by rfl, ?_⟩) (by assumption) ?_
                rotate_left
                · intro w hSw
                  (try dsimp only at hSw)
                  go_simp
                  (try with_reducible rfl)
                (try simp only [Act.put, List.setIfInBounds_toArray, List.set_cons_zero, List.set_cons_succ])
                refine wpAnyH_take (i := 3) (oi := { dst := Option.some 126, op := Go.Op.move (Go.Operand.tmp 5), type := 24, pos := "law.go:87", after := #[{ on := 2, ground := Go.Ground.guard }], guard := Option.some (2, Bool.false) }) (v := ?_) rfl (by kernel_rfl) (by kernel_rfl) (by kernel_rfl) (fun _ _ _ h => h) (Or.inl ⟨by rfl, ?_⟩) (by assumption) ?_
                rotate_left
                · intro w hSw
                  (try dsimp only at hSw)
                  go_simp
                  (try with_reducible rfl)
                (try simp only [Act.put, List.setIfInBounds_toArray, List.set_cons_zero, List.set_cons_succ])
                refine wpAnyH_take (i := 4) (oi := { dst := Option.some 127, op := Go.Op.move (Go.Operand.tmp 7), type := 28, pos := "law.go:87", after := #[{ on := 2, ground := Go.Ground.guard }], guard := Option.some (2, Bool.false) }) (v := ?_) rfl (by kernel_rfl) (by kernel_rfl) (by kernel_rfl) (fun _ _ _ h => h) (Or.inl ⟨by rfl, ?_⟩) (by assumption) ?_
                rotate_left
                · intro w hSw
                  (try dsimp only at hSw)
                  go_simp
                  (try with_reducible rfl)
                (try simp only [Act.put, List.setIfInBounds_toArray, List.set_cons_zero, List.set_cons_succ])
                refine wpAnyH_ready (rs := [5]) (by kernel_rfl) (by simp) ?_
                refine AllReadyH.cons (o := { dst := Option.some 128, op := Go.Op.call { callee := Go.Callee.value (Go.Operand.func 16), args := #[Go.Operand.tmp 126, Go.Operand.tmp 127], argTypes := #[24, 28] }, type := 4, pos := "law.go:87", after := #[{ on := 3, ground := Go.Ground.data }, { on := 4, ground := Go.Ground.data }, { on := 2, ground := Go.Ground.chain }, { on := 2, ground := Go.Ground.guard }], guard := Option.some (2, Bool.false) }) rfl (fun K hK => ?_) AllReadyH.nil
                go_simp
                refine A4.out.mono ?_
                rintro e w5 ⟨rfl, B5⟩
                have C5 := step_trans D4 B5
                have J5 := K4.out w5 C5
                have C5 := Lib.hid C5
                clear B5
                go_wp2_with fail
                refine hK.out _ _ J5 (fun hHeld2 => ?_)
                clear hK K
                (try simp only [Act.put, List.setIfInBounds_toArray, List.set_cons_zero, List.set_cons_succ])
                refine wpAnyH_take (i := 6) (oi := { dst := Option.some 129, op := Go.Op.unOp Go.UnOp.not 4 (Go.Operand.tmp 128), type := 4, pos := "law.go:87", after := #[{ on := 5, ground := Go.Ground.data }, { on := 2, ground := Go.Ground.guard }], guard := Option.some (2, Bool.false) }) (v := ?_) rfl (by kernel_rfl) (by kernel_rfl) (by kernel_rfl) (fun _ _ _ h => h) (Or.inl ⟨by rfl, ?_⟩) (by assumption) ?_
                rotate_left
                · intro w hSw
                  (try dsimp only at hSw)
                  go_simp
                  (try with_reducible rfl)
                (try simp only [Act.put, List.setIfInBounds_toArray, List.set_cons_zero, List.set_cons_succ])
                refine wpAnyH_take (i := 7) (oi := { dst := Option.some 130, op := Go.Op.pick (Go.Operand.tmp 125) (Go.Operand.const (Go.Value.bool Bool.true)) (Go.Operand.tmp 129), type := 4, pos := "law.go:87", after := #[{ on := 2, ground := Go.Ground.data }, { on := 6, ground := Go.Ground.data }], guard := Option.none }) (v := ?_) rfl (by kernel_rfl) (by kernel_rfl) (by kernel_rfl) (fun _ _ _ h => h) (Or.inl ⟨by rfl, ?_⟩) (by assumption) ?_
                rotate_left
                · intro w hSw
                  (try dsimp only at hSw)
                  go_simp
                  (try with_reducible rfl)
                (try simp only [Act.put, List.setIfInBounds_toArray, List.set_cons_zero, List.set_cons_succ])
                refine wpAnyH_take (i := 8) (oi := { dst := Option.some 131, op := Go.Op.move (Go.Operand.tmp 130), type := 4, pos := "law.go:87", after := #[{ on := 7, ground := Go.Ground.data }, { on := 5, ground := Go.Ground.chain }], guard := Option.none }) (v := ?_) rfl (by kernel_rfl) (by kernel_rfl) (by kernel_rfl) (fun _ _ _ h => h) (Or.inl ⟨by rfl, ?_⟩) (by assumption) ?_
                rotate_left
                · intro w hSw
                  (try dsimp only at hSw)
                  go_simp
                  (try with_reducible rfl)
                (try simp only [Act.put, List.setIfInBounds_toArray, List.set_cons_zero, List.set_cons_succ])
                refine wpAnyH_take (i := 9) (oi := { dst := Option.some 132, op := Go.Op.move (Go.Operand.tmp 11), type := 41, pos := "law.go:87", after := #[{ on := 8, ground := Go.Ground.guard }], guard := Option.some (8, Bool.false) }) (v := ?_) rfl (by kernel_rfl) (by kernel_rfl) (by kernel_rfl) (fun _ _ _ h => h) (Or.inl ⟨by rfl, ?_⟩) (by assumption) ?_
                rotate_left
                · intro w hSw
                  (try dsimp only at hSw)
                  go_simp
                  (try with_reducible rfl)
                (try simp only [Act.put, List.setIfInBounds_toArray, List.set_cons_zero, List.set_cons_succ])
                refine wpAnyH_take (i := 10) (oi := { dst := Option.some 133, op := Go.Op.nilCheck (Go.Operand.tmp 132), type := 0, pos := "law.go:87", after := #[{ on := 9, ground := Go.Ground.data }, { on := 8, ground := Go.Ground.guard }], guard := Option.some (8, Bool.false) }) (v := ?_) rfl (by kernel_rfl) (by kernel_rfl) (by kernel_rfl) (fun _ _ _ h => h) (Or.inl ⟨by rfl, ?_⟩) (by assumption) ?_
                rotate_left
                · intro w hSw
                  (try dsimp only at hSw)
                  go_simp
                  (try with_reducible rfl)
                (try simp only [Act.put, List.setIfInBounds_toArray, List.set_cons_zero, List.set_cons_succ])
                refine wpAnyH_take (i := 11) (oi := { dst := Option.some 134, op := Go.Op.fieldAddr 45 (Go.Operand.tmp 133) 1, type := 0, pos := "law.go:87", after := #[{ on := 10, ground := Go.Ground.data }, { on := 8, ground := Go.Ground.guard }], guard := Option.some (8, Bool.false) }) (v := ?_) rfl (by kernel_rfl) (by kernel_rfl) (by kernel_rfl) (fun _ _ _ h => h) (Or.inl ⟨by rfl, ?_⟩) (by assumption) ?_
                rotate_left
                · intro w hSw
                  (try dsimp only at hSw)
                  go_simp
                  (try with_reducible rfl)
                (try simp only [Act.put, List.setIfInBounds_toArray, List.set_cons_zero, List.set_cons_succ])
                refine wpAnyH_take (i := 12) (oi := { dst := Option.some 135, op := Go.Op.load 43 (Go.Operand.tmp 134), type := 43, pos := "law.go:87", after := #[{ on := 11, ground := Go.Ground.data }, { on := 8, ground := Go.Ground.guard }], guard := Option.some (8, Bool.false) }) (v := ?_) rfl (by kernel_rfl) (by kernel_rfl) (by kernel_rfl) (fun _ _ _ h => h) (Or.inl ⟨by rfl, ?_⟩) (by assumption) ?_
                rotate_left
                · intro w hSw
                  (try dsimp only at hSw)
                  go_simp
                  (try with_reducible rfl)
                (try simp only [Act.put, List.setIfInBounds_toArray, List.set_cons_zero, List.set_cons_succ])
                refine wpAnyH_take (i := 13) (oi := { dst := Option.some 136, op := Go.Op.binOp Go.BinOp.neq 43 (Go.Operand.tmp 135) (Go.Operand.const (Go.Value.pointer Option.none)) 43, type := 4, pos := "law.go:87", after := #[{ on := 12, ground := Go.Ground.data }, { on := 8, ground := Go.Ground.guard }], guard := Option.some (8, Bool.false) }) (v := ?_) rfl (by kernel_rfl) (by kernel_rfl) (by kernel_rfl) (fun _ _ _ h => h) (Or.inl ⟨by rfl, ?_⟩) (by assumption) ?_
                rotate_left
                · intro w hSw
                  (try dsimp only at hSw)
                  go_simp
                  (try with_reducible rfl)
                (try simp only [Act.put, List.setIfInBounds_toArray, List.set_cons_zero, List.set_cons_succ])
                refine wpAnyH_take (i := 14) (oi := { dst := Option.some 137, op := Go.Op.move (Go.Operand.tmp 136), type := 4, pos := "law.go:87", after := #[{ on := 13, ground := Go.Ground.data }, { on := 8, ground := Go.Ground.chain }, { on := 8, ground := Go.Ground.guard }], guard := Option.some (8, Bool.false) }) (v := ?_) rfl (by kernel_rfl) (by kernel_rfl) (by kernel_rfl) (fun _ _ _ h => h) (Or.inl ⟨by rfl, ?_⟩) (by assumption) ?_
                rotate_left
                · intro w hSw
                  (try dsimp only at hSw)
                  go_simp
                  (try with_reducible rfl)
                (try simp only [Act.put, List.setIfInBounds_toArray, List.set_cons_zero, List.set_cons_succ])
                refine wpAnyH_take (i := 15) (oi := { dst := Option.some 138, op := Go.Op.move (Go.Operand.tmp 11), type := 41, pos := "law.go:87", after := #[{ on := 14, ground := Go.Ground.guard }], guard := Option.some (14, Bool.true) }) (v := undef) rfl (by kernel_rfl) (by kernel_rfl) (by kernel_rfl) (fun _ _ _ h => h) (Or.inr ⟨by rfl, rfl⟩) (by assumption) ?_
                (try simp only [Act.put, List.setIfInBounds_toArray, List.set_cons_zero, List.set_cons_succ])
                refine wpAnyH_take (i := 16) (oi := { dst := Option.some 139, op := Go.Op.nilCheck (Go.Operand.tmp 138), type := 0, pos := "law.go:87", after := #[{ on := 15, ground := Go.Ground.data }, { on := 14, ground := Go.Ground.guard }], guard := Option.some (14, Bool.true) }) (v := undef) rfl (by kernel_rfl) (by kernel_rfl) (by kernel_rfl) (fun _ _ _ h => h) (Or.inr ⟨by rfl, rfl⟩) (by assumption) ?_
                (try simp only [Act.put, List.setIfInBounds_toArray, List.set_cons_zero, List.set_cons_succ])
                refine wpAnyH_take (i := 17) (oi := { dst := Option.some 140, op := Go.Op.fieldAddr 45 (Go.Operand.tmp 139) 0, type := 0, pos := "law.go:87", after := #[{ on := 16, ground := Go.Ground.data }, { on := 14, ground := Go.Ground.guard }], guard := Option.some (14, Bool.true) }) (v := undef) rfl (by kernel_rfl) (by kernel_rfl) (by kernel_rfl) (fun _ _ _ h => h) (Or.inr ⟨by rfl, rfl⟩) (by assumption) ?_
                (try simp only [Act.put, List.setIfInBounds_toArray, List.set_cons_zero, List.set_cons_succ])
                refine wpAnyH_take (i := 18) (oi := { dst := Option.some 141, op := Go.Op.load 42 (Go.Operand.tmp 140), type := 42, pos := "law.go:87", after := #[{ on := 17, ground := Go.Ground.data }, { on := 14, ground := Go.Ground.guard }], guard := Option.some (14, Bool.true) }) (v := undef) rfl (by kernel_rfl) (by kernel_rfl) (by kernel_rfl) (fun _ _ _ h => h) (Or.inr ⟨by rfl, rfl⟩) (by assumption) ?_
                (try simp only [Act.put, List.setIfInBounds_toArray, List.set_cons_zero, List.set_cons_succ])
                refine wpAnyH_take (i := 19) (oi := { dst := Option.some 142, op := Go.Op.call { callee := Go.Callee.value (Go.Operand.func 17), args := #[Go.Operand.tmp 141], argTypes := #[42] }, type := 36, pos := "law.go:87", after := #[{ on := 18, ground := Go.Ground.data }, { on := 14, ground := Go.Ground.chain }, { on := 14, ground := Go.Ground.guard }], guard := Option.some (14, Bool.true) }) (v := undef) rfl (by kernel_rfl) (by kernel_rfl) (by kernel_rfl) (fun _ _ _ h => h) (Or.inr ⟨by rfl, rfl⟩) (by assumption) ?_
                (try simp only [Act.put, List.setIfInBounds_toArray, List.set_cons_zero, List.set_cons_succ])
                refine wpAnyH_take (i := 20) (oi := { dst := Option.some 143, op := Go.Op.move (Go.Operand.tmp 11), type := 41, pos := "law.go:87", after := #[{ on := 14, ground := Go.Ground.guard }], guard := Option.some (14, Bool.true) }) (v := undef) rfl (by kernel_rfl) (by kernel_rfl) (by kernel_rfl) (fun _ _ _ h => h) (Or.inr ⟨by rfl, rfl⟩) (by assumption) ?_
                (try simp only [Act.put, List.setIfInBounds_toArray, List.set_cons_zero, List.set_cons_succ])
                refine wpAnyH_take (i := 21) (oi := { dst := Option.some 144, op := Go.Op.nilCheck (Go.Operand.tmp 143), type := 0, pos := "law.go:87", after := #[{ on := 20, ground := Go.Ground.data }, { on := 14, ground := Go.Ground.guard }], guard := Option.some (14, Bool.true) }) (v := undef) rfl (by kernel_rfl) (by kernel_rfl) (by kernel_rfl) (fun _ _ _ h => h) (Or.inr ⟨by rfl, rfl⟩) (by assumption) ?_
                (try simp only [Act.put, List.setIfInBounds_toArray, List.set_cons_zero, List.set_cons_succ])
                refine wpAnyH_take (i := 22) (oi := { dst := Option.some 145, op := Go.Op.fieldAddr 45 (Go.Operand.tmp 144) 1, type := 0, pos := "law.go:87", after := #[{ on := 21, ground := Go.Ground.data }, { on := 14, ground := Go.Ground.guard }], guard := Option.some (14, Bool.true) }) (v := undef) rfl (by kernel_rfl) (by kernel_rfl) (by kernel_rfl) (fun _ _ _ h => h) (Or.inr ⟨by rfl, rfl⟩) (by assumption) ?_
                (try simp only [Act.put, List.setIfInBounds_toArray, List.set_cons_zero, List.set_cons_succ])
                refine wpAnyH_take (i := 23) (oi := { dst := Option.some 146, op := Go.Op.load 43 (Go.Operand.tmp 145), type := 43, pos := "law.go:87", after := #[{ on := 22, ground := Go.Ground.data }, { on := 14, ground := Go.Ground.guard }], guard := Option.some (14, Bool.true) }) (v := undef) rfl (by kernel_rfl) (by kernel_rfl) (by kernel_rfl) (fun _ _ _ h => h) (Or.inr ⟨by rfl, rfl⟩) (by assumption) ?_
                (try simp only [Act.put, List.setIfInBounds_toArray, List.set_cons_zero, List.set_cons_succ])
                refine wpAnyH_take (i := 24) (oi := { dst := Option.some 147, op := Go.Op.nilCheck (Go.Operand.tmp 146), type := 0, pos := "law.go:87", after := #[{ on := 23, ground := Go.Ground.data }, { on := 14, ground := Go.Ground.guard }], guard := Option.some (14, Bool.true) }) (v := undef) rfl (by kernel_rfl) (by kernel_rfl) (by kernel_rfl) (fun _ _ _ h => h) (Or.inr ⟨by rfl, rfl⟩) (by assumption) ?_
                (try simp only [Act.put, List.setIfInBounds_toArray, List.set_cons_zero, List.set_cons_succ])
                refine wpAnyH_take (i := 25) (oi := { dst := Option.some 148, op := Go.Op.fieldAddr 56 (Go.Operand.tmp 147) 2, type := 0, pos := "law.go:87", after := #[{ on := 24, ground := Go.Ground.data }, { on := 14, ground := Go.Ground.guard }], guard := Option.some (14, Bool.true) }) (v := undef) rfl (by kernel_rfl) (by kernel_rfl) (by kernel_rfl) (fun _ _ _ h => h) (Or.inr ⟨by rfl, rfl⟩) (by assumption) ?_
                (try simp only [Act.put, List.setIfInBounds_toArray, List.set_cons_zero, List.set_cons_succ])
                refine wpAnyH_take (i := 26) (oi := { dst := Option.some 149, op := Go.Op.load 36 (Go.Operand.tmp 148), type := 36, pos := "law.go:87", after := #[{ on := 25, ground := Go.Ground.data }, { on := 14, ground := Go.Ground.guard }], guard := Option.some (14, Bool.true) }) (v := undef) rfl (by kernel_rfl) (by kernel_rfl) (by kernel_rfl) (fun _ _ _ h => h) (Or.inr ⟨by rfl, rfl⟩) (by assumption) ?_
                (try simp only [Act.put, List.setIfInBounds_toArray, List.set_cons_zero, List.set_cons_succ])
                refine wpAnyH_take (i := 27) (oi := { dst := Option.some 150, op := Go.Op.binOp Go.BinOp.neq 36 (Go.Operand.tmp 142) (Go.Operand.tmp 149) 36, type := 4, pos := "law.go:87", after := #[{ on := 19, ground := Go.Ground.data }, { on := 26, ground := Go.Ground.data }, { on := 14, ground := Go.Ground.guard }], guard := Option.some (14, Bool.true) }) (v := undef) rfl (by kernel_rfl) (by kernel_rfl) (by kernel_rfl) (fun _ _ _ h => h) (Or.inr ⟨by rfl, rfl⟩) (by assumption) ?_
                (try simp only [Act.put, List.setIfInBounds_toArray, List.set_cons_zero, List.set_cons_succ])
                refine wpAnyH_take (i := 28) (oi := { dst := Option.some 151, op := Go.Op.pick (Go.Operand.tmp 137) (Go.Operand.tmp 150) (Go.Operand.const (Go.Value.bool Bool.false)), type := 4, pos := "law.go:87", after := #[{ on := 14, ground := Go.Ground.data }, { on := 27, ground := Go.Ground.data }, { on := 8, ground := Go.Ground.guard }], guard := Option.some (8, Bool.false) }) (v := ?_) rfl (by kernel_rfl) (by kernel_rfl) (by kernel_rfl) (fun _ _ _ h => h) (Or.inl ⟨by rfl, ?_⟩) (by assumption) ?_
                rotate_left
                · intro w hSw
                  (try dsimp only at hSw)
                  go_simp
                  (try with_reducible rfl)
                (try simp only [Act.put, List.setIfInBounds_toArray, List.set_cons_zero, List.set_cons_succ])
                refine wpAnyH_take (i := 29) (oi := { dst := Option.some 152, op := Go.Op.pick (Go.Operand.tmp 131) (Go.Operand.const (Go.Value.bool Bool.true)) (Go.Operand.tmp 151), type := 4, pos := "law.go:87", after := #[{ on := 8, ground := Go.Ground.data }, { on := 28, ground := Go.Ground.data }], guard := Option.none }) (v := ?_) rfl (by kernel_rfl) (by kernel_rfl) (by kernel_rfl) (fun _ _ _ h => h) (Or.inl ⟨by rfl, ?_⟩) (by assumption) ?_
                rotate_left
                · intro w hSw
                  (try dsimp only at hSw)
                  go_simp
                  (try with_reducible rfl)
                (try simp only [Act.put, List.setIfInBounds_toArray, List.set_cons_zero, List.set_cons_succ])
                refine wpAnyH_done (by kernel_rfl) ?_ _
                go_wp2
                go_roundw
                case rel => exact ⟨i + 1, F4, G4, T, none, by go_num, by omega, E4.out _ C5.out⟩
                case measure => simp [hNat]; omega
            have t10 : (m.h.kind == 10) = false := by simpa using h10
            clear h10
            by_cases h11 : m.h.kind = 11
            · have t11 : (m.h.kind == 11) = true := by simpa using h11
              clear h11
              go_wp2_with (first
                | ((with_reducible refine atWorld wr ?_); refine wpList_allocRow (w := wr) daTy rfl rfl ?_; (intro w1 b1 B1 s1; have b1 := Lib.hid b1))
                | ((with_reducible refine atWorld w1 ?_); refine wpList_storeRow (w := w1) daTy rfl (.tmp 13) (.tmp 66) rfl wr.heap.size (daCells m) daZ rfl rfl rfl rfl (da_one m) b1.out ?_; (intro w2 b2 B2 s2 k2; have B12 : Below wr.heap.size wr w2 := B1.trans B2; obtain ⟨e0, e1, e2, e4, e6⟩ := da_cells b2; have M2 := Lib.hid (G2.out w2 B12 b2); have b2 := Lib.hid b2; have PT2 := Lib.hid (HI.out.1.pt.step B12); have t2 := HT.out.below (HI.out.1.below.trans (B12.mono HI.out.1.below.size)) (Nat.le_refl _); clear b1 B1 s1 B2 s2 k2)))
              have M1 := M2.out.step disks ((Below.refl _ w2).drew)
              have C1 : w2.drew.cell? ⟨wr.heap.size, 2, none⟩ = some (.int .i64 m.h.at_) := M1.x.cell rfl
              have t1 := t2.below ((Below.refl _ w2).drew) (Nat.le_refl _)
              have z3 := mpMake_any disks w2.drew b F S m.h.at_ t1 M1.d (by omega)
              have z4 := fun w3 h => mMake_any w3 c G S m.h.at_ h (by omega)
              unfold ChgPost at z3 z4
              have hops := haSave_ops S m.h.at_ (Dy.enc 0)
              obtain ⟨T, hT⟩ : ∃ T, T = (Slot.save S m.h.at_ (Dy.enc 0)).1 := ⟨_, rfl⟩
              obtain ⟨r, hr⟩ : ∃ r, r = (Slot.save S m.h.at_ (Dy.enc 0)).2 := ⟨_, rfl⟩
              rw [← hT] at hops
              rw [← hT, ← hr] at z3 z4
              have HH := Lib.hid hops
              have M1 := Lib.hid M1
              clear hT hr t1 hops M2 e0 e1 e2 e4 e6 b2
              go_region_held3 (fun w' => w'.cell? ⟨wr.heap.size, 2, none⟩ = some (.int .i64 m.h.at_)) (first | assumption) (first
                | (go_at_call 11; refine z3.mono ?_; (rintro e w3 ⟨F3, rfl, d3, o3, f3⟩; have M3 := M1.out.chgD d3 o3 f3; have d3 := M3.m; have C3 : w3.cell? ⟨wr.heap.size, 2, none⟩ = some (.int .i64 m.h.at_) := M3.x.cell rfl; have M3 := Lib.hid M3; clear o3 f3))
                | (go_at_call 12; refine (z4 w3 d3).mono ?_; (rintro e w4 ⟨G4, rfl, m4, o4, f4⟩; have M4 := M3.out.chgM disks m4 o4 f4; have C4 : w4.cell? ⟨wr.heap.size, 2, none⟩ = some (.int .i64 m.h.at_) := M4.x.cell rfl; have M4 := Lib.hid M4; clear m4 o4 f4)))
              have X4 := HI.out.1.next2 B12 ⟨M4.out.d, M4.out.m, M4.out.ap⟩ HH.out M4.out.of_ M4.out.og M4.out.fr
              have hO4 : T.ops ≤ 1000000 := by have := HH.out; omega
              have T4 := Lib.hid X4.1
              have E4 := Lib.hid X4.2
              clear X4 M4 M3 C1 C3 C4
              go_wp2
              have D4 := (Below.refl w4.heap.size w4).drew
              have A4 := Lib.hid (haAlike_any disks w4.drew b c F3 G4 T (T4.out.two.step disks D4) hO4)
              cases o with
              | some q4 =>
                have K4 := Lib.hid (prRead T4.out)
                have J0 := (K4.out w4.drew D4).1
                have J4 := (K4.out w4 (Below.refl _ _)).1
                go_region_held3 (fun w' => w'.cell? ⟨P, 0, none⟩ = some (.pointer (some ⟨q4.g, 0, none⟩)) ∧ w'.cell? ⟨P, 1, none⟩ = some (.pointer (some ⟨q4.h, 0, none⟩)) ∧ w'.cell? ⟨q4.h, 2, none⟩ = some (.int .u64 (q4.s : Int))) (first | assumption | exact J0 | exact J4) (first
                  | (go_at_call 16; refine A4.out.mono ?_; (rintro e w5 ⟨rfl, B5⟩; have C5 := step_trans D4 B5; obtain ⟨J5, m5⟩ := K4.out w5 C5; have C5 := Lib.hid C5; clear B5))
                  | (go_at_call 17; refine (mpBits_any m5).mono ?_; (rintro e w' ⟨rfl, rfl⟩)))
                go_wp2
                go_roundw
                case rel => exact ⟨i + 1, F3, G4, T, some q4, by go_num, by omega, E4.out _ C5.out⟩
                case measure => simp [hNat]; omega
              | none =>
                have K4 := Lib.hid (prReadNo T4.out)
                have J0 := K4.out w4.drew D4
                refine wp_region_held_drew (S := fun w' => w'.cell? ⟨P, 0, none⟩ = some (.pointer none) ∧ w'.cell? ⟨P, 1, none⟩ = some (.pointer none)) (by kernel_rfl) J0 (fun hHeld => ?_)
                refine wpAnyH_take (i := 0) (oi := { dst := Option.some 123, op := Go.Op.move (Go.Operand.tmp 14), type := 4, pos := "law.go:87", after := #[], guard := Option.none }) (v := ?_) rfl (by kernel_rfl) (by kernel_rfl) (by kernel_rfl) (fun _ _ _ h => h) (Or.inl ⟨by rfl, ?_⟩) (by assumption) ?_
                rotate_left
                · intro w hSw
                  (try dsimp only at hSw)
                  go_simp
                  (try with_reducible rfl)
                (try simp only [Act.put, List.setIfInBounds_toArray, List.set_cons_zero, List.set_cons_succ])
                refine wpAnyH_take (i := 1) (oi := { dst := Option.some 124, op := Go.Op.unOp Go.UnOp.not 4 (Go.Operand.tmp 123), type := 4, pos := "law.go:87", after := #[{ on := 0, ground := Go.Ground.data }], guard := Option.none }) (v := ?_) rfl (by kernel_rfl) (by kernel_rfl) (by kernel_rfl) (fun _ _ _ h => h) (Or.inl ⟨by rfl, ?_⟩) (by assumption) ?_
                rotate_left
                · intro w hSw
                  (try dsimp only at hSw)
                  go_simp
                  (try with_reducible rfl)
                (try simp only [Act.put, List.setIfInBounds_toArray, List.set_cons_zero, List.set_cons_succ])
                refine wpAnyH_take (i := 2) (oi := { dst := Option.some 125, op := Go.Op.move (Go.Operand.tmp 124), type := 4, pos := "law.go:87", after := #[{ on := 1, ground := Go.Ground.data }], guard := Option.none }) (v := ?_) rfl (by kernel_rfl) (by kernel_rfl) (by kernel_rfl) (fun _ _ _ h => h) (Or.inl ⟨by rfl, ?_⟩) (by assumption) ?_
                rotate_left
                · intro w hSw
                  (try dsimp only at hSw)
                  go_simp
                  (try with_reducible rfl)
                (try simp only [Act.put, List.setIfInBounds_toArray, List.set_cons_zero, List.set_cons_succ])
                refine wpAnyH_take (i := 3) (oi := { dst := Option.some 126, op := Go.Op.move (Go.Operand.tmp 5), type := 24, pos := "law.go:87", after := #[{ on := 2, ground := Go.Ground.guard }], guard := Option.some (2, Bool.false) }) (v := ?_) rfl (by kernel_rfl) (by kernel_rfl) (by kernel_rfl) (fun _ _ _ h => h) (Or.inl ⟨by rfl, ?_⟩) (by assumption) ?_
                rotate_left
                · intro w hSw
                  (try dsimp only at hSw)
                  go_simp
                  (try with_reducible rfl)
                (try simp only [Act.put, List.setIfInBounds_toArray, List.set_cons_zero, List.set_cons_succ])
                refine wpAnyH_take (i := 4) (oi := { dst := Option.some 127, op := Go.Op.move (Go.Operand.tmp 7), type := 28, pos := "law.go:87", after := #[{ on := 2, ground := Go.Ground.guard }], guard := Option.some (2, Bool.false) }) (v := ?_) rfl (by kernel_rfl) (by kernel_rfl) (by kernel_rfl) (fun _ _ _ h => h) (Or.inl ⟨by rfl, ?_⟩) (by assumption) ?_
                rotate_left
                · intro w hSw
                  (try dsimp only at hSw)
                  go_simp
                  (try with_reducible rfl)
                (try simp only [Act.put, List.setIfInBounds_toArray, List.set_cons_zero, List.set_cons_succ])
                refine wpAnyH_ready (rs := [5]) (by kernel_rfl) (by simp) ?_
                refine AllReadyH.cons (o := { dst := Option.some 128, op := Go.Op.call { callee := Go.Callee.value (Go.Operand.func 16), args := #[Go.Operand.tmp 126, Go.Operand.tmp 127], argTypes := #[24, 28] }, type := 4, pos := "law.go:87", after := #[{ on := 3, ground := Go.Ground.data }, { on := 4, ground := Go.Ground.data }, { on := 2, ground := Go.Ground.chain }, { on := 2, ground := Go.Ground.guard }], guard := Option.some (2, Bool.false) }) rfl (fun K hK => ?_) AllReadyH.nil
                go_simp
                refine A4.out.mono ?_
                rintro e w5 ⟨rfl, B5⟩
                have C5 := step_trans D4 B5
                have J5 := K4.out w5 C5
                have C5 := Lib.hid C5
                clear B5
                go_wp2_with fail
                refine hK.out _ _ J5 (fun hHeld2 => ?_)
                clear hK K
                (try simp only [Act.put, List.setIfInBounds_toArray, List.set_cons_zero, List.set_cons_succ])
                refine wpAnyH_take (i := 6) (oi := { dst := Option.some 129, op := Go.Op.unOp Go.UnOp.not 4 (Go.Operand.tmp 128), type := 4, pos := "law.go:87", after := #[{ on := 5, ground := Go.Ground.data }, { on := 2, ground := Go.Ground.guard }], guard := Option.some (2, Bool.false) }) (v := ?_) rfl (by kernel_rfl) (by kernel_rfl) (by kernel_rfl) (fun _ _ _ h => h) (Or.inl ⟨by rfl, ?_⟩) (by assumption) ?_
                rotate_left
                · intro w hSw
                  (try dsimp only at hSw)
                  go_simp
                  (try with_reducible rfl)
                (try simp only [Act.put, List.setIfInBounds_toArray, List.set_cons_zero, List.set_cons_succ])
                refine wpAnyH_take (i := 7) (oi := { dst := Option.some 130, op := Go.Op.pick (Go.Operand.tmp 125) (Go.Operand.const (Go.Value.bool Bool.true)) (Go.Operand.tmp 129), type := 4, pos := "law.go:87", after := #[{ on := 2, ground := Go.Ground.data }, { on := 6, ground := Go.Ground.data }], guard := Option.none }) (v := ?_) rfl (by kernel_rfl) (by kernel_rfl) (by kernel_rfl) (fun _ _ _ h => h) (Or.inl ⟨by rfl, ?_⟩) (by assumption) ?_
                rotate_left
                · intro w hSw
                  (try dsimp only at hSw)
                  go_simp
                  (try with_reducible rfl)
                (try simp only [Act.put, List.setIfInBounds_toArray, List.set_cons_zero, List.set_cons_succ])
                refine wpAnyH_take (i := 8) (oi := { dst := Option.some 131, op := Go.Op.move (Go.Operand.tmp 130), type := 4, pos := "law.go:87", after := #[{ on := 7, ground := Go.Ground.data }, { on := 5, ground := Go.Ground.chain }], guard := Option.none }) (v := ?_) rfl (by kernel_rfl) (by kernel_rfl) (by kernel_rfl) (fun _ _ _ h => h) (Or.inl ⟨by rfl, ?_⟩) (by assumption) ?_
                rotate_left
                · intro w hSw
                  (try dsimp only at hSw)
                  go_simp
                  (try with_reducible rfl)
                (try simp only [Act.put, List.setIfInBounds_toArray, List.set_cons_zero, List.set_cons_succ])
                refine wpAnyH_take (i := 9) (oi := { dst := Option.some 132, op := Go.Op.move (Go.Operand.tmp 11), type := 41, pos := "law.go:87", after := #[{ on := 8, ground := Go.Ground.guard }], guard := Option.some (8, Bool.false) }) (v := ?_) rfl (by kernel_rfl) (by kernel_rfl) (by kernel_rfl) (fun _ _ _ h => h) (Or.inl ⟨by rfl, ?_⟩) (by assumption) ?_
                rotate_left
                · intro w hSw
                  (try dsimp only at hSw)
                  go_simp
                  (try with_reducible rfl)
                (try simp only [Act.put, List.setIfInBounds_toArray, List.set_cons_zero, List.set_cons_succ])
                refine wpAnyH_take (i := 10) (oi := { dst := Option.some 133, op := Go.Op.nilCheck (Go.Operand.tmp 132), type := 0, pos := "law.go:87", after := #[{ on := 9, ground := Go.Ground.data }, { on := 8, ground := Go.Ground.guard }], guard := Option.some (8, Bool.false) }) (v := ?_) rfl (by kernel_rfl) (by kernel_rfl) (by kernel_rfl) (fun _ _ _ h => h) (Or.inl ⟨by rfl, ?_⟩) (by assumption) ?_
                rotate_left
                · intro w hSw
                  (try dsimp only at hSw)
                  go_simp
                  (try with_reducible rfl)
                (try simp only [Act.put, List.setIfInBounds_toArray, List.set_cons_zero, List.set_cons_succ])
                refine wpAnyH_take (i := 11) (oi := { dst := Option.some 134, op := Go.Op.fieldAddr 45 (Go.Operand.tmp 133) 1, type := 0, pos := "law.go:87", after := #[{ on := 10, ground := Go.Ground.data }, { on := 8, ground := Go.Ground.guard }], guard := Option.some (8, Bool.false) }) (v := ?_) rfl (by kernel_rfl) (by kernel_rfl) (by kernel_rfl) (fun _ _ _ h => h) (Or.inl ⟨by rfl, ?_⟩) (by assumption) ?_
                rotate_left
                · intro w hSw
                  (try dsimp only at hSw)
                  go_simp
                  (try with_reducible rfl)
                (try simp only [Act.put, List.setIfInBounds_toArray, List.set_cons_zero, List.set_cons_succ])
                refine wpAnyH_take (i := 12) (oi := { dst := Option.some 135, op := Go.Op.load 43 (Go.Operand.tmp 134), type := 43, pos := "law.go:87", after := #[{ on := 11, ground := Go.Ground.data }, { on := 8, ground := Go.Ground.guard }], guard := Option.some (8, Bool.false) }) (v := ?_) rfl (by kernel_rfl) (by kernel_rfl) (by kernel_rfl) (fun _ _ _ h => h) (Or.inl ⟨by rfl, ?_⟩) (by assumption) ?_
                rotate_left
                · intro w hSw
                  (try dsimp only at hSw)
                  go_simp
                  (try with_reducible rfl)
                (try simp only [Act.put, List.setIfInBounds_toArray, List.set_cons_zero, List.set_cons_succ])
                refine wpAnyH_take (i := 13) (oi := { dst := Option.some 136, op := Go.Op.binOp Go.BinOp.neq 43 (Go.Operand.tmp 135) (Go.Operand.const (Go.Value.pointer Option.none)) 43, type := 4, pos := "law.go:87", after := #[{ on := 12, ground := Go.Ground.data }, { on := 8, ground := Go.Ground.guard }], guard := Option.some (8, Bool.false) }) (v := ?_) rfl (by kernel_rfl) (by kernel_rfl) (by kernel_rfl) (fun _ _ _ h => h) (Or.inl ⟨by rfl, ?_⟩) (by assumption) ?_
                rotate_left
                · intro w hSw
                  (try dsimp only at hSw)
                  go_simp
                  (try with_reducible rfl)
                (try simp only [Act.put, List.setIfInBounds_toArray, List.set_cons_zero, List.set_cons_succ])
                refine wpAnyH_take (i := 14) (oi := { dst := Option.some 137, op := Go.Op.move (Go.Operand.tmp 136), type := 4, pos := "law.go:87", after := #[{ on := 13, ground := Go.Ground.data }, { on := 8, ground := Go.Ground.chain }, { on := 8, ground := Go.Ground.guard }], guard := Option.some (8, Bool.false) }) (v := ?_) rfl (by kernel_rfl) (by kernel_rfl) (by kernel_rfl) (fun _ _ _ h => h) (Or.inl ⟨by rfl, ?_⟩) (by assumption) ?_
                rotate_left
                · intro w hSw
                  (try dsimp only at hSw)
                  go_simp
                  (try with_reducible rfl)
                (try simp only [Act.put, List.setIfInBounds_toArray, List.set_cons_zero, List.set_cons_succ])
                refine wpAnyH_take (i := 15) (oi := { dst := Option.some 138, op := Go.Op.move (Go.Operand.tmp 11), type := 41, pos := "law.go:87", after := #[{ on := 14, ground := Go.Ground.guard }], guard := Option.some (14, Bool.true) }) (v := undef) rfl (by kernel_rfl) (by kernel_rfl) (by kernel_rfl) (fun _ _ _ h => h) (Or.inr ⟨by rfl, rfl⟩) (by assumption) ?_
                (try simp only [Act.put, List.setIfInBounds_toArray, List.set_cons_zero, List.set_cons_succ])
                refine wpAnyH_take (i := 16) (oi := { dst := Option.some 139, op := Go.Op.nilCheck (Go.Operand.tmp 138), type := 0, pos := "law.go:87", after := #[{ on := 15, ground := Go.Ground.data }, { on := 14, ground := Go.Ground.guard }], guard := Option.some (14, Bool.true) }) (v := undef) rfl (by kernel_rfl) (by kernel_rfl) (by kernel_rfl) (fun _ _ _ h => h) (Or.inr ⟨by rfl, rfl⟩) (by assumption) ?_
                (try simp only [Act.put, List.setIfInBounds_toArray, List.set_cons_zero, List.set_cons_succ])
                refine wpAnyH_take (i := 17) (oi := { dst := Option.some 140, op := Go.Op.fieldAddr 45 (Go.Operand.tmp 139) 0, type := 0, pos := "law.go:87", after := #[{ on := 16, ground := Go.Ground.data }, { on := 14, ground := Go.Ground.guard }], guard := Option.some (14, Bool.true) }) (v := undef) rfl (by kernel_rfl) (by kernel_rfl) (by kernel_rfl) (fun _ _ _ h => h) (Or.inr ⟨by rfl, rfl⟩) (by assumption) ?_
                (try simp only [Act.put, List.setIfInBounds_toArray, List.set_cons_zero, List.set_cons_succ])
                refine wpAnyH_take (i := 18) (oi := { dst := Option.some 141, op := Go.Op.load 42 (Go.Operand.tmp 140), type := 42, pos := "law.go:87", after := #[{ on := 17, ground := Go.Ground.data }, { on := 14, ground := Go.Ground.guard }], guard := Option.some (14, Bool.true) }) (v := undef) rfl (by kernel_rfl) (by kernel_rfl) (by kernel_rfl) (fun _ _ _ h => h) (Or.inr ⟨by rfl, rfl⟩) (by assumption) ?_
                (try simp only [Act.put, List.setIfInBounds_toArray, List.set_cons_zero, List.set_cons_succ])
                refine wpAnyH_take (i := 19) (oi := { dst := Option.some 142, op := Go.Op.call { callee := Go.Callee.value (Go.Operand.func 17), args := #[Go.Operand.tmp 141], argTypes := #[42] }, type := 36, pos := "law.go:87", after := #[{ on := 18, ground := Go.Ground.data }, { on := 14, ground := Go.Ground.chain }, { on := 14, ground := Go.Ground.guard }], guard := Option.some (14, Bool.true) }) (v := undef) rfl (by kernel_rfl) (by kernel_rfl) (by kernel_rfl) (fun _ _ _ h => h) (Or.inr ⟨by rfl, rfl⟩) (by assumption) ?_
                (try simp only [Act.put, List.setIfInBounds_toArray, List.set_cons_zero, List.set_cons_succ])
                refine wpAnyH_take (i := 20) (oi := { dst := Option.some 143, op := Go.Op.move (Go.Operand.tmp 11), type := 41, pos := "law.go:87", after := #[{ on := 14, ground := Go.Ground.guard }], guard := Option.some (14, Bool.true) }) (v := undef) rfl (by kernel_rfl) (by kernel_rfl) (by kernel_rfl) (fun _ _ _ h => h) (Or.inr ⟨by rfl, rfl⟩) (by assumption) ?_
                (try simp only [Act.put, List.setIfInBounds_toArray, List.set_cons_zero, List.set_cons_succ])
                refine wpAnyH_take (i := 21) (oi := { dst := Option.some 144, op := Go.Op.nilCheck (Go.Operand.tmp 143), type := 0, pos := "law.go:87", after := #[{ on := 20, ground := Go.Ground.data }, { on := 14, ground := Go.Ground.guard }], guard := Option.some (14, Bool.true) }) (v := undef) rfl (by kernel_rfl) (by kernel_rfl) (by kernel_rfl) (fun _ _ _ h => h) (Or.inr ⟨by rfl, rfl⟩) (by assumption) ?_
                (try simp only [Act.put, List.setIfInBounds_toArray, List.set_cons_zero, List.set_cons_succ])
                refine wpAnyH_take (i := 22) (oi := { dst := Option.some 145, op := Go.Op.fieldAddr 45 (Go.Operand.tmp 144) 1, type := 0, pos := "law.go:87", after := #[{ on := 21, ground := Go.Ground.data }, { on := 14, ground := Go.Ground.guard }], guard := Option.some (14, Bool.true) }) (v := undef) rfl (by kernel_rfl) (by kernel_rfl) (by kernel_rfl) (fun _ _ _ h => h) (Or.inr ⟨by rfl, rfl⟩) (by assumption) ?_
                (try simp only [Act.put, List.setIfInBounds_toArray, List.set_cons_zero, List.set_cons_succ])
                refine wpAnyH_take (i := 23) (oi := { dst := Option.some 146, op := Go.Op.load 43 (Go.Operand.tmp 145), type := 43, pos := "law.go:87", after := #[{ on := 22, ground := Go.Ground.data }, { on := 14, ground := Go.Ground.guard }], guard := Option.some (14, Bool.true) }) (v := undef) rfl (by kernel_rfl) (by kernel_rfl) (by kernel_rfl) (fun _ _ _ h => h) (Or.inr ⟨by rfl, rfl⟩) (by assumption) ?_
                (try simp only [Act.put, List.setIfInBounds_toArray, List.set_cons_zero, List.set_cons_succ])
                refine wpAnyH_take (i := 24) (oi := { dst := Option.some 147, op := Go.Op.nilCheck (Go.Operand.tmp 146), type := 0, pos := "law.go:87", after := #[{ on := 23, ground := Go.Ground.data }, { on := 14, ground := Go.Ground.guard }], guard := Option.some (14, Bool.true) }) (v := undef) rfl (by kernel_rfl) (by kernel_rfl) (by kernel_rfl) (fun _ _ _ h => h) (Or.inr ⟨by rfl, rfl⟩) (by assumption) ?_
                (try simp only [Act.put, List.setIfInBounds_toArray, List.set_cons_zero, List.set_cons_succ])
                refine wpAnyH_take (i := 25) (oi := { dst := Option.some 148, op := Go.Op.fieldAddr 56 (Go.Operand.tmp 147) 2, type := 0, pos := "law.go:87", after := #[{ on := 24, ground := Go.Ground.data }, { on := 14, ground := Go.Ground.guard }], guard := Option.some (14, Bool.true) }) (v := undef) rfl (by kernel_rfl) (by kernel_rfl) (by kernel_rfl) (fun _ _ _ h => h) (Or.inr ⟨by rfl, rfl⟩) (by assumption) ?_
                (try simp only [Act.put, List.setIfInBounds_toArray, List.set_cons_zero, List.set_cons_succ])
                refine wpAnyH_take (i := 26) (oi := { dst := Option.some 149, op := Go.Op.load 36 (Go.Operand.tmp 148), type := 36, pos := "law.go:87", after := #[{ on := 25, ground := Go.Ground.data }, { on := 14, ground := Go.Ground.guard }], guard := Option.some (14, Bool.true) }) (v := undef) rfl (by kernel_rfl) (by kernel_rfl) (by kernel_rfl) (fun _ _ _ h => h) (Or.inr ⟨by rfl, rfl⟩) (by assumption) ?_
                (try simp only [Act.put, List.setIfInBounds_toArray, List.set_cons_zero, List.set_cons_succ])
                refine wpAnyH_take (i := 27) (oi := { dst := Option.some 150, op := Go.Op.binOp Go.BinOp.neq 36 (Go.Operand.tmp 142) (Go.Operand.tmp 149) 36, type := 4, pos := "law.go:87", after := #[{ on := 19, ground := Go.Ground.data }, { on := 26, ground := Go.Ground.data }, { on := 14, ground := Go.Ground.guard }], guard := Option.some (14, Bool.true) }) (v := undef) rfl (by kernel_rfl) (by kernel_rfl) (by kernel_rfl) (fun _ _ _ h => h) (Or.inr ⟨by rfl, rfl⟩) (by assumption) ?_
                (try simp only [Act.put, List.setIfInBounds_toArray, List.set_cons_zero, List.set_cons_succ])
                refine wpAnyH_take (i := 28) (oi := { dst := Option.some 151, op := Go.Op.pick (Go.Operand.tmp 137) (Go.Operand.tmp 150) (Go.Operand.const (Go.Value.bool Bool.false)), type := 4, pos := "law.go:87", after := #[{ on := 14, ground := Go.Ground.data }, { on := 27, ground := Go.Ground.data }, { on := 8, ground := Go.Ground.guard }], guard := Option.some (8, Bool.false) }) (v := ?_) rfl (by kernel_rfl) (by kernel_rfl) (by kernel_rfl) (fun _ _ _ h => h) (Or.inl ⟨by rfl, ?_⟩) (by assumption) ?_
                rotate_left
                · intro w hSw
                  (try dsimp only at hSw)
                  go_simp
                  (try with_reducible rfl)
                (try simp only [Act.put, List.setIfInBounds_toArray, List.set_cons_zero, List.set_cons_succ])
                refine wpAnyH_take (i := 29) (oi := { dst := Option.some 152, op := Go.Op.pick (Go.Operand.tmp 131) (Go.Operand.const (Go.Value.bool Bool.true)) (Go.Operand.tmp 151), type := 4, pos := "law.go:87", after := #[{ on := 8, ground := Go.Ground.data }, { on := 28, ground := Go.Ground.data }], guard := Option.none }) (v := ?_) rfl (by kernel_rfl) (by kernel_rfl) (by kernel_rfl) (fun _ _ _ h => h) (Or.inl ⟨by rfl, ?_⟩) (by assumption) ?_
                rotate_left
                · intro w hSw
                  (try dsimp only at hSw)
                  go_simp
                  (try with_reducible rfl)
                (try simp only [Act.put, List.setIfInBounds_toArray, List.set_cons_zero, List.set_cons_succ])
                refine wpAnyH_done (by kernel_rfl) ?_ _
                go_wp2
                go_roundw
                case rel => exact ⟨i + 1, F3, G4, T, none, by go_num, by omega, E4.out _ C5.out⟩
                case measure => simp [hNat]; omega
            have t11 : (m.h.kind == 11) = false := by simpa using h11
            clear h11
            by_cases h12 : m.h.kind = 12
            · have t12 : (m.h.kind == 12) = true := by simpa using h12
              clear h12
              go_wp2_with (first
                | ((with_reducible refine atWorld wr ?_); refine wpList_allocRow (w := wr) daTy rfl rfl ?_; (intro w1 b1 B1 s1; have b1 := Lib.hid b1))
                | ((with_reducible refine atWorld w1 ?_); refine wpList_storeRow (w := w1) daTy rfl (.tmp 13) (.tmp 66) rfl wr.heap.size (daCells m) daZ rfl rfl rfl rfl (da_one m) b1.out ?_; (intro w2 b2 B2 s2 k2; have B12 : Below wr.heap.size wr w2 := B1.trans B2; obtain ⟨e0, e1, e2, e4, e6⟩ := da_cells b2; have M2 := Lib.hid (G2.out w2 B12 b2); have b2 := Lib.hid b2; have PT2 := Lib.hid (HI.out.1.pt.step B12); have t2 := HT.out.below (HI.out.1.below.trans (B12.mono HI.out.1.below.size)) (Nat.le_refl _); clear b1 B1 s1 B2 s2 k2)))
              have M1 := M2.out.step disks ((Below.refl _ w2).drew)
              have C1 : w2.drew.cell? ⟨wr.heap.size, 2, none⟩ = some (.int .i64 m.h.at_) ∧ w2.drew.cell? ⟨wr.heap.size, 4, none⟩ = some (.slice m.h.A m.h.b.length m.h.cb) := ⟨M1.x.cell rfl, M1.x.cell rfl⟩
              have t1 := t2.below ((Below.refl _ w2).drew) (Nat.le_refl _)
              have hx2 := HI.out.2.1.step B12
              have rr := (M1.bytes hx2.rb hx2.ab).1
              have z3 := save_any disks w2.drew b F S m.h.at_ m.h.A m.h.b m.h.b.length m.h.cb rfl t1 M1.d rr (by omega)
              have z4 := fun w3 h hr => mSave w3 c G S m.h.at_ m.h.A m.h.b m.h.b.length m.h.cb rfl h hr (by omega)
              unfold ChgPost at z3 z4
              clear rr
              have hops := haSave_ops S m.h.at_ m.h.b
              obtain ⟨T, hT⟩ : ∃ T, T = (Slot.save S m.h.at_ m.h.b).1 := ⟨_, rfl⟩
              obtain ⟨r, hr⟩ : ∃ r, r = (Slot.save S m.h.at_ m.h.b).2 := ⟨_, rfl⟩
              rw [← hT] at hops
              rw [← hT, ← hr] at z3 z4
              have HH := Lib.hid (And.intro hops hx2)
              have M1 := Lib.hid M1
              clear hT hr t1 hops hx2 M2 e0 e1 e2 e4 e6 b2
              go_region_held3 (fun w' => w'.cell? ⟨wr.heap.size, 2, none⟩ = some (.int .i64 m.h.at_) ∧ w'.cell? ⟨wr.heap.size, 4, none⟩ = some (.slice m.h.A m.h.b.length m.h.cb)) (first | assumption) (first
                | (go_at_call 13; refine z3.mono ?_; (rintro e w3 ⟨F3, rfl, d3, o3, f3⟩; have M3 := M1.out.chgD d3 o3 f3; have d3 := M3.m; have C3 : w3.cell? ⟨wr.heap.size, 2, none⟩ = some (.int .i64 m.h.at_) ∧ w3.cell? ⟨wr.heap.size, 4, none⟩ = some (.slice m.h.A m.h.b.length m.h.cb) := ⟨M3.x.cell rfl, M3.x.cell rfl⟩; have r3 := (M3.bytes HH.out.2.rb HH.out.2.ab).1; have M3 := Lib.hid M3; clear o3 f3))
                | (go_at_call 14; refine (z4 w3 d3 r3).mono ?_; (rintro e w4 ⟨G4, rfl, m4, o4, f4⟩; have M4 := M3.out.chgM disks m4 o4 f4; have C4 : w4.cell? ⟨wr.heap.size, 2, none⟩ = some (.int .i64 m.h.at_) ∧ w4.cell? ⟨wr.heap.size, 4, none⟩ = some (.slice m.h.A m.h.b.length m.h.cb) := ⟨M4.x.cell rfl, M4.x.cell rfl⟩; have M4 := Lib.hid M4; clear m4 o4 f4)))
              have X4 := HI.out.1.next2 B12 ⟨M4.out.d, M4.out.m, M4.out.ap⟩ HH.out.1 M4.out.of_ M4.out.og M4.out.fr
              have hO4 : T.ops ≤ 1000000 := by have := HH.out.1; omega
              have T4 := Lib.hid X4.1
              have E4 := Lib.hid X4.2
              clear X4 M4 M3 C1 C3 C4
              go_wp2
              have D4 := (Below.refl w4.heap.size w4).drew
              have A4 := Lib.hid (haAlike_any disks w4.drew b c F3 G4 T (T4.out.two.step disks D4) hO4)
              cases o with
              | some q4 =>
                have K4 := Lib.hid (prRead T4.out)
                have J0 := (K4.out w4.drew D4).1
                have J4 := (K4.out w4 (Below.refl _ _)).1
                go_region_held3 (fun w' => w'.cell? ⟨P, 0, none⟩ = some (.pointer (some ⟨q4.g, 0, none⟩)) ∧ w'.cell? ⟨P, 1, none⟩ = some (.pointer (some ⟨q4.h, 0, none⟩)) ∧ w'.cell? ⟨q4.h, 2, none⟩ = some (.int .u64 (q4.s : Int))) (first | assumption | exact J0 | exact J4) (first
                  | (go_at_call 16; refine A4.out.mono ?_; (rintro e w5 ⟨rfl, B5⟩; have C5 := step_trans D4 B5; obtain ⟨J5, m5⟩ := K4.out w5 C5; have C5 := Lib.hid C5; clear B5))
                  | (go_at_call 17; refine (mpBits_any m5).mono ?_; (rintro e w' ⟨rfl, rfl⟩)))
                go_wp2
                go_roundw
                case rel => exact ⟨i + 1, F3, G4, T, some q4, by go_num, by omega, E4.out _ C5.out⟩
                case measure => simp [hNat]; omega
              | none =>
                have K4 := Lib.hid (prReadNo T4.out)
                have J0 := K4.out w4.drew D4
                refine wp_region_held_drew (S := fun w' => w'.cell? ⟨P, 0, none⟩ = some (.pointer none) ∧ w'.cell? ⟨P, 1, none⟩ = some (.pointer none)) (by kernel_rfl) J0 (fun hHeld => ?_)
                refine wpAnyH_take (i := 0) (oi := { dst := Option.some 123, op := Go.Op.move (Go.Operand.tmp 14), type := 4, pos := "law.go:87", after := #[], guard := Option.none }) (v := ?_) rfl (by kernel_rfl) (by kernel_rfl) (by kernel_rfl) (fun _ _ _ h => h) (Or.inl ⟨by rfl, ?_⟩) (by assumption) ?_
                rotate_left
                · intro w hSw
                  (try dsimp only at hSw)
                  go_simp
                  (try with_reducible rfl)
                (try simp only [Act.put, List.setIfInBounds_toArray, List.set_cons_zero, List.set_cons_succ])
                refine wpAnyH_take (i := 1) (oi := { dst := Option.some 124, op := Go.Op.unOp Go.UnOp.not 4 (Go.Operand.tmp 123), type := 4, pos := "law.go:87", after := #[{ on := 0, ground := Go.Ground.data }], guard := Option.none }) (v := ?_) rfl (by kernel_rfl) (by kernel_rfl) (by kernel_rfl) (fun _ _ _ h => h) (Or.inl ⟨by rfl, ?_⟩) (by assumption) ?_
                rotate_left
                · intro w hSw
                  (try dsimp only at hSw)
                  go_simp
                  (try with_reducible rfl)
                (try simp only [Act.put, List.setIfInBounds_toArray, List.set_cons_zero, List.set_cons_succ])
                refine wpAnyH_take (i := 2) (oi := { dst := Option.some 125, op := Go.Op.move (Go.Operand.tmp 124), type := 4, pos := "law.go:87", after := #[{ on := 1, ground := Go.Ground.data }], guard := Option.none }) (v := ?_) rfl (by kernel_rfl) (by kernel_rfl) (by kernel_rfl) (fun _ _ _ h => h) (Or.inl ⟨by rfl, ?_⟩) (by assumption) ?_
                rotate_left
                · intro w hSw
                  (try dsimp only at hSw)
                  go_simp
                  (try with_reducible rfl)
                (try simp only [Act.put, List.setIfInBounds_toArray, List.set_cons_zero, List.set_cons_succ])
                refine wpAnyH_take (i := 3) (oi := { dst := Option.some 126, op := Go.Op.move (Go.Operand.tmp 5), type := 24, pos := "law.go:87", after := #[{ on := 2, ground := Go.Ground.guard }], guard := Option.some (2, Bool.false) }) (v := ?_) rfl (by kernel_rfl) (by kernel_rfl) (by kernel_rfl) (fun _ _ _ h => h) (Or.inl ⟨by rfl, ?_⟩) (by assumption) ?_
                rotate_left
                · intro w hSw
                  (try dsimp only at hSw)
                  go_simp
                  (try with_reducible rfl)
                (try simp only [Act.put, List.setIfInBounds_toArray, List.set_cons_zero, List.set_cons_succ])
                refine wpAnyH_take (i := 4) (oi := { dst := Option.some 127, op := Go.Op.move (Go.Operand.tmp 7), type := 28, pos := "law.go:87", after := #[{ on := 2, ground := Go.Ground.guard }], guard := Option.some (2, Bool.false) }) (v := ?_) rfl (by kernel_rfl) (by kernel_rfl) (by kernel_rfl) (fun _ _ _ h => h) (Or.inl ⟨by rfl, ?_⟩) (by assumption) ?_
                rotate_left
                · intro w hSw
                  (try dsimp only at hSw)
                  go_simp
                  (try with_reducible rfl)
                (try simp only [Act.put, List.setIfInBounds_toArray, List.set_cons_zero, List.set_cons_succ])
                refine wpAnyH_ready (rs := [5]) (by kernel_rfl) (by simp) ?_
                refine AllReadyH.cons (o := { dst := Option.some 128, op := Go.Op.call { callee := Go.Callee.value (Go.Operand.func 16), args := #[Go.Operand.tmp 126, Go.Operand.tmp 127], argTypes := #[24, 28] }, type := 4, pos := "law.go:87", after := #[{ on := 3, ground := Go.Ground.data }, { on := 4, ground := Go.Ground.data }, { on := 2, ground := Go.Ground.chain }, { on := 2, ground := Go.Ground.guard }], guard := Option.some (2, Bool.false) }) rfl (fun K hK => ?_) AllReadyH.nil
                go_simp
                refine A4.out.mono ?_
                rintro e w5 ⟨rfl, B5⟩
                have C5 := step_trans D4 B5
                have J5 := K4.out w5 C5
                have C5 := Lib.hid C5
                clear B5
                go_wp2_with fail
                refine hK.out _ _ J5 (fun hHeld2 => ?_)
                clear hK K
                (try simp only [Act.put, List.setIfInBounds_toArray, List.set_cons_zero, List.set_cons_succ])
                refine wpAnyH_take (i := 6) (oi := { dst := Option.some 129, op := Go.Op.unOp Go.UnOp.not 4 (Go.Operand.tmp 128), type := 4, pos := "law.go:87", after := #[{ on := 5, ground := Go.Ground.data }, { on := 2, ground := Go.Ground.guard }], guard := Option.some (2, Bool.false) }) (v := ?_) rfl (by kernel_rfl) (by kernel_rfl) (by kernel_rfl) (fun _ _ _ h => h) (Or.inl ⟨by rfl, ?_⟩) (by assumption) ?_
                rotate_left
                · intro w hSw
                  (try dsimp only at hSw)
                  go_simp
                  (try with_reducible rfl)
                (try simp only [Act.put, List.setIfInBounds_toArray, List.set_cons_zero, List.set_cons_succ])
                refine wpAnyH_take (i := 7) (oi := { dst := Option.some 130, op := Go.Op.pick (Go.Operand.tmp 125) (Go.Operand.const (Go.Value.bool Bool.true)) (Go.Operand.tmp 129), type := 4, pos := "law.go:87", after := #[{ on := 2, ground := Go.Ground.data }, { on := 6, ground := Go.Ground.data }], guard := Option.none }) (v := ?_) rfl (by kernel_rfl) (by kernel_rfl) (by kernel_rfl) (fun _ _ _ h => h) (Or.inl ⟨by rfl, ?_⟩) (by assumption) ?_
                rotate_left
                · intro w hSw
                  (try dsimp only at hSw)
                  go_simp
                  (try with_reducible rfl)
                (try simp only [Act.put, List.setIfInBounds_toArray, List.set_cons_zero, List.set_cons_succ])
                refine wpAnyH_take (i := 8) (oi := { dst := Option.some 131, op := Go.Op.move (Go.Operand.tmp 130), type := 4, pos := "law.go:87", after := #[{ on := 7, ground := Go.Ground.data }, { on := 5, ground := Go.Ground.chain }], guard := Option.none }) (v := ?_) rfl (by kernel_rfl) (by kernel_rfl) (by kernel_rfl) (fun _ _ _ h => h) (Or.inl ⟨by rfl, ?_⟩) (by assumption) ?_
                rotate_left
                · intro w hSw
                  (try dsimp only at hSw)
                  go_simp
                  (try with_reducible rfl)
                (try simp only [Act.put, List.setIfInBounds_toArray, List.set_cons_zero, List.set_cons_succ])
                refine wpAnyH_take (i := 9) (oi := { dst := Option.some 132, op := Go.Op.move (Go.Operand.tmp 11), type := 41, pos := "law.go:87", after := #[{ on := 8, ground := Go.Ground.guard }], guard := Option.some (8, Bool.false) }) (v := ?_) rfl (by kernel_rfl) (by kernel_rfl) (by kernel_rfl) (fun _ _ _ h => h) (Or.inl ⟨by rfl, ?_⟩) (by assumption) ?_
                rotate_left
                · intro w hSw
                  (try dsimp only at hSw)
                  go_simp
                  (try with_reducible rfl)
                (try simp only [Act.put, List.setIfInBounds_toArray, List.set_cons_zero, List.set_cons_succ])
                refine wpAnyH_take (i := 10) (oi := { dst := Option.some 133, op := Go.Op.nilCheck (Go.Operand.tmp 132), type := 0, pos := "law.go:87", after := #[{ on := 9, ground := Go.Ground.data }, { on := 8, ground := Go.Ground.guard }], guard := Option.some (8, Bool.false) }) (v := ?_) rfl (by kernel_rfl) (by kernel_rfl) (by kernel_rfl) (fun _ _ _ h => h) (Or.inl ⟨by rfl, ?_⟩) (by assumption) ?_
                rotate_left
                · intro w hSw
                  (try dsimp only at hSw)
                  go_simp
                  (try with_reducible rfl)
                (try simp only [Act.put, List.setIfInBounds_toArray, List.set_cons_zero, List.set_cons_succ])
                refine wpAnyH_take (i := 11) (oi := { dst := Option.some 134, op := Go.Op.fieldAddr 45 (Go.Operand.tmp 133) 1, type := 0, pos := "law.go:87", after := #[{ on := 10, ground := Go.Ground.data }, { on := 8, ground := Go.Ground.guard }], guard := Option.some (8, Bool.false) }) (v := ?_) rfl (by kernel_rfl) (by kernel_rfl) (by kernel_rfl) (fun _ _ _ h => h) (Or.inl ⟨by rfl, ?_⟩) (by assumption) ?_
                rotate_left
                · intro w hSw
                  (try dsimp only at hSw)
                  go_simp
                  (try with_reducible rfl)
                (try simp only [Act.put, List.setIfInBounds_toArray, List.set_cons_zero, List.set_cons_succ])
                refine wpAnyH_take (i := 12) (oi := { dst := Option.some 135, op := Go.Op.load 43 (Go.Operand.tmp 134), type := 43, pos := "law.go:87", after := #[{ on := 11, ground := Go.Ground.data }, { on := 8, ground := Go.Ground.guard }], guard := Option.some (8, Bool.false) }) (v := ?_) rfl (by kernel_rfl) (by kernel_rfl) (by kernel_rfl) (fun _ _ _ h => h) (Or.inl ⟨by rfl, ?_⟩) (by assumption) ?_
                rotate_left
                · intro w hSw
                  (try dsimp only at hSw)
                  go_simp
                  (try with_reducible rfl)
                (try simp only [Act.put, List.setIfInBounds_toArray, List.set_cons_zero, List.set_cons_succ])
                refine wpAnyH_take (i := 13) (oi := { dst := Option.some 136, op := Go.Op.binOp Go.BinOp.neq 43 (Go.Operand.tmp 135) (Go.Operand.const (Go.Value.pointer Option.none)) 43, type := 4, pos := "law.go:87", after := #[{ on := 12, ground := Go.Ground.data }, { on := 8, ground := Go.Ground.guard }], guard := Option.some (8, Bool.false) }) (v := ?_) rfl (by kernel_rfl) (by kernel_rfl) (by kernel_rfl) (fun _ _ _ h => h) (Or.inl ⟨by rfl, ?_⟩) (by assumption) ?_
                rotate_left
                · intro w hSw
                  (try dsimp only at hSw)
                  go_simp
                  (try with_reducible rfl)
                (try simp only [Act.put, List.setIfInBounds_toArray, List.set_cons_zero, List.set_cons_succ])
                refine wpAnyH_take (i := 14) (oi := { dst := Option.some 137, op := Go.Op.move (Go.Operand.tmp 136), type := 4, pos := "law.go:87", after := #[{ on := 13, ground := Go.Ground.data }, { on := 8, ground := Go.Ground.chain }, { on := 8, ground := Go.Ground.guard }], guard := Option.some (8, Bool.false) }) (v := ?_) rfl (by kernel_rfl) (by kernel_rfl) (by kernel_rfl) (fun _ _ _ h => h) (Or.inl ⟨by rfl, ?_⟩) (by assumption) ?_
                rotate_left
                · intro w hSw
                  (try dsimp only at hSw)
                  go_simp
                  (try with_reducible rfl)
                (try simp only [Act.put, List.setIfInBounds_toArray, List.set_cons_zero, List.set_cons_succ])
                refine wpAnyH_take (i := 15) (oi := { dst := Option.some 138, op := Go.Op.move (Go.Operand.tmp 11), type := 41, pos := "law.go:87", after := #[{ on := 14, ground := Go.Ground.guard }], guard := Option.some (14, Bool.true) }) (v := undef) rfl (by kernel_rfl) (by kernel_rfl) (by kernel_rfl) (fun _ _ _ h => h) (Or.inr ⟨by rfl, rfl⟩) (by assumption) ?_
                (try simp only [Act.put, List.setIfInBounds_toArray, List.set_cons_zero, List.set_cons_succ])
                refine wpAnyH_take (i := 16) (oi := { dst := Option.some 139, op := Go.Op.nilCheck (Go.Operand.tmp 138), type := 0, pos := "law.go:87", after := #[{ on := 15, ground := Go.Ground.data }, { on := 14, ground := Go.Ground.guard }], guard := Option.some (14, Bool.true) }) (v := undef) rfl (by kernel_rfl) (by kernel_rfl) (by kernel_rfl) (fun _ _ _ h => h) (Or.inr ⟨by rfl, rfl⟩) (by assumption) ?_
                (try simp only [Act.put, List.setIfInBounds_toArray, List.set_cons_zero, List.set_cons_succ])
                refine wpAnyH_take (i := 17) (oi := { dst := Option.some 140, op := Go.Op.fieldAddr 45 (Go.Operand.tmp 139) 0, type := 0, pos := "law.go:87", after := #[{ on := 16, ground := Go.Ground.data }, { on := 14, ground := Go.Ground.guard }], guard := Option.some (14, Bool.true) }) (v := undef) rfl (by kernel_rfl) (by kernel_rfl) (by kernel_rfl) (fun _ _ _ h => h) (Or.inr ⟨by rfl, rfl⟩) (by assumption) ?_
                (try simp only [Act.put, List.setIfInBounds_toArray, List.set_cons_zero, List.set_cons_succ])
                refine wpAnyH_take (i := 18) (oi := { dst := Option.some 141, op := Go.Op.load 42 (Go.Operand.tmp 140), type := 42, pos := "law.go:87", after := #[{ on := 17, ground := Go.Ground.data }, { on := 14, ground := Go.Ground.guard }], guard := Option.some (14, Bool.true) }) (v := undef) rfl (by kernel_rfl) (by kernel_rfl) (by kernel_rfl) (fun _ _ _ h => h) (Or.inr ⟨by rfl, rfl⟩) (by assumption) ?_
                (try simp only [Act.put, List.setIfInBounds_toArray, List.set_cons_zero, List.set_cons_succ])
                refine wpAnyH_take (i := 19) (oi := { dst := Option.some 142, op := Go.Op.call { callee := Go.Callee.value (Go.Operand.func 17), args := #[Go.Operand.tmp 141], argTypes := #[42] }, type := 36, pos := "law.go:87", after := #[{ on := 18, ground := Go.Ground.data }, { on := 14, ground := Go.Ground.chain }, { on := 14, ground := Go.Ground.guard }], guard := Option.some (14, Bool.true) }) (v := undef) rfl (by kernel_rfl) (by kernel_rfl) (by kernel_rfl) (fun _ _ _ h => h) (Or.inr ⟨by rfl, rfl⟩) (by assumption) ?_
                (try simp only [Act.put, List.setIfInBounds_toArray, List.set_cons_zero, List.set_cons_succ])
                refine wpAnyH_take (i := 20) (oi := { dst := Option.some 143, op := Go.Op.move (Go.Operand.tmp 11), type := 41, pos := "law.go:87", after := #[{ on := 14, ground := Go.Ground.guard }], guard := Option.some (14, Bool.true) }) (v := undef) rfl (by kernel_rfl) (by kernel_rfl) (by kernel_rfl) (fun _ _ _ h => h) (Or.inr ⟨by rfl, rfl⟩) (by assumption) ?_
                (try simp only [Act.put, List.setIfInBounds_toArray, List.set_cons_zero, List.set_cons_succ])
                refine wpAnyH_take (i := 21) (oi := { dst := Option.some 144, op := Go.Op.nilCheck (Go.Operand.tmp 143), type := 0, pos := "law.go:87", after := #[{ on := 20, ground := Go.Ground.data }, { on := 14, ground := Go.Ground.guard }], guard := Option.some (14, Bool.true) }) (v := undef) rfl (by kernel_rfl) (by kernel_rfl) (by kernel_rfl) (fun _ _ _ h => h) (Or.inr ⟨by rfl, rfl⟩) (by assumption) ?_
                (try simp only [Act.put, List.setIfInBounds_toArray, List.set_cons_zero, List.set_cons_succ])
                refine wpAnyH_take (i := 22) (oi := { dst := Option.some 145, op := Go.Op.fieldAddr 45 (Go.Operand.tmp 144) 1, type := 0, pos := "law.go:87", after := #[{ on := 21, ground := Go.Ground.data }, { on := 14, ground := Go.Ground.guard }], guard := Option.some (14, Bool.true) }) (v := undef) rfl (by kernel_rfl) (by kernel_rfl) (by kernel_rfl) (fun _ _ _ h => h) (Or.inr ⟨by rfl, rfl⟩) (by assumption) ?_
                (try simp only [Act.put, List.setIfInBounds_toArray, List.set_cons_zero, List.set_cons_succ])
                refine wpAnyH_take (i := 23) (oi := { dst := Option.some 146, op := Go.Op.load 43 (Go.Operand.tmp 145), type := 43, pos := "law.go:87", after := #[{ on := 22, ground := Go.Ground.data }, { on := 14, ground := Go.Ground.guard }], guard := Option.some (14, Bool.true) }) (v := undef) rfl (by kernel_rfl) (by kernel_rfl) (by kernel_rfl) (fun _ _ _ h => h) (Or.inr ⟨by rfl, rfl⟩) (by assumption) ?_
                (try simp only [Act.put, List.setIfInBounds_toArray, List.set_cons_zero, List.set_cons_succ])
                refine wpAnyH_take (i := 24) (oi := { dst := Option.some 147, op := Go.Op.nilCheck (Go.Operand.tmp 146), type := 0, pos := "law.go:87", after := #[{ on := 23, ground := Go.Ground.data }, { on := 14, ground := Go.Ground.guard }], guard := Option.some (14, Bool.true) }) (v := undef) rfl (by kernel_rfl) (by kernel_rfl) (by kernel_rfl) (fun _ _ _ h => h) (Or.inr ⟨by rfl, rfl⟩) (by assumption) ?_
                (try simp only [Act.put, List.setIfInBounds_toArray, List.set_cons_zero, List.set_cons_succ])
                refine wpAnyH_take (i := 25) (oi := { dst := Option.some 148, op := Go.Op.fieldAddr 56 (Go.Operand.tmp 147) 2, type := 0, pos := "law.go:87", after := #[{ on := 24, ground := Go.Ground.data }, { on := 14, ground := Go.Ground.guard }], guard := Option.some (14, Bool.true) }) (v := undef) rfl (by kernel_rfl) (by kernel_rfl) (by kernel_rfl) (fun _ _ _ h => h) (Or.inr ⟨by rfl, rfl⟩) (by assumption) ?_
                (try simp only [Act.put, List.setIfInBounds_toArray, List.set_cons_zero, List.set_cons_succ])
                refine wpAnyH_take (i := 26) (oi := { dst := Option.some 149, op := Go.Op.load 36 (Go.Operand.tmp 148), type := 36, pos := "law.go:87", after := #[{ on := 25, ground := Go.Ground.data }, { on := 14, ground := Go.Ground.guard }], guard := Option.some (14, Bool.true) }) (v := undef) rfl (by kernel_rfl) (by kernel_rfl) (by kernel_rfl) (fun _ _ _ h => h) (Or.inr ⟨by rfl, rfl⟩) (by assumption) ?_
                (try simp only [Act.put, List.setIfInBounds_toArray, List.set_cons_zero, List.set_cons_succ])
                refine wpAnyH_take (i := 27) (oi := { dst := Option.some 150, op := Go.Op.binOp Go.BinOp.neq 36 (Go.Operand.tmp 142) (Go.Operand.tmp 149) 36, type := 4, pos := "law.go:87", after := #[{ on := 19, ground := Go.Ground.data }, { on := 26, ground := Go.Ground.data }, { on := 14, ground := Go.Ground.guard }], guard := Option.some (14, Bool.true) }) (v := undef) rfl (by kernel_rfl) (by kernel_rfl) (by kernel_rfl) (fun _ _ _ h => h) (Or.inr ⟨by rfl, rfl⟩) (by assumption) ?_
                (try simp only [Act.put, List.setIfInBounds_toArray, List.set_cons_zero, List.set_cons_succ])
                refine wpAnyH_take (i := 28) (oi := { dst := Option.some 151, op := Go.Op.pick (Go.Operand.tmp 137) (Go.Operand.tmp 150) (Go.Operand.const (Go.Value.bool Bool.false)), type := 4, pos := "law.go:87", after := #[{ on := 14, ground := Go.Ground.data }, { on := 27, ground := Go.Ground.data }, { on := 8, ground := Go.Ground.guard }], guard := Option.some (8, Bool.false) }) (v := ?_) rfl (by kernel_rfl) (by kernel_rfl) (by kernel_rfl) (fun _ _ _ h => h) (Or.inl ⟨by rfl, ?_⟩) (by assumption) ?_
                rotate_left
                · intro w hSw
                  (try dsimp only at hSw)
                  go_simp
                  (try with_reducible rfl)
                (try simp only [Act.put, List.setIfInBounds_toArray, List.set_cons_zero, List.set_cons_succ])
                refine wpAnyH_take (i := 29) (oi := { dst := Option.some 152, op := Go.Op.pick (Go.Operand.tmp 131) (Go.Operand.const (Go.Value.bool Bool.true)) (Go.Operand.tmp 151), type := 4, pos := "law.go:87", after := #[{ on := 8, ground := Go.Ground.data }, { on := 28, ground := Go.Ground.data }], guard := Option.none }) (v := ?_) rfl (by kernel_rfl) (by kernel_rfl) (by kernel_rfl) (fun _ _ _ h => h) (Or.inl ⟨by rfl, ?_⟩) (by assumption) ?_
                rotate_left
                · intro w hSw
                  (try dsimp only at hSw)
                  go_simp
                  (try with_reducible rfl)
                (try simp only [Act.put, List.setIfInBounds_toArray, List.set_cons_zero, List.set_cons_succ])
                refine wpAnyH_done (by kernel_rfl) ?_ _
                go_wp2
                go_roundw
                case rel => exact ⟨i + 1, F3, G4, T, none, by go_num, by omega, E4.out _ C5.out⟩
                case measure => simp [hNat]; omega
            have t12 : (m.h.kind == 12) = false := by simpa using h12
            clear h12
            have zh := fun w h hx => harm_any disks w b c F G S m.h h hO hx
            unfold TwoPost at zh
            go_wp2_with (first
              | ((with_reducible refine atWorld wr ?_); refine wpList_allocRow (w := wr) daTy rfl rfl ?_; (intro w1 b1 B1 s1; have b1 := Lib.hid b1))
              | ((with_reducible refine atWorld w1 ?_); refine wpList_storeRow (w := w1) daTy rfl (.tmp 13) (.tmp 66) rfl wr.heap.size (daCells m) daZ rfl rfl rfl rfl (da_one m) b1.out ?_; (intro w2 b2 B2 s2 k2; have B12 : Below wr.heap.size wr w2 := B1.trans B2; obtain ⟨e0, e1, e2, e4, e6⟩ := da_cells b2; have M2 := Lib.hid (G2.out w2 B12 b2); have b2 := Lib.hid b2; have PT2 := Lib.hid (HI.out.1.pt.step B12); have t2 := HT.out.below (HI.out.1.below.trans (B12.mono HI.out.1.below.size)) (Nat.le_refl _); clear b1 B1 s1 B2 s2 k2))
              | ((with_reducible refine atWorld w2 ?_); refine wpList_loadRow (w := w2) haTy rfl (.tmp 72) rfl wr.heap.size 0 (haCells m.h) rfl rfl (rangeMid b2.out (k := 0) (n := 6) rfl) ?_)
              | (go_at_call 15; refine (zh w2 ⟨M2.out.d, M2.out.m, M2.out.ap⟩ (HI.out.2.1.step B12)).mono ?_; (rintro e w4 ⟨T, F4, G4, rfl, two4, ho4, o3, o4, f4⟩; have hO4 : T.ops ≤ 1000000 := Nat.le_trans ho4 (Nat.le_trans (Nat.add_le_add_right hO 4) (by decide)); have X4 := HI.out.1.next2 B12 two4 ho4 o3 o4 f4; have T4 := Lib.hid X4.1; have E4 := Lib.hid X4.2; clear two4 o3 o4 f4 X4)))
            have D4 := (Below.refl w4.heap.size w4).drew
            have A4 := Lib.hid (haAlike_any disks w4.drew b c F4 G4 T (T4.out.two.step disks D4) hO4)
            cases o with
            | some q4 =>
              have K4 := Lib.hid (prRead T4.out)
              have J0 := (K4.out w4.drew D4).1
              have J4 := (K4.out w4 (Below.refl _ _)).1
              go_region_held3 (fun w' => w'.cell? ⟨P, 0, none⟩ = some (.pointer (some ⟨q4.g, 0, none⟩)) ∧ w'.cell? ⟨P, 1, none⟩ = some (.pointer (some ⟨q4.h, 0, none⟩)) ∧ w'.cell? ⟨q4.h, 2, none⟩ = some (.int .u64 (q4.s : Int))) (first | assumption | exact J0 | exact J4) (first
                | (go_at_call 16; refine A4.out.mono ?_; (rintro e w5 ⟨rfl, B5⟩; have C5 := step_trans D4 B5; obtain ⟨J5, m5⟩ := K4.out w5 C5; have C5 := Lib.hid C5; clear B5))
                | (go_at_call 17; refine (mpBits_any m5).mono ?_; (rintro e w' ⟨rfl, rfl⟩)))
              go_wp2
              go_roundw
              case rel => exact ⟨i + 1, F4, G4, T, some q4, by go_num, by omega, E4.out _ C5.out⟩
              case measure => simp [hNat]; omega
            | none =>
              have K4 := Lib.hid (prReadNo T4.out)
              have J0 := K4.out w4.drew D4
              refine wp_region_held_drew (S := fun w' => w'.cell? ⟨P, 0, none⟩ = some (.pointer none) ∧ w'.cell? ⟨P, 1, none⟩ = some (.pointer none)) (by kernel_rfl) J0 (fun hHeld => ?_)
              refine wpAnyH_take (i := 0) (oi := { dst := Option.some 123, op := Go.Op.move (Go.Operand.tmp 14), type := 4, pos := "law.go:87", after := #[], guard := Option.none }) (v := ?_) rfl (by kernel_rfl) (by kernel_rfl) (by kernel_rfl) (fun _ _ _ h => h) (Or.inl ⟨by rfl, ?_⟩) (by assumption) ?_
              rotate_left
              · intro w hSw
                (try dsimp only at hSw)
                go_simp
                (try with_reducible rfl)
              (try simp only [Act.put, List.setIfInBounds_toArray, List.set_cons_zero, List.set_cons_succ])
              refine wpAnyH_take (i := 1) (oi := { dst := Option.some 124, op := Go.Op.unOp Go.UnOp.not 4 (Go.Operand.tmp 123), type := 4, pos := "law.go:87", after := #[{ on := 0, ground := Go.Ground.data }], guard := Option.none }) (v := ?_) rfl (by kernel_rfl) (by kernel_rfl) (by kernel_rfl) (fun _ _ _ h => h) (Or.inl ⟨by rfl, ?_⟩) (by assumption) ?_
              rotate_left
              · intro w hSw
                (try dsimp only at hSw)
                go_simp
                (try with_reducible rfl)
              (try simp only [Act.put, List.setIfInBounds_toArray, List.set_cons_zero, List.set_cons_succ])
              refine wpAnyH_take (i := 2) (oi := { dst := Option.some 125, op := Go.Op.move (Go.Operand.tmp 124), type := 4, pos := "law.go:87", after := #[{ on := 1, ground := Go.Ground.data }], guard := Option.none }) (v := ?_) rfl (by kernel_rfl) (by kernel_rfl) (by kernel_rfl) (fun _ _ _ h => h) (Or.inl ⟨by rfl, ?_⟩) (by assumption) ?_
              rotate_left
              · intro w hSw
                (try dsimp only at hSw)
                go_simp
                (try with_reducible rfl)
              (try simp only [Act.put, List.setIfInBounds_toArray, List.set_cons_zero, List.set_cons_succ])
              refine wpAnyH_take (i := 3) (oi := { dst := Option.some 126, op := Go.Op.move (Go.Operand.tmp 5), type := 24, pos := "law.go:87", after := #[{ on := 2, ground := Go.Ground.guard }], guard := Option.some (2, Bool.false) }) (v := ?_) rfl (by kernel_rfl) (by kernel_rfl) (by kernel_rfl) (fun _ _ _ h => h) (Or.inl ⟨by rfl, ?_⟩) (by assumption) ?_
              rotate_left
              · intro w hSw
                (try dsimp only at hSw)
                go_simp
                (try with_reducible rfl)
              (try simp only [Act.put, List.setIfInBounds_toArray, List.set_cons_zero, List.set_cons_succ])
              refine wpAnyH_take (i := 4) (oi := { dst := Option.some 127, op := Go.Op.move (Go.Operand.tmp 7), type := 28, pos := "law.go:87", after := #[{ on := 2, ground := Go.Ground.guard }], guard := Option.some (2, Bool.false) }) (v := ?_) rfl (by kernel_rfl) (by kernel_rfl) (by kernel_rfl) (fun _ _ _ h => h) (Or.inl ⟨by rfl, ?_⟩) (by assumption) ?_
              rotate_left
              · intro w hSw
                (try dsimp only at hSw)
                go_simp
                (try with_reducible rfl)
              (try simp only [Act.put, List.setIfInBounds_toArray, List.set_cons_zero, List.set_cons_succ])
              refine wpAnyH_ready (rs := [5]) (by kernel_rfl) (by simp) ?_
              refine AllReadyH.cons (o := { dst := Option.some 128, op := Go.Op.call { callee := Go.Callee.value (Go.Operand.func 16), args := #[Go.Operand.tmp 126, Go.Operand.tmp 127], argTypes := #[24, 28] }, type := 4, pos := "law.go:87", after := #[{ on := 3, ground := Go.Ground.data }, { on := 4, ground := Go.Ground.data }, { on := 2, ground := Go.Ground.chain }, { on := 2, ground := Go.Ground.guard }], guard := Option.some (2, Bool.false) }) rfl (fun K hK => ?_) AllReadyH.nil
              go_simp
              refine A4.out.mono ?_
              rintro e w5 ⟨rfl, B5⟩
              have C5 := step_trans D4 B5
              have J5 := K4.out w5 C5
              have C5 := Lib.hid C5
              clear B5
              go_wp2_with fail
              refine hK.out _ _ J5 (fun hHeld2 => ?_)
              clear hK K
              (try simp only [Act.put, List.setIfInBounds_toArray, List.set_cons_zero, List.set_cons_succ])
              refine wpAnyH_take (i := 6) (oi := { dst := Option.some 129, op := Go.Op.unOp Go.UnOp.not 4 (Go.Operand.tmp 128), type := 4, pos := "law.go:87", after := #[{ on := 5, ground := Go.Ground.data }, { on := 2, ground := Go.Ground.guard }], guard := Option.some (2, Bool.false) }) (v := ?_) rfl (by kernel_rfl) (by kernel_rfl) (by kernel_rfl) (fun _ _ _ h => h) (Or.inl ⟨by rfl, ?_⟩) (by assumption) ?_
              rotate_left
              · intro w hSw
                (try dsimp only at hSw)
                go_simp
                (try with_reducible rfl)
              (try simp only [Act.put, List.setIfInBounds_toArray, List.set_cons_zero, List.set_cons_succ])
              refine wpAnyH_take (i := 7) (oi := { dst := Option.some 130, op := Go.Op.pick (Go.Operand.tmp 125) (Go.Operand.const (Go.Value.bool Bool.true)) (Go.Operand.tmp 129), type := 4, pos := "law.go:87", after := #[{ on := 2, ground := Go.Ground.data }, { on := 6, ground := Go.Ground.data }], guard := Option.none }) (v := ?_) rfl (by kernel_rfl) (by kernel_rfl) (by kernel_rfl) (fun _ _ _ h => h) (Or.inl ⟨by rfl, ?_⟩) (by assumption) ?_
              rotate_left
              · intro w hSw
                (try dsimp only at hSw)
                go_simp
                (try with_reducible rfl)
              (try simp only [Act.put, List.setIfInBounds_toArray, List.set_cons_zero, List.set_cons_succ])
              refine wpAnyH_take (i := 8) (oi := { dst := Option.some 131, op := Go.Op.move (Go.Operand.tmp 130), type := 4, pos := "law.go:87", after := #[{ on := 7, ground := Go.Ground.data }, { on := 5, ground := Go.Ground.chain }], guard := Option.none }) (v := ?_) rfl (by kernel_rfl) (by kernel_rfl) (by kernel_rfl) (fun _ _ _ h => h) (Or.inl ⟨by rfl, ?_⟩) (by assumption) ?_
              rotate_left
              · intro w hSw
                (try dsimp only at hSw)
                go_simp
                (try with_reducible rfl)
              (try simp only [Act.put, List.setIfInBounds_toArray, List.set_cons_zero, List.set_cons_succ])
              refine wpAnyH_take (i := 9) (oi := { dst := Option.some 132, op := Go.Op.move (Go.Operand.tmp 11), type := 41, pos := "law.go:87", after := #[{ on := 8, ground := Go.Ground.guard }], guard := Option.some (8, Bool.false) }) (v := ?_) rfl (by kernel_rfl) (by kernel_rfl) (by kernel_rfl) (fun _ _ _ h => h) (Or.inl ⟨by rfl, ?_⟩) (by assumption) ?_
              rotate_left
              · intro w hSw
                (try dsimp only at hSw)
                go_simp
                (try with_reducible rfl)
              (try simp only [Act.put, List.setIfInBounds_toArray, List.set_cons_zero, List.set_cons_succ])
              refine wpAnyH_take (i := 10) (oi := { dst := Option.some 133, op := Go.Op.nilCheck (Go.Operand.tmp 132), type := 0, pos := "law.go:87", after := #[{ on := 9, ground := Go.Ground.data }, { on := 8, ground := Go.Ground.guard }], guard := Option.some (8, Bool.false) }) (v := ?_) rfl (by kernel_rfl) (by kernel_rfl) (by kernel_rfl) (fun _ _ _ h => h) (Or.inl ⟨by rfl, ?_⟩) (by assumption) ?_
              rotate_left
              · intro w hSw
                (try dsimp only at hSw)
                go_simp
                (try with_reducible rfl)
              (try simp only [Act.put, List.setIfInBounds_toArray, List.set_cons_zero, List.set_cons_succ])
              refine wpAnyH_take (i := 11) (oi := { dst := Option.some 134, op := Go.Op.fieldAddr 45 (Go.Operand.tmp 133) 1, type := 0, pos := "law.go:87", after := #[{ on := 10, ground := Go.Ground.data }, { on := 8, ground := Go.Ground.guard }], guard := Option.some (8, Bool.false) }) (v := ?_) rfl (by kernel_rfl) (by kernel_rfl) (by kernel_rfl) (fun _ _ _ h => h) (Or.inl ⟨by rfl, ?_⟩) (by assumption) ?_
              rotate_left
              · intro w hSw
                (try dsimp only at hSw)
                go_simp
                (try with_reducible rfl)
              (try simp only [Act.put, List.setIfInBounds_toArray, List.set_cons_zero, List.set_cons_succ])
              refine wpAnyH_take (i := 12) (oi := { dst := Option.some 135, op := Go.Op.load 43 (Go.Operand.tmp 134), type := 43, pos := "law.go:87", after := #[{ on := 11, ground := Go.Ground.data }, { on := 8, ground := Go.Ground.guard }], guard := Option.some (8, Bool.false) }) (v := ?_) rfl (by kernel_rfl) (by kernel_rfl) (by kernel_rfl) (fun _ _ _ h => h) (Or.inl ⟨by rfl, ?_⟩) (by assumption) ?_
              rotate_left
              · intro w hSw
                (try dsimp only at hSw)
                go_simp
                (try with_reducible rfl)
              (try simp only [Act.put, List.setIfInBounds_toArray, List.set_cons_zero, List.set_cons_succ])
              refine wpAnyH_take (i := 13) (oi := { dst := Option.some 136, op := Go.Op.binOp Go.BinOp.neq 43 (Go.Operand.tmp 135) (Go.Operand.const (Go.Value.pointer Option.none)) 43, type := 4, pos := "law.go:87", after := #[{ on := 12, ground := Go.Ground.data }, { on := 8, ground := Go.Ground.guard }], guard := Option.some (8, Bool.false) }) (v := ?_) rfl (by kernel_rfl) (by kernel_rfl) (by kernel_rfl) (fun _ _ _ h => h) (Or.inl ⟨by rfl, ?_⟩) (by assumption) ?_
              rotate_left
              · intro w hSw
                (try dsimp only at hSw)
                go_simp
                (try with_reducible rfl)
              (try simp only [Act.put, List.setIfInBounds_toArray, List.set_cons_zero, List.set_cons_succ])
              refine wpAnyH_take (i := 14) (oi := { dst := Option.some 137, op := Go.Op.move (Go.Operand.tmp 136), type := 4, pos := "law.go:87", after := #[{ on := 13, ground := Go.Ground.data }, { on := 8, ground := Go.Ground.chain }, { on := 8, ground := Go.Ground.guard }], guard := Option.some (8, Bool.false) }) (v := ?_) rfl (by kernel_rfl) (by kernel_rfl) (by kernel_rfl) (fun _ _ _ h => h) (Or.inl ⟨by rfl, ?_⟩) (by assumption) ?_
              rotate_left
              · intro w hSw
                (try dsimp only at hSw)
                go_simp
                (try with_reducible rfl)
              (try simp only [Act.put, List.setIfInBounds_toArray, List.set_cons_zero, List.set_cons_succ])
              refine wpAnyH_take (i := 15) (oi := { dst := Option.some 138, op := Go.Op.move (Go.Operand.tmp 11), type := 41, pos := "law.go:87", after := #[{ on := 14, ground := Go.Ground.guard }], guard := Option.some (14, Bool.true) }) (v := undef) rfl (by kernel_rfl) (by kernel_rfl) (by kernel_rfl) (fun _ _ _ h => h) (Or.inr ⟨by rfl, rfl⟩) (by assumption) ?_
              (try simp only [Act.put, List.setIfInBounds_toArray, List.set_cons_zero, List.set_cons_succ])
              refine wpAnyH_take (i := 16) (oi := { dst := Option.some 139, op := Go.Op.nilCheck (Go.Operand.tmp 138), type := 0, pos := "law.go:87", after := #[{ on := 15, ground := Go.Ground.data }, { on := 14, ground := Go.Ground.guard }], guard := Option.some (14, Bool.true) }) (v := undef) rfl (by kernel_rfl) (by kernel_rfl) (by kernel_rfl) (fun _ _ _ h => h) (Or.inr ⟨by rfl, rfl⟩) (by assumption) ?_
              (try simp only [Act.put, List.setIfInBounds_toArray, List.set_cons_zero, List.set_cons_succ])
              refine wpAnyH_take (i := 17) (oi := { dst := Option.some 140, op := Go.Op.fieldAddr 45 (Go.Operand.tmp 139) 0, type := 0, pos := "law.go:87", after := #[{ on := 16, ground := Go.Ground.data }, { on := 14, ground := Go.Ground.guard }], guard := Option.some (14, Bool.true) }) (v := undef) rfl (by kernel_rfl) (by kernel_rfl) (by kernel_rfl) (fun _ _ _ h => h) (Or.inr ⟨by rfl, rfl⟩) (by assumption) ?_
              (try simp only [Act.put, List.setIfInBounds_toArray, List.set_cons_zero, List.set_cons_succ])
              refine wpAnyH_take (i := 18) (oi := { dst := Option.some 141, op := Go.Op.load 42 (Go.Operand.tmp 140), type := 42, pos := "law.go:87", after := #[{ on := 17, ground := Go.Ground.data }, { on := 14, ground := Go.Ground.guard }], guard := Option.some (14, Bool.true) }) (v := undef) rfl (by kernel_rfl) (by kernel_rfl) (by kernel_rfl) (fun _ _ _ h => h) (Or.inr ⟨by rfl, rfl⟩) (by assumption) ?_
              (try simp only [Act.put, List.setIfInBounds_toArray, List.set_cons_zero, List.set_cons_succ])
              refine wpAnyH_take (i := 19) (oi := { dst := Option.some 142, op := Go.Op.call { callee := Go.Callee.value (Go.Operand.func 17), args := #[Go.Operand.tmp 141], argTypes := #[42] }, type := 36, pos := "law.go:87", after := #[{ on := 18, ground := Go.Ground.data }, { on := 14, ground := Go.Ground.chain }, { on := 14, ground := Go.Ground.guard }], guard := Option.some (14, Bool.true) }) (v := undef) rfl (by kernel_rfl) (by kernel_rfl) (by kernel_rfl) (fun _ _ _ h => h) (Or.inr ⟨by rfl, rfl⟩) (by assumption) ?_
              (try simp only [Act.put, List.setIfInBounds_toArray, List.set_cons_zero, List.set_cons_succ])
              refine wpAnyH_take (i := 20) (oi := { dst := Option.some 143, op := Go.Op.move (Go.Operand.tmp 11), type := 41, pos := "law.go:87", after := #[{ on := 14, ground := Go.Ground.guard }], guard := Option.some (14, Bool.true) }) (v := undef) rfl (by kernel_rfl) (by kernel_rfl) (by kernel_rfl) (fun _ _ _ h => h) (Or.inr ⟨by rfl, rfl⟩) (by assumption) ?_
              (try simp only [Act.put, List.setIfInBounds_toArray, List.set_cons_zero, List.set_cons_succ])
              refine wpAnyH_take (i := 21) (oi := { dst := Option.some 144, op := Go.Op.nilCheck (Go.Operand.tmp 143), type := 0, pos := "law.go:87", after := #[{ on := 20, ground := Go.Ground.data }, { on := 14, ground := Go.Ground.guard }], guard := Option.some (14, Bool.true) }) (v := undef) rfl (by kernel_rfl) (by kernel_rfl) (by kernel_rfl) (fun _ _ _ h => h) (Or.inr ⟨by rfl, rfl⟩) (by assumption) ?_
              (try simp only [Act.put, List.setIfInBounds_toArray, List.set_cons_zero, List.set_cons_succ])
              refine wpAnyH_take (i := 22) (oi := { dst := Option.some 145, op := Go.Op.fieldAddr 45 (Go.Operand.tmp 144) 1, type := 0, pos := "law.go:87", after := #[{ on := 21, ground := Go.Ground.data }, { on := 14, ground := Go.Ground.guard }], guard := Option.some (14, Bool.true) }) (v := undef) rfl (by kernel_rfl) (by kernel_rfl) (by kernel_rfl) (fun _ _ _ h => h) (Or.inr ⟨by rfl, rfl⟩) (by assumption) ?_
              (try simp only [Act.put, List.setIfInBounds_toArray, List.set_cons_zero, List.set_cons_succ])
              refine wpAnyH_take (i := 23) (oi := { dst := Option.some 146, op := Go.Op.load 43 (Go.Operand.tmp 145), type := 43, pos := "law.go:87", after := #[{ on := 22, ground := Go.Ground.data }, { on := 14, ground := Go.Ground.guard }], guard := Option.some (14, Bool.true) }) (v := undef) rfl (by kernel_rfl) (by kernel_rfl) (by kernel_rfl) (fun _ _ _ h => h) (Or.inr ⟨by rfl, rfl⟩) (by assumption) ?_
              (try simp only [Act.put, List.setIfInBounds_toArray, List.set_cons_zero, List.set_cons_succ])
              refine wpAnyH_take (i := 24) (oi := { dst := Option.some 147, op := Go.Op.nilCheck (Go.Operand.tmp 146), type := 0, pos := "law.go:87", after := #[{ on := 23, ground := Go.Ground.data }, { on := 14, ground := Go.Ground.guard }], guard := Option.some (14, Bool.true) }) (v := undef) rfl (by kernel_rfl) (by kernel_rfl) (by kernel_rfl) (fun _ _ _ h => h) (Or.inr ⟨by rfl, rfl⟩) (by assumption) ?_
              (try simp only [Act.put, List.setIfInBounds_toArray, List.set_cons_zero, List.set_cons_succ])
              refine wpAnyH_take (i := 25) (oi := { dst := Option.some 148, op := Go.Op.fieldAddr 56 (Go.Operand.tmp 147) 2, type := 0, pos := "law.go:87", after := #[{ on := 24, ground := Go.Ground.data }, { on := 14, ground := Go.Ground.guard }], guard := Option.some (14, Bool.true) }) (v := undef) rfl (by kernel_rfl) (by kernel_rfl) (by kernel_rfl) (fun _ _ _ h => h) (Or.inr ⟨by rfl, rfl⟩) (by assumption) ?_
              (try simp only [Act.put, List.setIfInBounds_toArray, List.set_cons_zero, List.set_cons_succ])
              refine wpAnyH_take (i := 26) (oi := { dst := Option.some 149, op := Go.Op.load 36 (Go.Operand.tmp 148), type := 36, pos := "law.go:87", after := #[{ on := 25, ground := Go.Ground.data }, { on := 14, ground := Go.Ground.guard }], guard := Option.some (14, Bool.true) }) (v := undef) rfl (by kernel_rfl) (by kernel_rfl) (by kernel_rfl) (fun _ _ _ h => h) (Or.inr ⟨by rfl, rfl⟩) (by assumption) ?_
              (try simp only [Act.put, List.setIfInBounds_toArray, List.set_cons_zero, List.set_cons_succ])
              refine wpAnyH_take (i := 27) (oi := { dst := Option.some 150, op := Go.Op.binOp Go.BinOp.neq 36 (Go.Operand.tmp 142) (Go.Operand.tmp 149) 36, type := 4, pos := "law.go:87", after := #[{ on := 19, ground := Go.Ground.data }, { on := 26, ground := Go.Ground.data }, { on := 14, ground := Go.Ground.guard }], guard := Option.some (14, Bool.true) }) (v := undef) rfl (by kernel_rfl) (by kernel_rfl) (by kernel_rfl) (fun _ _ _ h => h) (Or.inr ⟨by rfl, rfl⟩) (by assumption) ?_
              (try simp only [Act.put, List.setIfInBounds_toArray, List.set_cons_zero, List.set_cons_succ])
              refine wpAnyH_take (i := 28) (oi := { dst := Option.some 151, op := Go.Op.pick (Go.Operand.tmp 137) (Go.Operand.tmp 150) (Go.Operand.const (Go.Value.bool Bool.false)), type := 4, pos := "law.go:87", after := #[{ on := 14, ground := Go.Ground.data }, { on := 27, ground := Go.Ground.data }, { on := 8, ground := Go.Ground.guard }], guard := Option.some (8, Bool.false) }) (v := ?_) rfl (by kernel_rfl) (by kernel_rfl) (by kernel_rfl) (fun _ _ _ h => h) (Or.inl ⟨by rfl, ?_⟩) (by assumption) ?_
              rotate_left
              · intro w hSw
                (try dsimp only at hSw)
                go_simp
                (try with_reducible rfl)
              (try simp only [Act.put, List.setIfInBounds_toArray, List.set_cons_zero, List.set_cons_succ])
              refine wpAnyH_take (i := 29) (oi := { dst := Option.some 152, op := Go.Op.pick (Go.Operand.tmp 131) (Go.Operand.const (Go.Value.bool Bool.true)) (Go.Operand.tmp 151), type := 4, pos := "law.go:87", after := #[{ on := 8, ground := Go.Ground.data }, { on := 28, ground := Go.Ground.data }], guard := Option.none }) (v := ?_) rfl (by kernel_rfl) (by kernel_rfl) (by kernel_rfl) (fun _ _ _ h => h) (Or.inl ⟨by rfl, ?_⟩) (by assumption) ?_
              rotate_left
              · intro w hSw
                (try dsimp only at hSw)
                go_simp
                (try with_reducible rfl)
              (try simp only [Act.put, List.setIfInBounds_toArray, List.set_cons_zero, List.set_cons_succ])
              refine wpAnyH_done (by kernel_rfl) ?_ _
              go_wp2
              go_roundw
              case rel => exact ⟨i + 1, F4, G4, T, none, by go_num, by omega, E4.out _ C5.out⟩
              case measure => simp [hNat]; omega
          · obtain rfl : i = k := by omega
            have hB := Lib.hid inv.below
            have zw := zw wr (HT.out.below inv.below (Nat.le_refl _))
            clear inv
            go_wp2_with (go_at_call 8; refine zw.mono ?_; (rintro e w5 ⟨rfl, B5⟩))
            go_ret
            exact ⟨rfl, step_trans hB.out B5⟩
end Go.Proofs.YtcahpodmcklnbaaGreatDoor
