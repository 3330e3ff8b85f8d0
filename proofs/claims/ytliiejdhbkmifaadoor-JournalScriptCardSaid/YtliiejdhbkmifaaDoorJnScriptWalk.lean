/-
  The walk of JournalScript. Conditions: the table of crc lies as the program's text lays it; what came in can be read.
-/
import Derived.Test.YtliiejdhbkmifaaDoorJaActs
import Derived.Test.YtliiejdhbkmifaaDoorMi
import Derived.Test.YtliiejdhbkmifaaDoorJnAwake
import Derived.Test.YtliiejdhbkmifaaDoorJnRefDisk
import Derived.Test.YtliiejdhbkmifaaDoorJo
import Derived.Test.YtliiejdhbkmifaaDoorBa
namespace Go.Proofs.YtliiejdhbkmifaaDoor
open Go.RowKit Fix

set_option maxRecDepth 100000 in
set_option maxHeartbeats 16000000 in
theorem script_any (x0 : Int) (A0 : Option Addr) (ms : List JaM) (c0 : Nat) (w : World) (hx : -9223372036854775808 ≤ x0 ∧ x0 ≤ 9223372036854775807) (ht : TabAt w) (hA : JasAt w w.heap.size A0 ms) (hms : ms.length ≤ 9223372036854775807) :
    Calls Tryd.prog 4 #[.int .i64 x0, .slice A0 ms.length c0] w fun e w' => e = .returned (.bool true) ∧ Below w.heap.size w w' := by
  obtain ⟨s, hs⟩ : ∃ s : Nat, (s : Int) = 1 + x0 % 8 := ⟨(1 + x0 % 8).toNat, by omega⟩
  have hs1 : 1 ≤ s := by omega
  have hs2 : s ≤ 1024 := by omega
  have zp := fun w : World => pick_any x0 8 w hx.1 hx.2 (by decide) (by decide)
  have hw0 : IntKind.i64.wrap (1 + x0 % 8) = (s : Int) := by rw [hs, IntWalk.i64_in _ (by omega)]
  have zn := fun w : World => disks.new_yes s w hs1 hs2
  have zm := fun w : World => mNew s w hs1 hs2
  have zw := fun w t => awake_any disks w t
  obtain ⟨n, hn⟩ : ∃ n, n = ms.length := ⟨_, rfl⟩
  rw [← hn] at hms ⊢
  have HA := Lib.hid (And.intro hA hn)
  have HT := Lib.hid ht
  have HTB := Lib.hid (fun (w' : World) (hb : Below w.heap.size w w') => ht.below hb (Nat.le_refl _))
  obtain ⟨q, hq⟩ : ∃ q, q = x0 % 8 := ⟨_, rfl⟩
  rw [← hq] at zp hw0
  clear hA hn ht hs hs1 hs2 hx hq
  go_enter Tryd.func4, Tryd.ntmps4
  go_wp2_with (first
    | (go_at_call 20; refine (zp w).mono ?_; (rintro e w1 ⟨rfl, rfl⟩))
    | (go_at_call 21; refine (zn w).mono ?_; (rintro e w2 ⟨b, F0, rfl, h2, hF2, B2⟩))
    | (go_at_call 22; refine (zm w2).mono ?_; (rintro e w3 ⟨c, G0, rfl, h3, hG3, B3⟩)))
  have I0 : MsInv w w3 b c 0 F0 G0 (DS.fresh s) := ⟨⟨At_step disks h2 B3, h3, fun k h1 h2' => by have := disks.lt _ _ _ _ h2 k h1; have := hG3 k h2'; omega⟩, hF2, fun k hk => Nat.le_trans B2.size (hG3 k hk), step_trans B2 B3, Nat.zero_le _⟩
  replace I0 := Lib.hid I0
  clear h2 hF2 B2 h3 hG3 B3 zn zm zp hw0
  obtain ⟨i5, z5, p1, p2, p3, p4, p5⟩ := actInfo
  go_loopw [9, 10] (fun lv ix wr => ∃ k : Nat, k ≤ n ∧ k ≤ 61 ∧ ix = .int .i64 ((k : Nat) : Int) ∧ wr.ownsRow w3.heap.size 47 6 lv k (((ms.map JaM.h).take k).flatMap haCells) ∧ Below w3.heap.size w3 wr) (fun _ ix _ => 62 - hNat ix)
  case atStart => exact ⟨0, Nat.zero_le _, Nat.zero_le _, rfl, World.ownsRow_nil _ _ _ _, Below.refl _ _⟩
  case round =>
    obtain ⟨k, hk, hk2, rfl, hown, hB⟩ := hrel
    by_cases hlt : k < n
    · by_cases h61 : k < 61
      · obtain ⟨m, hm⟩ : ∃ m, ms[k]? = some m := ⟨_, List.getElem?_eq_getElem (by rw [← HA.out.2]; exact hlt)⟩
        obtain ⟨ad, rfl, y0, y1, y2, y3, y4, y5, _, _, y8⟩ := ja_at HA.out.1 (step_trans I0.out.below hB) hm
        have hlt' : (k : Int) < (n : Int) := by omega
        have h61' : (k : Int) < 61 := by omega
        have hw1 : IntKind.i64.wrap ((k : Int) + 1) = (k : Int) + 1 := IntWalk.i64_in _ (by omega)
        have hl := hown.lt
        have HK := Lib.hid (And.intro hm (And.intro hB hl))
        clear hm hB hl hk hk2
        by_cases h100 : 100 < m.e.d.length
        · have i1 : (100 : Int) < (m.e.d.length : Int) := by omega
          clear h100 hown
          go_wp2_with (go_at_call 19; refine (zw wr (HTB.out wr (step_trans I0.out.below HK.out.2.1))).mono ?_; (rintro e w5 ⟨rfl, B5⟩))
          go_ret
          exact ⟨rfl, step_trans (step_trans I0.out.below HK.out.2.1) B5⟩
        · have i1 : ¬ (100 : Int) < (m.e.d.length : Int) := by omega
          clear h100
          go_wp2_with (at_builtin; go_loud (refine wpList_append_own _ rfl (.tmp 56) (.tmp 62) 44 rfl w3.heap.size 47 i5 z5 6 80 Tryd.underlying44 p1 p2 p3 p4 p5 (by decide) _ k _ rfl (hown.alloc _) ⟨wr.heap.size, 0, none⟩ 1 1 (haCells m.h) rfl rfl ?c1 ?c2 ?c3 ?c4 ?c5 ?_); rotate_left 5; (intro v' w' hown' hg hat))
          · go_roundw
            case rel =>
              refine ⟨k + 1, by omega, by omega, by go_num, ?_, ?_⟩
              · rw [flat_succ haCells (k := k) (x := m.h) (by rw [List.getElem?_map, HK.out.1]; rfl)]
                exact hown'
              · exact (HK.out.2.1.alloc HK.out.2.1.size _).grown hg (by have := HK.out.2.1.size; simp; omega) (fun j hj => (HK.out.2.2 j hj).1)
            case measure => simp [hNat]; omega
          case c1 => first | exact fun j u hu => (BlkR.new wr (haCells m.h) 47).add_cell hu | exact fun j u hu => hu
          case c2 => exact ha_one m.h
          case c3 => unfold maxLen; omega
          case c4 => omega
          case c5 => have := HK.out.2.1.size; simp; omega
      · obtain rfl : k = 61 := by omega
        have hlt' : ((61 : Nat) : Int) < (n : Int) := by omega
        obtain ⟨A5, c5, rfl, hrun⟩ := owns_run_k (hs := (ms.map JaM.h).take 61) (by rw [List.length_take, List.length_map, ← HA.out.2]; omega) hown
        have zL := haLong_k wr A5 ((ms.map JaM.h).take 61) 61 c5 (by rw [List.length_take, List.length_map, ← HA.out.2]; omega) hrun (by decide)
        have HK := Lib.hid hB
        clear hown hrun hB
        go_wp2_with fail
        refine zL.mono ?_
        rintro e w4 ⟨r, rfl, rfl, hr⟩
        cases r with
        | false => exact absurd (hr rfl).1 (by rw [List.length_take, List.length_map, ← HA.out.2]; omega)
        | true =>
          clear hr
          go_wp2_with (go_at_call 19; refine (zw wr (HTB.out wr (step_trans I0.out.below HK.out))).mono ?_; (rintro e w5 ⟨rfl, B5⟩))
          go_ret
          exact ⟨rfl, step_trans (step_trans I0.out.below HK.out) B5⟩
    · obtain rfl : k = n := by omega
      have e6 : (ms.map JaM.h).take k = ms.map JaM.h := List.take_of_length_le (by rw [List.length_map, ← HA.out.2]; exact Nat.le_refl _)
      rw [e6] at hown
      obtain ⟨A5, c5, rfl, hrun⟩ := owns_run_k (hs := ms.map JaM.h) (by rw [List.length_map, ← HA.out.2]) hown
      have zL := haLong_k wr A5 (ms.map JaM.h) k c5 (by rw [List.length_map, ← HA.out.2]) hrun hms
      have I1 : MsInv w wr b c 0 F0 G0 (DS.fresh s) := ⟨I0.out.two.step disks hB, I0.out.farF, I0.out.farG, step_trans I0.out.below hB, Nat.zero_le _⟩
      replace I1 := Lib.hid I1
      clear hown hrun hB e6 I0
      go_wp2_with fail
      refine zL.mono ?_
      rintro e w4 ⟨r, rfl, rfl, hr⟩
      cases r with
      | true =>
        clear hr
        go_wp2_with (go_at_call 19; refine (zw wr (HTB.out wr I1.out.below)).mono ?_; (rintro e w5 ⟨rfl, B5⟩))
        go_ret
        exact ⟨rfl, step_trans I1.out.below B5⟩
      | false =>
        have HL : Hid (k ≤ 60 ∧ ∀ m, m ∈ ms → m.h.b.length ≤ 100 ∧ m.h.keeps.length ≤ 30) := Lib.hid ⟨by have := (hr rfl).1; rw [List.length_map, ← HA.out.2] at this; exact this, fun m hm => (hr rfl).2 m.h (List.mem_map_of_mem hm)⟩
        clear hr zL p1 p2 p3 p4 p5 hk2
        go_wp2
        go_loopw [11] (fun ix wr => ∃ (i : Nat) (F G : Nat → Prop) (S : DS), ix = .int .i64 ((i : Nat) : Int) ∧ i ≤ k ∧ MsInv w wr b c i F G S) (fun ix _ => k - hNat ix)
        case atStart => exact ⟨0, F0, G0, _, rfl, Nat.zero_le _, I1.out⟩
        case round =>
          obtain ⟨i, F, G, S, rfl, hi, inv⟩ := hrel
          clear I1
          by_cases hlt : i < k
          · obtain ⟨m, hm⟩ : ∃ m, ms[i]? = some m := ⟨_, List.getElem?_eq_getElem (by rw [← HA.out.2]; exact hlt)⟩
            have hmem := List.mem_of_getElem? hm
            obtain ⟨ad, rfl, y0, y1, y2, y3, y4, y5, y6, y7, y8⟩ := ja_at HA.out.1 inv.below hm
            have hlt' : (i : Int) < (k : Int) := by omega
            have hw1 : IntKind.i64.wrap ((i : Int) + 1) = (i : Int) + 1 := IntWalk.i64_in _ (by omega)
            have hok := inv.ok (HA.out.1.in_ m hmem) (HL.out.2 m hmem).1 (HL.out.2 m hmem).2
            have hO : S.ops ≤ 900000 := by have := inv.ops; have := HL.out.1; omega
            have hE := inv.ent (HA.out.1.ein m hmem)
            have HI := Lib.hid (And.intro inv (And.intro hok (And.intro hO hE)))
            have G2 := Lib.hid (fun (w2 : World) (B : Below wr.heap.size wr w2) (hx : BlkR 49 w2 wr.heap.size (jaCells m)) => HaAt.start (inv.two.step disks B) hx (fun hk => Nat.lt_irrefl _ ((inv.two.lt disks).1 _ hk)) (fun hk => Nat.lt_irrefl _ ((inv.two.lt disks).2 _ hk)))
            clear hm hmem inv hok hE
            by_cases h7 : m.h.kind = 7
            · have t7 : (m.h.kind == 7) = true := by simpa using h7
              clear h7
              go_wp2_with (first
                | ((with_reducible refine atWorld wr ?_); refine wpList_allocRow (w := wr) jaTy rfl rfl ?_; (intro w1 b1 B1 s1; have b1 := Lib.hid b1))
                | ((with_reducible refine atWorld w1 ?_); refine wpList_storeRow (w := w1) jaTy rfl (.tmp 12) (.tmp 76) rfl wr.heap.size (jaCells m) jaZ rfl rfl rfl rfl (ja_one m) b1.out ?_; (intro w2 b2 B2 s2 k2; have B12 : Below wr.heap.size wr w2 := B1.trans B2; obtain ⟨e0, e2, e4, e6, e7, e8⟩ := ja_cells b2; have M2 := Lib.hid (G2.out w2 B12 b2); clear b1 B1 s1 b2 B2 s2 k2)))
              have M1 := M2.out.step disks ((Below.refl _ w2).drew)
              have C1 : w2.drew.cell? ⟨wr.heap.size, 2, none⟩ = some (.int .i64 m.h.at_) ∧ w2.drew.cell? ⟨wr.heap.size, 6, none⟩ = some (.int .i64 m.e.b) ∧ w2.drew.cell? ⟨wr.heap.size, 7, none⟩ = some (.int .i64 m.e.n) ∧ w2.drew.cell? ⟨wr.heap.size, 8, none⟩ = some (.slice m.A m.e.d.length m.c) := ⟨M1.x.cell rfl, M1.x.cell rfl, M1.x.cell rfl, M1.x.cell rfl⟩
              have t1 := HI.out.1.tab HT.out B12 M1
              have hx2 := And.intro (HI.out.2.2.2.1.step B12) HI.out.2.2.2.2
              have rr := (M1.bytes hx2.1 hx2.2).1
              have z3 := journalWrite_any disks w2.drew b F S m.h.at_ m.e m.A m.c t1 M1.d (by omega) rr
              have z4 := fun w3 h hr => mJnWrite w3 c G S m.h.at_ m.e m.A m.c h (by omega) hr
              unfold ChgPost entL at z3 z4
              clear rr
              have hops : (Jn.write S m.h.at_ m.e).1.ops ≤ S.ops + 4 := Nat.le_trans (jn_ops S m.h.at_ m.e) (by omega)
              obtain ⟨T, hT⟩ : ∃ T, T = (Jn.write S m.h.at_ m.e).1 := ⟨_, rfl⟩
              obtain ⟨r, hr⟩ : ∃ r, r = (Jn.write S m.h.at_ m.e).2 := ⟨_, rfl⟩
              rw [← hT] at hops
              rw [← hT, ← hr] at z3 z4
              have HH := Lib.hid (And.intro hops hx2)
              have M1 := Lib.hid M1
              clear hT hr t1 hops hx2 M2 e0 e2 e4 e6 e7 e8
              go_region_held3 (fun w' => w'.cell? ⟨wr.heap.size, 2, none⟩ = some (.int .i64 m.h.at_) ∧ w'.cell? ⟨wr.heap.size, 6, none⟩ = some (.int .i64 m.e.b) ∧ w'.cell? ⟨wr.heap.size, 7, none⟩ = some (.int .i64 m.e.n) ∧ w'.cell? ⟨wr.heap.size, 8, none⟩ = some (.slice m.A m.e.d.length m.c)) (first | assumption) (first
                | (go_at_call 24; refine z3.mono ?_; (rintro e w3 ⟨F3, rfl, d3, o3, f3⟩; have M3 := M1.out.chgD d3 o3 f3; have d3 := M3.m; have C3 : w3.cell? ⟨wr.heap.size, 2, none⟩ = some (.int .i64 m.h.at_) ∧ w3.cell? ⟨wr.heap.size, 6, none⟩ = some (.int .i64 m.e.b) ∧ w3.cell? ⟨wr.heap.size, 7, none⟩ = some (.int .i64 m.e.n) ∧ w3.cell? ⟨wr.heap.size, 8, none⟩ = some (.slice m.A m.e.d.length m.c) := ⟨M3.x.cell rfl, M3.x.cell rfl, M3.x.cell rfl, M3.x.cell rfl⟩; have r3 := (M3.bytes HH.out.2.1 HH.out.2.2).1; have M3 := Lib.hid M3; clear o3 f3))
                | (go_at_call 25; refine (z4 w3 d3 r3).mono ?_; (rintro e w4 ⟨G4, rfl, m4, o4, f4⟩; have M4 := M3.out.chgM disks m4 o4 f4; have C4 : w4.cell? ⟨wr.heap.size, 2, none⟩ = some (.int .i64 m.h.at_) ∧ w4.cell? ⟨wr.heap.size, 6, none⟩ = some (.int .i64 m.e.b) ∧ w4.cell? ⟨wr.heap.size, 7, none⟩ = some (.int .i64 m.e.n) ∧ w4.cell? ⟨wr.heap.size, 8, none⟩ = some (.slice m.A m.e.d.length m.c) := ⟨M4.x.cell rfl, M4.x.cell rfl, M4.x.cell rfl, M4.x.cell rfl⟩; have M4 := Lib.hid M4; clear m4 o4 f4)))
              have ho4 : T.ops ≤ S.ops + 4 := HH.out.1
              go_wp2_with (go_at_call 29; refine (haAlike_any disks w4 b c F3 G4 T ⟨M4.out.d, M4.out.m, M4.out.ap⟩ (by have := HI.out.2.2.1; omega)).mono ?_; (rintro e w9 ⟨rfl, B9⟩))
              go_roundw
              case rel => exact ⟨i + 1, F3, G4, T, by go_num, by omega, HI.out.1.next B12 ⟨M4.out.d, M4.out.m, M4.out.ap⟩ M4.out.of_ M4.out.og M4.out.fr HH.out.1 B9⟩
              case measure => simp [hNat]; omega
            have t7 : (m.h.kind == 7) = false := by simpa using h7
            clear h7
            by_cases h8 : m.h.kind = 8
            · have t8 : (m.h.kind == 8) = true := by simpa using h8
              clear h8
              obtain ⟨V, hV⟩ : ∃ V, V = Jn.lastV S m.h.at_ := ⟨_, rfl⟩
              obtain ⟨E, hE⟩ : ∃ E, E = Jn.lastE S m.h.at_ := ⟨_, rfl⟩
              have zl := fun w t h => journalLast_any disks w b F S m.h.at_ t h
              have zr := fun w h => mJnLast w c G S m.h.at_ h
              unfold JlPost at zl
              unfold JrlPost at zr
              rw [← hV, ← hE] at zl zr
              have zs := fun A1 c1 A2 c2 w h h' => sameEntry_any V A1 c1 V A2 c2 w h h'
              rw [Jn.same_self] at zs
              clear hV hE
              go_wp2_with (first
                | ((with_reducible refine atWorld wr ?_); refine wpList_allocRow (w := wr) jaTy rfl rfl ?_; (intro w1 b1 B1 s1; have b1 := Lib.hid b1))
                | ((with_reducible refine atWorld w1 ?_); refine wpList_storeRow (w := w1) jaTy rfl (.tmp 12) (.tmp 76) rfl wr.heap.size (jaCells m) jaZ rfl rfl rfl rfl (ja_one m) b1.out ?_; (intro w2 b2 B2 s2 k2; have B12 : Below wr.heap.size wr w2 := B1.trans B2; obtain ⟨e0, e2, e4, e6, e7, e8⟩ := ja_cells b2; have M2 := Lib.hid (G2.out w2 B12 b2); have t2 := HI.out.1.tab HT.out B12 M2.out; have d2 := M2.out.d; clear b1 B1 s1 b2 B2 s2 k2))
                | (go_at_call 26; refine (zl w2 t2 d2).mono ?_; (rintro e w3 ⟨A3, c3, rfl, _, o3, B3⟩; have M3 := Lib.hid (M2.out.step disks B3); have r3 := Lib.hid o3.bytes))
                | ((with_reducible refine atWorld w3 ?_); refine wpList_allocRow (w := w3) entTy rfl rfl ?_; (intro w4 b4 B4 s4; have b4 := Lib.hid b4))
                | ((with_reducible refine atWorld w4 ?_); refine wpList_storeRow (w := w4) entTy rfl (.tmp 14) (.tmp 110) rfl w3.heap.size (entL V A3 c3) entZ rfl rfl rfl rfl (ent_one _ _ _) b4.out ?_; (intro w5 b5 B5 s5 k5; have C5 : Below w3.heap.size w3 w5 := B4.trans B5; have M5 := M3.out.step disks C5; have m5 := M5.m; have e52 := M5.x.cell (k := 2) rfl; have M5 := Lib.hid M5; have r5 := Lib.hid (r3.out.step C5); have b5 := Lib.hid b5; clear B4 s4 b4 B5 s5 k5))
                | (go_at_call 27; refine (zr w5 m5).mono ?_; (rintro e w6 ⟨A6, c6, rfl, r6, B6⟩; have M6 := Lib.hid (M5.out.step disks B6); have b6 := Lib.hid (b5.out.step B6); have r56 := Lib.hid (r5.out.step B6); have r6 := Lib.hid r6))
                | ((with_reducible refine atWorld w6 ?_); refine wpList_allocRow (w := w6) entTy rfl rfl ?_; (intro w7 b7 B7 s7; have b7 := Lib.hid b7))
                | ((with_reducible refine atWorld w7 ?_); refine wpList_storeRow (w := w7) entTy rfl (.tmp 16) (.tmp 118) rfl w6.heap.size (entL V A6 c6) entZ rfl rfl rfl rfl (ent_one _ _ _) b7.out ?_; (intro w8 b8 B8 s8 k8; have C8 : Below w6.heap.size w6 w8 := B7.trans B8; have M8 := Lib.hid (M6.out.step disks C8); have b68 := Lib.hid (b6.out.step C8); have r8 := r56.out.step C8; have q8 := r6.out.step C8; have b8 := Lib.hid b8; clear B7 s7 b7 B8 s8 k8))
                | ((with_reducible refine atWorld w8 ?_); first
                  | refine wpList_loadRow (w := w8) entTy rfl (.tmp 14) rfl w3.heap.size 0 (entL V A3 c3) rfl rfl (rangeOf b68.out) ?_
                  | refine wpList_loadRow (w := w8) entTy rfl (.tmp 16) rfl w6.heap.size 0 (entL V A6 c6) rfl rfl (rangeOf b8.out) ?_)
                | (go_at_call 16; refine (zs A3 c3 A6 c6 w8 r8 q8).mono ?_; (rintro e w8' ⟨rfl, B8'⟩; have M9 := Lib.hid (M8.out.step disks B8')))
                | (go_at_call 29; refine (haAlike_any disks w8' b c F G S ⟨M9.out.d, M9.out.m, M9.out.ap⟩ (by have := HI.out.2.2.1; omega)).mono ?_; (rintro e w9 ⟨rfl, B9⟩)))
              go_roundw
              case rel => exact ⟨i + 1, F, G, S, by go_num, by omega, HI.out.1.next B12 ⟨M9.out.d, M9.out.m, M9.out.ap⟩ M9.out.of_ M9.out.og M9.out.fr (Nat.le_add_right _ _) B9⟩
              case measure => simp [hNat]; omega
            have t8 : (m.h.kind == 8) = false := by simpa using h8
            clear h8
            have zh := fun w h hx => harm_any disks w b c F G S m.h h hO hx
            go_wp2_with (first
              | ((with_reducible refine atWorld wr ?_); refine wpList_allocRow (w := wr) jaTy rfl rfl ?_; (intro w1 b1 B1 s1; have b1 := Lib.hid b1))
              | ((with_reducible refine atWorld w1 ?_); refine wpList_storeRow (w := w1) jaTy rfl (.tmp 12) (.tmp 76) rfl wr.heap.size (jaCells m) jaZ rfl rfl rfl rfl (ja_one m) b1.out ?_; (intro w2 b2 B2 s2 k2; have B12 : Below wr.heap.size wr w2 := B1.trans B2; obtain ⟨e0, e2, e4, e6, e7, e8⟩ := ja_cells b2; have M2 := Lib.hid (G2.out w2 B12 b2); have b2 := Lib.hid b2; clear b1 B1 s1 B2 s2 k2))
              | ((with_reducible refine atWorld w2 ?_); refine wpList_loadRow (w := w2) haTy rfl (.tmp 82) rfl wr.heap.size 0 (haCells m.h) rfl rfl (rangeMid b2.out (k := 0) (n := 6) rfl) ?_)
              | (go_at_call 28; refine (zh w2 ⟨M2.out.d, M2.out.m, M2.out.ap⟩ (HI.out.2.1.step B12)).mono ?_; (rintro e w4 ⟨T, F3, G4, rfl, two4, ho4, o3, o4, f4⟩; have HT4 := Lib.hid (And.intro two4 (And.intro ho4 (And.intro o3 (And.intro o4 f4)))); clear two4 o3 o4 f4))
              | (go_at_call 29; refine (haAlike_any disks w4 b c F3 G4 T HT4.out.1 (by have := HI.out.2.2.1; omega)).mono ?_; (rintro e w9 ⟨rfl, B9⟩)))
            go_roundw
            case rel => exact ⟨i + 1, F3, G4, T, by go_num, by omega, HI.out.1.next B12 HT4.out.1 HT4.out.2.2.1 HT4.out.2.2.2.1 HT4.out.2.2.2.2 HT4.out.2.1 B9⟩
            case measure => simp [hNat]; omega
          · obtain rfl : i = k := by omega
            have hB := Lib.hid inv.below
            clear inv
            go_wp2_with (go_at_call 19; refine (zw wr (HTB.out wr hB.out)).mono ?_; (rintro e w5 ⟨rfl, B5⟩))
            go_ret
            exact ⟨rfl, step_trans hB.out B5⟩
end Go.Proofs.YtliiejdhbkmifaaDoor
