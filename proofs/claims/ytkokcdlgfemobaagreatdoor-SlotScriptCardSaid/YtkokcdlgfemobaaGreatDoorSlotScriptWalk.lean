/-
  The walk of SlotScript. Conditions: the table of crc lies as the program's text lays it; what came in can be read.
-/
import Derived.Test.YtkokcdlgfemobaaGreatDoorSsActs
import Derived.Test.YtkokcdlgfemobaaGreatDoorMirNew
import Derived.Test.YtkokcdlgfemobaaGreatDoorSlotSave
import Derived.Test.YtkokcdlgfemobaaGreatDoorSlAwake
import Derived.Test.YtkokcdlgfemobaaGreatDoorBa
namespace Go.Proofs.YtkokcdlgfemobaaGreatDoor
open Go.RowKit Fix

set_option maxRecDepth 100000 in
set_option maxHeartbeats 16000000 in
theorem script_any (x0 : Int) (A0 : Option Addr) (ms : List HaM) (c0 : Nat) (w : World) (hx : -9223372036854775808 ≤ x0 ∧ x0 ≤ 9223372036854775807) (ht : TabAt w) (hA : SasAt w w.heap.size A0 ms) (hms : ms.length ≤ 9223372036854775807) :
    Calls Tryz.prog 3 #[.int .i64 x0, .slice A0 ms.length c0] w fun e w' => e = .returned (.bool true) ∧ Below w.heap.size w w' := by
  obtain ⟨s, hs⟩ : ∃ s : Nat, (s : Int) = 1 + x0 % 8 := ⟨(1 + x0 % 8).toNat, by omega⟩
  have hs1 : 1 ≤ s := by omega
  have hs2 : s ≤ 1024 := by omega
  have zp := fun w : World => pick_any x0 8 w hx.1 hx.2 (by decide) (by decide)
  have hw0 : IntKind.i64.wrap (1 + x0 % 8) = (s : Int) := by rw [hs, IntWalk.i64_in _ (by omega)]
  have zn := fun w : World => disks.new_yes s w hs1 hs2
  have zm := fun w : World => mNew s w hs1 hs2
  obtain ⟨n, hn⟩ : ∃ n, n = ms.length := ⟨_, rfl⟩
  have zL := haLong_k w A0 ms n c0 hn.symm hA.run (by rw [hn]; exact hms)
  rw [← hn] at hms ⊢
  have HA := Lib.hid (And.intro hA hn)
  have HT := Lib.hid ht
  obtain ⟨q, hq⟩ : ∃ q, q = x0 % 8 := ⟨_, rfl⟩
  rw [← hq] at zp hw0
  clear hA hn ht hs hs1 hs2 hx hq
  go_enter Tryz.func3, Tryz.ntmps3
  go_wp2_with fail
  refine zL.mono ?_
  rintro e w1 ⟨r, rfl, rfl, hr⟩
  clear zL
  cases r with
  | true =>
    clear hr
    go_wp2
    go_ret
    exact ⟨rfl, Below.refl _ _⟩
  | false =>
    have HL : Hid (n ≤ 60 ∧ ∀ m, m ∈ ms → m.b.length ≤ 100 ∧ m.keeps.length ≤ 30) := Lib.hid ⟨by have := (hr rfl).1; rw [← HA.out.2] at this; exact this, (hr rfl).2⟩
    clear hr
    go_wp2_with (first
      | (go_at_call 5; refine (zp w).mono ?_; (rintro e w1 ⟨rfl, rfl⟩))
      | (go_at_call 6; refine (zn w).mono ?_; (rintro e w2 ⟨b, F0, rfl, h2, hF2, B2⟩))
      | (go_at_call 7; refine (zm w2).mono ?_; (rintro e w3 ⟨c, G0, rfl, h3, hG3, B3⟩)))
    have I0 : MsInv w w3 b c 0 F0 G0 (DS.fresh s) := ⟨⟨At_step disks h2 B3, h3, fun k h1 h2' => by have := disks.lt _ _ _ _ h2 k h1; have := hG3 k h2'; omega⟩, hF2, fun k hk => Nat.le_trans B2.size (hG3 k hk), step_trans B2 B3, Nat.zero_le _⟩
    replace I0 := Lib.hid I0
    clear h2 hF2 B2 h3 hG3 B3 zn zm zp hw0
    go_loopw [9] (fun ix wr => ∃ (i : Nat) (F G : Nat → Prop) (S : DS), ix = .int .i64 ((i : Nat) : Int) ∧ i ≤ n ∧ MsInv w wr b c i F G S) (fun ix _ => n - hNat ix)
    case atStart => exact ⟨0, F0, G0, _, rfl, Nat.zero_le _, I0.out⟩
    case round =>
      obtain ⟨i, F, G, S, rfl, hi, inv⟩ := hrel
      clear I0
      by_cases hlt : i < n
      · obtain ⟨m, hm⟩ : ∃ m, ms[i]? = some m := ⟨_, List.getElem?_eq_getElem (by rw [← HA.out.2]; exact hlt)⟩
        have hmem := List.mem_of_getElem? hm
        obtain ⟨ad, rfl, y0, y1, y2, y3, y4, y5⟩ := sa_at HA.out.1 inv.below hm
        have hlt' : (i : Int) < (n : Int) := by omega
        have hw1 : IntKind.i64.wrap ((i : Int) + 1) = (i : Int) + 1 := IntWalk.i64_in _ (by omega)
        have hok := inv.ok (HA.out.1.in_ m hmem) (HL.out.2 m hmem).1 (HL.out.2 m hmem).2
        have hO : S.ops ≤ 900000 := by have := inv.ops; have := HL.out.1; omega
        have HI := Lib.hid (And.intro inv (And.intro hok hO))
        have hFr := Lib.hid (inv.two.lt disks)
        have G2 := Lib.hid (fun (w2 : World) (B : Below wr.heap.size wr w2) (hx : BlkR 35 w2 wr.heap.size (haCells m)) => HaAt.start (inv.two.step disks B) hx (fun hk => Nat.lt_irrefl _ ((inv.two.lt disks).1 _ hk)) (fun hk => Nat.lt_irrefl _ ((inv.two.lt disks).2 _ hk)))
        clear hm hmem inv hok
        by_cases h0 : m.kind = 0
        · have t0 : (m.kind == 0) = true := by simpa using h0
          clear h0
          have hl100 := HI.out.2.1.lb
          have zl := fun w1 h => lentBytes_any m.A m.b m.cb w1 (by omega) h
          unfold LentPost at zl
          go_wp2_with (first
            | ((with_reducible refine atWorld wr ?_); refine wpList_allocRow (w := wr) haTy rfl rfl ?_; (intro w1 b1 B1 s1; have b1 := Lib.hid b1))
            | ((with_reducible refine atWorld w1 ?_); refine wpList_storeRow (w := w1) haTy rfl (.tmp 10) (.tmp 46) rfl wr.heap.size (haCells m) haZ rfl rfl rfl rfl (ha_one m) b1.out ?_; (intro w2 b2 B2 s2 k2; have B12 : Below wr.heap.size wr w2 := B1.trans B2; obtain ⟨e0, e2, e4⟩ := ha_cells b2; have M2 := Lib.hid (G2.out w2 B12 b2); have r2 := (HI.out.2.1.step B12).rb; clear b1 B1 s1 b2 B2 s2 k2))
            | (go_at_call 8; refine (zl w2 r2).mono ?_; (rintro e w3 ⟨g, rfl, hg, hb3, B3⟩; have B13 := step_trans B12 B3; have M3 := (M2.out.step disks B3).rebase)))
          have hx3 := HI.out.2.1.step B13
          have nFg : ¬ F g := fun hk => by have := hFr.out.1 g hk; have := B12.size; omega
          have nGg : ¬ G g := fun hk => by have := hFr.out.2 g hk; have := B12.size; omega
          have hlg := hb3.lt
          have M1 := M3.step disks ((Below.refl _ w3).drew)
          have C1 : w3.drew.cell? ⟨wr.heap.size, 2, none⟩ = some (.int .i64 m.at_) ∧ w3.drew.cell? ⟨wr.heap.size, 4, none⟩ = some (.slice m.A m.b.length m.cb) := ⟨M1.x.cell rfl, M1.x.cell rfl⟩
          have t1 := HI.out.1.tab HT.out B13 M1
          have rin : BytesAt w3.drew w3.drew.heap.size (some ⟨g, 0, none⟩) m.b := hb3.bytes m.b ⟨_, rfl⟩ hb3.lt
          have z3 := save_any disks w3.drew b F S m.at_ (some ⟨g, 0, none⟩) m.b m.b.length (m.b.length + 3) rfl t1 M1.d rin (by omega)
          have z4 := fun w3 h hr => mSave w3 c G S m.at_ m.A m.b m.b.length m.cb rfl h hr (by omega)
          have z5 := fun w4 h1 h2 => keptBytes_yes g m.b m.A m.cb w4 (by omega) h1 h2
          unfold ChgPost at z3 z4
          have hops := haSave_ops S m.at_ m.b
          obtain ⟨T, hT⟩ : ∃ T, T = (Slot.save S m.at_ m.b).1 := ⟨_, rfl⟩
          obtain ⟨r, hr⟩ : ∃ r, r = (Slot.save S m.at_ m.b).2 := ⟨_, rfl⟩
          rw [← hT] at hops
          rw [← hT, ← hr] at z3 z4
          have HH := Lib.hid (And.intro hops (And.intro hx3 (And.intro (show BlkR 5 w3 g (cellsOfBytes (lent m.b)) from hb3) (And.intro nFg nGg))))
          have M1 := Lib.hid M1
          clear hT hr t1 hops hx3 M2 M3 e0 e2 e4 rin hb3 nFg nGg hlg r2 zl
          go_region_held3 (fun w' => w'.cell? ⟨wr.heap.size, 2, none⟩ = some (.int .i64 m.at_) ∧ w'.cell? ⟨wr.heap.size, 4, none⟩ = some (.slice m.A m.b.length m.cb)) (first | assumption) (first
            | (go_at_call 9; refine z3.mono ?_; (rintro e w4 ⟨F4, rfl, d4, o4, f4⟩; have M4 := M1.out.chgD d4 o4 f4; have m4 := M4.m; have C4 : w4.cell? ⟨wr.heap.size, 2, none⟩ = some (.int .i64 m.at_) ∧ w4.cell? ⟨wr.heap.size, 4, none⟩ = some (.slice m.A m.b.length m.cb) := ⟨M4.x.cell rfl, M4.x.cell rfl⟩; have r4 := (M4.bytes HH.out.2.1.rb HH.out.2.1.ab).1; have M4 := Lib.hid M4; clear o4 f4))
            | (go_at_call 10; refine (z4 w4 m4 r4).mono ?_; (rintro e w5 ⟨G5, rfl, m5, o5, f5⟩; have M5 := M4.out.chgM disks m5 o5 f5; have C5 : w5.cell? ⟨wr.heap.size, 2, none⟩ = some (.int .i64 m.at_) ∧ w5.cell? ⟨wr.heap.size, 4, none⟩ = some (.slice m.A m.b.length m.cb) := ⟨M5.x.cell rfl, M5.x.cell rfl⟩; have r5 := (M5.bytes HH.out.2.1.rb HH.out.2.1.ab).1; have b5 := M5.blk HH.out.2.2.1 HH.out.2.2.2.1 HH.out.2.2.2.2; have M5 := Lib.hid M5; clear m5 o5 f5))
            | (go_at_call 11; refine (z5 w5 b5 r5).mono ?_; (rintro e w6 ⟨rfl, B6⟩; have M6 := M5.out.step disks B6; have C6 : w6.cell? ⟨wr.heap.size, 2, none⟩ = some (.int .i64 m.at_) ∧ w6.cell? ⟨wr.heap.size, 4, none⟩ = some (.slice m.A m.b.length m.cb) := ⟨M6.x.cell rfl, M6.x.cell rfl⟩; have M6 := Lib.hid M6)))
          have ho4 : T.ops ≤ S.ops + 4 := HH.out.1
          go_wp2_with (go_at_call 16; refine (haAlike_any disks w6 b c F4 G5 T ⟨M6.out.d, M6.out.m, M6.out.ap⟩ (by have := HI.out.2.2; omega)).mono ?_; (rintro e w9 ⟨rfl, B9⟩))
          go_roundw
          case rel => exact ⟨i + 1, F4, G5, T, by go_num, by omega, HI.out.1.next B13 ⟨M6.out.d, M6.out.m, M6.out.ap⟩ M6.out.of_ M6.out.og M6.out.fr HH.out.1 B9⟩
          case measure => simp [hNat]; omega
        have t0 : (m.kind == 0) = false := by simpa using h0
        clear h0
        by_cases h1 : m.kind = 1
        · have t1 : (m.kind == 1) = true := by simpa using h1
          clear h1
          obtain ⟨l, hl⟩ : ∃ l, l = Slot.loadB S m.at_ := ⟨_, rfl⟩
          obtain ⟨E, hE⟩ : ∃ E, E = Slot.loadE S m.at_ := ⟨_, rfl⟩
          have zl := fun w t h => load_any disks w b F S m.at_ t h
          have zr := fun w h => mLoad w c G S m.at_ h
          unfold LoadPost at zl
          unfold LdPost at zr
          rw [← hl, ← hE] at zl zr
          have zs := fun A c A' c' w h h' => same_yes A l l.length c rfl A' l l.length c' rfl w h h' rfl
          clear hl hE
          go_wp2_with (first
            | ((with_reducible refine atWorld wr ?_); refine wpList_allocRow (w := wr) haTy rfl rfl ?_; (intro w1 b1 B1 s1; have b1 := Lib.hid b1))
            | ((with_reducible refine atWorld w1 ?_); refine wpList_storeRow (w := w1) haTy rfl (.tmp 10) (.tmp 46) rfl wr.heap.size (haCells m) haZ rfl rfl rfl rfl (ha_one m) b1.out ?_; (intro w2 b2 B2 s2 k2; have B12 : Below wr.heap.size wr w2 := B1.trans B2; obtain ⟨e0, e2, e4⟩ := ha_cells b2; have M2 := Lib.hid (G2.out w2 B12 b2); have t2 := HI.out.1.tab HT.out B12 M2.out; have d2 := M2.out.d; clear b1 B1 s1 b2 B2 s2 k2))
            | (go_at_call 12; refine (zl w2 t2 d2).mono ?_; (rintro e w3 ⟨A3, c3, rfl, r3, B3⟩; have r3 := r3.bytes; have M3 := M2.out.step disks B3; have m3 := M3.m; have e32 := M3.x.cell (k := 2) rfl; have M3 := Lib.hid M3))
            | (go_at_call 13; refine (zr w3 m3).mono ?_; (rintro e w4 ⟨A4, c4, rfl, hc4, r4, B4⟩; have r34 := r3.step B4; have M4 := Lib.hid (M3.out.step disks B4)))
            | (go_at_call 14; refine (zs A3 c3 A4 c4 w4 r34 r4).mono ?_; (rintro e w5 ⟨rfl, rfl⟩))
            | (go_at_call 16; refine (haAlike_any disks w4 b c F G S ⟨M4.out.d, M4.out.m, M4.out.ap⟩ (by have := HI.out.2.2; omega)).mono ?_; (rintro e w9 ⟨rfl, B9⟩)))
          go_roundw
          case rel => exact ⟨i + 1, F, G, S, by go_num, by omega, HI.out.1.next B12 ⟨M4.out.d, M4.out.m, M4.out.ap⟩ M4.out.of_ M4.out.og M4.out.fr (Nat.le_add_right _ _) B9⟩
          case measure => simp [hNat]; omega
        have t1 : (m.kind == 1) = false := by simpa using h1
        clear h1
        have zh := fun w h hx => harm_any disks w b c F G S m h hO hx
        go_wp2_with (first
          | ((with_reducible refine atWorld wr ?_); refine wpList_allocRow (w := wr) haTy rfl rfl ?_; (intro w1 b1 B1 s1; have b1 := Lib.hid b1))
          | ((with_reducible refine atWorld w1 ?_); refine wpList_storeRow (w := w1) haTy rfl (.tmp 10) (.tmp 46) rfl wr.heap.size (haCells m) haZ rfl rfl rfl rfl (ha_one m) b1.out ?_; (intro w2 b2 B2 s2 k2; have B12 : Below wr.heap.size wr w2 := B1.trans B2; obtain ⟨e0, e2, e4⟩ := ha_cells b2; have M2 := Lib.hid (G2.out w2 B12 b2); have b2 := Lib.hid b2; clear b1 B1 s1 B2 s2 k2))
          | ((with_reducible refine atWorld w2 ?_); refine wpList_loadRow (w := w2) haTy rfl (.tmp 10) rfl wr.heap.size 0 (haCells m) rfl rfl (rangeOf b2.out) ?_)
          | (go_at_call 15; refine (zh w2 ⟨M2.out.d, M2.out.m, M2.out.ap⟩ (HI.out.2.1.step B12)).mono ?_; (rintro e w4 ⟨T, F3, G4, rfl, two4, ho4, o3, o4, f4⟩; have HT4 := Lib.hid (And.intro two4 (And.intro ho4 (And.intro o3 (And.intro o4 f4)))); clear two4 o3 o4 f4))
          | (go_at_call 16; refine (haAlike_any disks w4 b c F3 G4 T HT4.out.1 (by have := HI.out.2.2; omega)).mono ?_; (rintro e w9 ⟨rfl, B9⟩)))
        go_roundw
        case rel => exact ⟨i + 1, F3, G4, T, by go_num, by omega, HI.out.1.next B12 HT4.out.1 HT4.out.2.2.1 HT4.out.2.2.2.1 HT4.out.2.2.2.2 HT4.out.2.1 B9⟩
        case measure => simp [hNat]; omega
      · obtain rfl : i = n := by omega
        have hB := Lib.hid inv.below
        clear inv
        go_wp2_with (go_at_call 17; refine (awake_any disks wr (HT.out.below hB.out (Nat.le_refl _))).mono ?_; (rintro e w5 ⟨rfl, B5⟩))
        go_ret
        exact ⟨rfl, step_trans hB.out B5⟩
end Go.Proofs.YtkokcdlgfemobaaGreatDoor
