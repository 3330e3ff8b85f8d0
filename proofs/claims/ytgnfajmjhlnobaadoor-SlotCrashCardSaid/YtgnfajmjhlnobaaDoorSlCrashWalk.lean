/-
  The walk of SlotCrash. Conditions: the table of crc lies as the program's text lays it; what came in can be read.
-/
import Derived.Test.YtgnfajmjhlnobaaDoorSlCrash
namespace Go.Proofs.YtgnfajmjhlnobaaDoor
open Go.RowKit Fix

def vN : Value → Nat
  | .int _ q => q.toNat
  | _ => 0
/-- what holds between two saves -/
structure CrInv (w wr : World) (b : Nat) (k : Nat) (F : Nat → Prop) (S : DS) (N : Nat) (v : List UInt8) (An : Option Addr) (mn : Nat) (sb : Bool) : Prop where
  at_ : DiskAt wr b F S
  far : ∀ x, F x → w.heap.size ≤ x
  below : Below w.heap.size w wr
  q : S.Quiet
  n : S.n = 2
  ops : S.ops ≤ 4 * k
  pair : Slot.Pair (S.firm 0) (S.firm 1) N v
  few : N ≤ k
  none_ : sb = false → N = 0
  some_ : sb = true → 1 ≤ N ∧ mn = v.length ∧ Aside F wr An v
theorem m_at {w wr : World} {A0 : Option Addr} {ms : List SaveM} {m : SaveM} {k : Nat} (hA : SavesAt w w.heap.size A0 ms) (hb : Below w.heap.size w wr) (hm : ms[k]? = some m) : ∃ ad, A0 = some ad ∧ wr.cell? (ad.add (k * 4)) = some (.slice m.A m.b.length m.cb) ∧ wr.cell? ⟨(ad.add (k * 4)).block, (ad.add (k * 4)).off + 1, none⟩ = some (.int .i64 m.stop) ∧
    wr.cell? ⟨(ad.add (k * 4)).block, (ad.add (k * 4)).off + 2, none⟩ = some (.slice m.AK m.keeps.length m.ck) ∧ wr.cell? ⟨(ad.add (k * 4)).block, (ad.add (k * 4)).off + 3, none⟩ = some (.int .i64 m.tear) := by
  obtain ⟨ad, e, _, hc⟩ := (hA.below hb).at_ (by rintro rfl; simp at hm)
  have y0 := hc k m hm 0 _ rfl
  have y1 := hc k m hm 1 _ rfl
  have y2 := hc k m hm 2 _ rfl
  have y3 := hc k m hm 3 _ rfl
  rw [show (ad.add (k * 4)).add 0 = ad.add (k * 4) by unfold Addr.add; simp] at y0
  rw [saveAdd _ 1 (by decide)] at y1
  rw [saveAdd _ 2 (by decide)] at y2
  rw [saveAdd _ 3 (by decide)] at y3
  exact ⟨ad, e, y0, y1, y2, y3⟩
theorem m_cells {w : World} {g : Nat} {m : SaveM} (h : BlkR 52 w g (saveCells m)) : w.cell? ⟨g, 0, none⟩ = some (.slice m.A m.b.length m.cb) ∧ w.cell? ⟨g, 1, none⟩ = some (.int .i64 m.stop) ∧ w.cell? ⟨g, 2, none⟩ = some (.slice m.AK m.keeps.length m.ck) ∧ w.cell? ⟨g, 3, none⟩ = some (.int .i64 m.tear) :=
  ⟨h.cell rfl, h.cell rfl, h.cell rfl, h.cell rfl⟩
set_option maxRecDepth 100000 in
set_option maxHeartbeats 4000000 in
theorem crash_any (A0 : Option Addr) (ms : List SaveM) (c0 : Nat) (w : World) (ht : TabAt w) (hA : SavesAt w w.heap.size A0 ms) (hms : ms.length ≤ 9223372036854775807) :
    Calls Tryd.prog 5 #[.slice A0 ms.length c0] w fun e w' => e = .returned (.bool true) ∧ Below w.heap.size w w' := by
  have zn := fun w : World => disks.new_yes 2 w (by decide) (by decide)
  rw [show ((2 : Nat) : Int) = 2 from rfl] at zn
  obtain ⟨n, hn⟩ : ∃ n, n = ms.length := ⟨_, rfl⟩
  rw [← hn] at hms ⊢
  have HA := Lib.hid (And.intro hA hn)
  have HT := Lib.hid ht
  clear hA hn
  go_enter Tryd.func5, Tryd.ntmps5
  go_wp2_with (first
    | (go_at_call 19; refine (awake_any disks w ht).mono ?_; (rintro e w1 ⟨rfl, B1⟩))
    | (go_at_call 22; refine (zn w1).mono ?_; (rintro e w2 ⟨b, F0, rfl, h2, hF2, B2⟩)))
  have I0 : CrInv w w2 b 0 F0 (DS.fresh 2) 0 [] none 0 false := ⟨h2, fun k hk => Nat.le_trans B1.size (hF2 k hk), step_trans B1 B2, DS.fresh_quiet 2, rfl, Nat.zero_le _, Slot.pair_fresh, Nat.le_refl _, fun _ => rfl, fun h => (by cases h)⟩
  have I0 := Lib.hid I0
  clear zn B1 B2 h2 hF2 ht
  go_loopw [6, 7, 8] (fun now so ix wr => ∃ k F S N v An mn cn sb, now = .slice An mn cn ∧ so = .bool sb ∧ ix = .int .i64 ((k : Nat) : Int) ∧ k ≤ n ∧ k ≤ 20 ∧ CrInv w wr b k F S N v An mn sb) (fun _ _ ix _ => 21 - vN ix)
  case atStart => exact ⟨0, F0, _, 0, [], none, 0, 0, false, rfl, rfl, rfl, Nat.zero_le _, Nat.zero_le _, I0.out⟩
  case round =>
    obtain ⟨k, F, S, N, v, An, mn, cn, sb, rfl, rfl, rfl, hk, hk2, inv⟩ := hrel
    clear I0
    by_cases hlt : k < n
    · by_cases h20 : k < 20
      · obtain ⟨m, hm⟩ : ∃ m, ms[k]? = some m := ⟨_, List.getElem?_eq_getElem (by rw [← HA.out.2]; exact hlt)⟩
        have hmem := List.mem_of_getElem? hm
        obtain ⟨ad, rfl, y0, y1, y2, y3⟩ := m_at HA.out.1 inv.below hm
        obtain ⟨h_at, far_, below_, q_, hn_, ops_, pair_, few_, none_, some_⟩ := inv
        have hlt' : (k : Int) < (n : Int) := by omega
        have h20' : (k : Int) < 20 := by omega
        have hw1 : IntKind.i64.wrap ((k : Int) + 1) = (k : Int) + 1 := IntWalk.i64_in _ (by omega)
        have HF := Lib.hid (And.intro far_ below_)
        have HD := Lib.hid (fun (w' : World) (hb : Below wr.heap.size wr w') => At_step disks h_at hb)
        have HG := Lib.hid (show ¬ F wr.heap.size from fun hx => Nat.lt_irrefl _ (disks.lt _ _ _ _ h_at _ hx))
        have GC := Lib.hid (fun (w' : World) (h : BlkR 52 w' wr.heap.size (saveCells m)) => m_cells h)
        have HX : ∀ w' F', Keep F wr F' w' → TabAt w' ∧ BytesAt w' w'.heap.size m.A m.b ∧ RowAt w' w'.heap.size m.AK (m.keeps.map Value.bool) := fun w' F' K => by
          have hB := HF.out.2.trans (K.below HF.out.1 HF.out.2.size)
          exact ⟨HT.out.below hB (Nat.le_refl _), ((HA.out.1.b m hmem).below hB).more hB.size, ((HA.out.1.k m hmem).below hB).more hB.size⟩
        replace HX := Lib.hid HX
        have stn := HA.out.1.n m hmem
        have HI := Lib.hid ops_
        have HI2 := Lib.hid few_
        clear far_ hm
        by_cases hb40 : 40 < m.b.length
        · have i1 : (40 : Int) < (m.b.length : Int) := by omega
          clear h_at below_ q_ hn_ ops_ pair_ few_ none_ some_
          go_wp2_with (first
            | ((with_reducible refine atWorld wr ?_); refine wpList_allocRow (w := wr) saveTy rfl rfl ?_; (intro w1 b1 B1 s1; have b1 := Lib.hid b1))
            | ((with_reducible refine atWorld w1 ?_); refine wpList_storeRow (w := w1) saveTy rfl (.tmp 9) (.tmp 37) rfl wr.heap.size (saveCells m) saveZ rfl rfl rfl rfl (save_one m) b1.out ?_; (intro w2 b2 B2 s2 k2; have B12 : Below wr.heap.size wr w2 := B1.trans B2; obtain ⟨d0, d1, d2, d3⟩ := GC.out w2 b2)))
          go_ret
          exact ⟨rfl, HF.out.2.trans (B12.mono HF.out.2.size)⟩
        · have i1 : ¬ (40 : Int) < (m.b.length : Int) := by omega
          by_cases hk10 : 10 < m.keeps.length
          · have i2 : (10 : Int) < (m.keeps.length : Int) := by omega
            clear h_at below_ q_ hn_ ops_ pair_ few_ none_ some_
            go_wp2_with (first
              | ((with_reducible refine atWorld wr ?_); refine wpList_allocRow (w := wr) saveTy rfl rfl ?_; (intro w1 b1 B1 s1; have b1 := Lib.hid b1))
              | ((with_reducible refine atWorld w1 ?_); refine wpList_storeRow (w := w1) saveTy rfl (.tmp 9) (.tmp 37) rfl wr.heap.size (saveCells m) saveZ rfl rfl rfl rfl (save_one m) b1.out ?_; (intro w2 b2 B2 s2 k2; have B12 : Below wr.heap.size wr w2 := B1.trans B2; obtain ⟨d0, d1, d2, d3⟩ := GC.out w2 b2)))
            go_ret
            exact ⟨rfl, HF.out.2.trans (B12.mono HF.out.2.size)⟩
          · have i2 : ¬ (10 : Int) < (m.keeps.length : Int) := by omega
            have lb : m.b.length ≤ 40 := by omega
            by_cases hst : m.stop < 0
            · have hst2 : ¬ (0 : Int) ≤ m.stop := by omega
              obtain ⟨U, s1, u1, u2, u3, u4⟩ := Slot.round_calm q_ hn_ pair_ (by omega) m.b lb
              have zs : ∀ w F, TabAt w → DiskAt w b F S → BytesAt w w.heap.size m.A m.b → _ := fun w F t h r => save_any disks w b F S 0 m.A m.b m.b.length m.cb rfl t h r (by omega)
              rw [s1] at zs
              unfold ChgPost at zs
              have zl : ∀ w F, TabAt w → DiskAt w b F U → _ := fun w F t h => load_any disks w b F U 0 t h
              unfold LoadPost at zl
              have lp := (Slot.load_pair u1 u2 u4).1 (by omega)
              rw [lp.1, lp.2] at zl
              have zm1 := fun A c w h h' => same_yes A m.b m.b.length c rfl m.A m.b m.b.length m.cb rfl w h h' rfl
              have HU := Lib.hid (And.intro u1 (And.intro u2 (And.intro u3 u4)))
              clear h_at below_ q_ hn_ ops_ pair_ few_ none_ some_ s1 u1 u2 u3 u4 lp
              go_wp2_with (first
                | ((with_reducible refine atWorld wr ?_); refine wpList_allocRow (w := wr) saveTy rfl rfl ?_; (intro w1 b1 B1 s1; have b1 := Lib.hid b1))
                | ((with_reducible refine atWorld w1 ?_); refine wpList_storeRow (w := w1) saveTy rfl (.tmp 9) (.tmp 37) rfl wr.heap.size (saveCells m) saveZ rfl rfl rfl rfl (save_one m) b1.out ?_; (intro w2 b2 B2 s2 k2; have B12 : Below wr.heap.size wr w2 := B1.trans B2; have K2 : Keep F wr F w2 := Keep.of_below B12; have b2 := Lib.hid b2; obtain ⟨d0, d1, d2, d3⟩ := GC.out w2 b2.out))
                | (go_at_call 21; (with_reducible refine (zs w2 F (HX.out w2 F K2).1 (HD.out w2 B12) (HX.out w2 F K2).2.1).mono ?_); (rintro e w5 ⟨F5, rfl, h5, hF5, fr5⟩; have K5 := K2.trans ⟨fr5, hF5⟩; have b5 := Lib.hid (b2.out.frame fr5 HG.out); obtain ⟨d50, d51, d52, d53⟩ := GC.out w5 b5.out; obtain ⟨t5, x5, v5⟩ := HX.out w5 F5 K5))
                | (go_at_call 20; (with_reducible refine (zl w5 F5 t5 h5).mono ?_); (rintro e w6 ⟨A6, c6, rfl, o6, B6⟩; have K6 := K5.trans (Keep.of_below B6); have h6 := At_step disks h5 B6; have b6 := Lib.hid (b5.out.step B6); obtain ⟨d60, d61, d62, d63⟩ := GC.out w6 b6.out; obtain ⟨t6, x6, v6⟩ := HX.out w6 F5 K6; have g6 := o6.bytes; have a6 := Aside.whole o6 (disks.lt _ _ _ _ h5)))
                | (go_at_call 16; first
              | ((with_reducible refine (zm1 A6 c6 w6 g6 x6).mono ?_); (rintro e w7 ⟨rfl, rfl⟩))))
              go_roundw
              case rel => exact ⟨k + 1, F5, U, N + 1, m.b, A6, _, c6, true, rfl, rfl, by go_num, by omega, by omega, ⟨h6, K6.far HF.out.1 HF.out.2.size, HF.out.2.trans (K6.below HF.out.1 HF.out.2.size), HU.out.1, HU.out.2.1, by have := HU.out.2.2.1; have := HI.out; omega, HU.out.2.2.2, by have := HI2.out; omega, fun h => (by cases h), fun _ => ⟨by first | omega | exact HP.out, rfl, a6⟩⟩⟩
              case measure => simp [vN]; omega
            · have hst2 : (0 : Int) ≤ m.stop := by omega
              obtain ⟨T, e, s1, s2, u1, u2, u3, s3⟩ := Slot.round_stop q_ hn_ pair_ (by omega) m.b lb m.stop.toNat m.keeps m.tear
              have zf : ∀ w, DiskAt w b F S → _ := fun w h => disks.fuse w b F S m.stop h stn.1 stn.2
              rw [show S.fuse m.stop = ({ S with left := some m.stop.toNat }, 0) by unfold DS.fuse; rw [q_.out]; simp [hst]] at zf
              have zs : ∀ w F, TabAt w → DiskAt w b F { S with left := some m.stop.toNat } → BytesAt w w.heap.size m.A m.b → _ := fun w F t h r => save_any disks w b F _ 0 m.A m.b m.b.length m.cb rfl t h r (by show S.ops ≤ _; omega)
              rw [s1] at zs
              unfold ChgPost at zs
              have zc : ∀ w F, DiskAt w b F T → RowAt w w.heap.size m.AK (m.keeps.map Value.bool) → _ := fun w F h r => dCrash w b F T m.AK m.keeps m.keeps.length m.ck m.tear h r rfl
              unfold DPost at zc
              obtain ⟨U, hU⟩ : ∃ U, U = T.crash m.keeps m.tear := ⟨_, rfl⟩
              rw [← hU] at zc u1 u2 u3 s3
              obtain ⟨S1, hS1⟩ : ∃ S1 : DS, S1 = { S with left := some m.stop.toNat } := ⟨_, rfl⟩
              rw [← hS1] at zf zs
              have zl : ∀ w F, TabAt w → DiskAt w b F U → _ := fun w F t h => load_any disks w b F U 0 t h
              unfold LoadPost at zl
              clear hU hS1 s1 s2
              rcases s3 with ⟨rfl, u4⟩ | ⟨rfl, u4 | u4⟩
              · have lp := (Slot.load_pair u1 u2 u4).1 (by omega)
                rw [lp.1, lp.2] at zl
                have zm1 := fun A c w h h' => same_yes A m.b m.b.length c rfl m.A m.b m.b.length m.cb rfl w h h' rfl
                have HU := Lib.hid (And.intro u1 (And.intro u2 (And.intro u3 u4)))
                clear h_at below_ q_ hn_ ops_ pair_ few_ none_ some_ u1 u2 u3 u4 lp
                go_wp2_with (first
                  | ((with_reducible refine atWorld wr ?_); refine wpList_allocRow (w := wr) saveTy rfl rfl ?_; (intro w1 b1 B1 s1; have b1 := Lib.hid b1))
                  | ((with_reducible refine atWorld w1 ?_); refine wpList_storeRow (w := w1) saveTy rfl (.tmp 9) (.tmp 37) rfl wr.heap.size (saveCells m) saveZ rfl rfl rfl rfl (save_one m) b1.out ?_; (intro w2 b2 B2 s2 k2; have B12 : Below wr.heap.size wr w2 := B1.trans B2; have K2 : Keep F wr F w2 := Keep.of_below B12; have b2 := Lib.hid b2; obtain ⟨d0, d1, d2, d3⟩ := GC.out w2 b2.out))
                  | (go_at_call 23; (with_reducible refine (zf w2 (HD.out w2 B12)).mono ?_); (rintro e w3 ⟨F3, rfl, h3, hF3, fr3⟩; have K3 := K2.trans ⟨fr3, hF3⟩; have b3 := Lib.hid (b2.out.frame fr3 HG.out); obtain ⟨d30, d31, d32, d33⟩ := GC.out w3 b3.out; obtain ⟨t3, x3, v3⟩ := HX.out w3 F3 K3))
                  | (go_at_call 21; (with_reducible refine (zs w3 F3 t3 h3 x3).mono ?_); (rintro e w4 ⟨F4, rfl, h4, hF4, fr4⟩; have K4 := K3.trans ⟨fr4, hF4⟩; have b4 := Lib.hid (b3.out.frame fr4 (fun hx => (hF3 _ hx).elim HG.out fun y => by have := b2.out.lt; omega)); obtain ⟨d40, d41, d42, d43⟩ := GC.out w4 b4.out; obtain ⟨t4, x4, v4⟩ := HX.out w4 F4 K4))
                  | (go_at_call 24; (with_reducible refine (zc w4 F4 h4 v4).mono ?_); (rintro e w5 ⟨F5, rfl, h5, hF5, fr5⟩; have K5 := K4.trans ⟨fr5, hF5⟩; have b5 := Lib.hid (b4.out.frame fr5 (fun hx => (hF4 _ hx).elim (fun hy => (hF3 _ hy).elim HG.out fun y => by have := b2.out.lt; omega) fun y => by have := b3.out.lt; omega)); obtain ⟨d50, d51, d52, d53⟩ := GC.out w5 b5.out; obtain ⟨t5, x5, v5⟩ := HX.out w5 F5 K5))
                  | (go_at_call 20; (with_reducible refine (zl w5 F5 t5 h5).mono ?_); (rintro e w6 ⟨A6, c6, rfl, o6, B6⟩; have K6 := K5.trans (Keep.of_below B6); have h6 := At_step disks h5 B6; have b6 := Lib.hid (b5.out.step B6); obtain ⟨d60, d61, d62, d63⟩ := GC.out w6 b6.out; obtain ⟨t6, x6, v6⟩ := HX.out w6 F5 K6; have g6 := o6.bytes; have a6 := Aside.whole o6 (disks.lt _ _ _ _ h5)))
                  | (go_at_call 16; first
                | ((with_reducible refine (zm1 A6 c6 w6 g6 x6).mono ?_); (rintro e w7 ⟨rfl, rfl⟩))))
                go_roundw
                case rel => exact ⟨k + 1, F5, U, N + 1, m.b, A6, _, c6, true, rfl, rfl, by go_num, by omega, by omega, ⟨h6, K6.far HF.out.1 HF.out.2.size, HF.out.2.trans (K6.below HF.out.1 HF.out.2.size), HU.out.1, HU.out.2.1, by have := HU.out.2.2.1; have := HI.out; omega, HU.out.2.2.2, by have := HI2.out; omega, fun h => (by cases h), fun _ => ⟨by first | omega | exact HP.out, rfl, a6⟩⟩⟩
                case measure => simp [vN]; omega
              · have lp := (Slot.load_pair u1 u2 u4).1 (by omega)
                rw [lp.1, lp.2] at zl
                have zm1 := fun A c w h h' => same_yes A m.b m.b.length c rfl m.A m.b m.b.length m.cb rfl w h h' rfl
                have HU := Lib.hid (And.intro u1 (And.intro u2 (And.intro u3 u4)))
                clear h_at below_ q_ hn_ ops_ pair_ few_ none_ some_ u1 u2 u3 u4 lp
                cases sb with
                | false =>
                  go_wp2_with (first
                    | ((with_reducible refine atWorld wr ?_); refine wpList_allocRow (w := wr) saveTy rfl rfl ?_; (intro w1 b1 B1 s1; have b1 := Lib.hid b1))
                    | ((with_reducible refine atWorld w1 ?_); refine wpList_storeRow (w := w1) saveTy rfl (.tmp 9) (.tmp 37) rfl wr.heap.size (saveCells m) saveZ rfl rfl rfl rfl (save_one m) b1.out ?_; (intro w2 b2 B2 s2 k2; have B12 : Below wr.heap.size wr w2 := B1.trans B2; have K2 : Keep F wr F w2 := Keep.of_below B12; have b2 := Lib.hid b2; obtain ⟨d0, d1, d2, d3⟩ := GC.out w2 b2.out))
                    | (go_at_call 23; (with_reducible refine (zf w2 (HD.out w2 B12)).mono ?_); (rintro e w3 ⟨F3, rfl, h3, hF3, fr3⟩; have K3 := K2.trans ⟨fr3, hF3⟩; have b3 := Lib.hid (b2.out.frame fr3 HG.out); obtain ⟨d30, d31, d32, d33⟩ := GC.out w3 b3.out; obtain ⟨t3, x3, v3⟩ := HX.out w3 F3 K3))
                    | (go_at_call 21; (with_reducible refine (zs w3 F3 t3 h3 x3).mono ?_); (rintro e w4 ⟨F4, rfl, h4, hF4, fr4⟩; have K4 := K3.trans ⟨fr4, hF4⟩; have b4 := Lib.hid (b3.out.frame fr4 (fun hx => (hF3 _ hx).elim HG.out fun y => by have := b2.out.lt; omega)); obtain ⟨d40, d41, d42, d43⟩ := GC.out w4 b4.out; obtain ⟨t4, x4, v4⟩ := HX.out w4 F4 K4))
                    | (go_at_call 24; (with_reducible refine (zc w4 F4 h4 v4).mono ?_); (rintro e w5 ⟨F5, rfl, h5, hF5, fr5⟩; have K5 := K4.trans ⟨fr5, hF5⟩; have b5 := Lib.hid (b4.out.frame fr5 (fun hx => (hF4 _ hx).elim (fun hy => (hF3 _ hy).elim HG.out fun y => by have := b2.out.lt; omega) fun y => by have := b3.out.lt; omega)); obtain ⟨d50, d51, d52, d53⟩ := GC.out w5 b5.out; obtain ⟨t5, x5, v5⟩ := HX.out w5 F5 K5))
                    | (go_at_call 20; (with_reducible refine (zl w5 F5 t5 h5).mono ?_); (rintro e w6 ⟨A6, c6, rfl, o6, B6⟩; have K6 := K5.trans (Keep.of_below B6); have h6 := At_step disks h5 B6; have b6 := Lib.hid (b5.out.step B6); obtain ⟨d60, d61, d62, d63⟩ := GC.out w6 b6.out; obtain ⟨t6, x6, v6⟩ := HX.out w6 F5 K6; have g6 := o6.bytes; have a6 := Aside.whole o6 (disks.lt _ _ _ _ h5)))
                    | (go_at_call 16; first
                  | ((with_reducible refine (zm1 A6 c6 w6 g6 x6).mono ?_); (rintro e w7 ⟨rfl, rfl⟩))))
                  go_roundw
                  case rel => exact ⟨k + 1, F5, U, N + 1, m.b, A6, _, c6, true, rfl, rfl, by go_num, by omega, by omega, ⟨h6, K6.far HF.out.1 HF.out.2.size, HF.out.2.trans (K6.below HF.out.1 HF.out.2.size), HU.out.1, HU.out.2.1, by have := HU.out.2.2.1; have := HI.out; omega, HU.out.2.2.2, by have := HI2.out; omega, fun h => (by cases h), fun _ => ⟨by first | omega | exact HP.out, rfl, a6⟩⟩⟩
                  case measure => simp [vN]; omega
                | true =>
                  go_wp2_with (first
                    | ((with_reducible refine atWorld wr ?_); refine wpList_allocRow (w := wr) saveTy rfl rfl ?_; (intro w1 b1 B1 s1; have b1 := Lib.hid b1))
                    | ((with_reducible refine atWorld w1 ?_); refine wpList_storeRow (w := w1) saveTy rfl (.tmp 9) (.tmp 37) rfl wr.heap.size (saveCells m) saveZ rfl rfl rfl rfl (save_one m) b1.out ?_; (intro w2 b2 B2 s2 k2; have B12 : Below wr.heap.size wr w2 := B1.trans B2; have K2 : Keep F wr F w2 := Keep.of_below B12; have b2 := Lib.hid b2; obtain ⟨d0, d1, d2, d3⟩ := GC.out w2 b2.out))
                    | (go_at_call 23; (with_reducible refine (zf w2 (HD.out w2 B12)).mono ?_); (rintro e w3 ⟨F3, rfl, h3, hF3, fr3⟩; have K3 := K2.trans ⟨fr3, hF3⟩; have b3 := Lib.hid (b2.out.frame fr3 HG.out); obtain ⟨d30, d31, d32, d33⟩ := GC.out w3 b3.out; obtain ⟨t3, x3, v3⟩ := HX.out w3 F3 K3))
                    | (go_at_call 21; (with_reducible refine (zs w3 F3 t3 h3 x3).mono ?_); (rintro e w4 ⟨F4, rfl, h4, hF4, fr4⟩; have K4 := K3.trans ⟨fr4, hF4⟩; have b4 := Lib.hid (b3.out.frame fr4 (fun hx => (hF3 _ hx).elim HG.out fun y => by have := b2.out.lt; omega)); obtain ⟨d40, d41, d42, d43⟩ := GC.out w4 b4.out; obtain ⟨t4, x4, v4⟩ := HX.out w4 F4 K4))
                    | (go_at_call 24; (with_reducible refine (zc w4 F4 h4 v4).mono ?_); (rintro e w5 ⟨F5, rfl, h5, hF5, fr5⟩; have K5 := K4.trans ⟨fr5, hF5⟩; have b5 := Lib.hid (b4.out.frame fr5 (fun hx => (hF4 _ hx).elim (fun hy => (hF3 _ hy).elim HG.out fun y => by have := b2.out.lt; omega) fun y => by have := b3.out.lt; omega)); obtain ⟨d50, d51, d52, d53⟩ := GC.out w5 b5.out; obtain ⟨t5, x5, v5⟩ := HX.out w5 F5 K5))
                    | (go_at_call 20; (with_reducible refine (zl w5 F5 t5 h5).mono ?_); (rintro e w6 ⟨A6, c6, rfl, o6, B6⟩; have K6 := K5.trans (Keep.of_below B6); have h6 := At_step disks h5 B6; have b6 := Lib.hid (b5.out.step B6); obtain ⟨d60, d61, d62, d63⟩ := GC.out w6 b6.out; obtain ⟨t6, x6, v6⟩ := HX.out w6 F5 K6; have g6 := o6.bytes; have a6 := Aside.whole o6 (disks.lt _ _ _ _ h5)))
                    | (go_at_call 16; first
                  | ((with_reducible refine (zm1 A6 c6 w6 g6 x6).mono ?_); (rintro e w7 ⟨rfl, rfl⟩))))
                  go_roundw
                  case rel => exact ⟨k + 1, F5, U, N + 1, m.b, A6, _, c6, true, rfl, rfl, by go_num, by omega, by omega, ⟨h6, K6.far HF.out.1 HF.out.2.size, HF.out.2.trans (K6.below HF.out.1 HF.out.2.size), HU.out.1, HU.out.2.1, by have := HU.out.2.2.1; have := HI.out; omega, HU.out.2.2.2, by have := HI2.out; omega, fun h => (by cases h), fun _ => ⟨by first | omega | exact HP.out, rfl, a6⟩⟩⟩
                  case measure => simp [vN]; omega
              · cases sb with
                | false =>
                  have N0 := none_ rfl
                  have HN0 := Lib.hid N0
                  have lp := (Slot.load_pair u1 u2 u4).2 N0
                  have HU := Lib.hid (And.intro u1 (And.intro u2 (And.intro u3 u4)))
                  obtain ⟨lb, hlb⟩ : ∃ x, x = Slot.loadB U 0 := ⟨_, rfl⟩
                  rw [← hlb] at zl
                  rcases lp with lp | lp
                  · rw [lp] at zl
                    clear h_at below_ q_ hn_ ops_ pair_ few_ none_ some_ u1 u2 u3 u4 lp hlb N0
                    go_wp2_with (first
                      | ((with_reducible refine atWorld wr ?_); refine wpList_allocRow (w := wr) saveTy rfl rfl ?_; (intro w1 b1 B1 s1; have b1 := Lib.hid b1))
                      | ((with_reducible refine atWorld w1 ?_); refine wpList_storeRow (w := w1) saveTy rfl (.tmp 9) (.tmp 37) rfl wr.heap.size (saveCells m) saveZ rfl rfl rfl rfl (save_one m) b1.out ?_; (intro w2 b2 B2 s2 k2; have B12 : Below wr.heap.size wr w2 := B1.trans B2; have K2 : Keep F wr F w2 := Keep.of_below B12; have b2 := Lib.hid b2; obtain ⟨d0, d1, d2, d3⟩ := GC.out w2 b2.out))
                      | (go_at_call 23; (with_reducible refine (zf w2 (HD.out w2 B12)).mono ?_); (rintro e w3 ⟨F3, rfl, h3, hF3, fr3⟩; have K3 := K2.trans ⟨fr3, hF3⟩; have b3 := Lib.hid (b2.out.frame fr3 HG.out); obtain ⟨d30, d31, d32, d33⟩ := GC.out w3 b3.out; obtain ⟨t3, x3, v3⟩ := HX.out w3 F3 K3))
                      | (go_at_call 21; (with_reducible refine (zs w3 F3 t3 h3 x3).mono ?_); (rintro e w4 ⟨F4, rfl, h4, hF4, fr4⟩; have K4 := K3.trans ⟨fr4, hF4⟩; have b4 := Lib.hid (b3.out.frame fr4 (fun hx => (hF3 _ hx).elim HG.out fun y => by have := b2.out.lt; omega)); obtain ⟨d40, d41, d42, d43⟩ := GC.out w4 b4.out; obtain ⟨t4, x4, v4⟩ := HX.out w4 F4 K4))
                      | (go_at_call 24; (with_reducible refine (zc w4 F4 h4 v4).mono ?_); (rintro e w5 ⟨F5, rfl, h5, hF5, fr5⟩; have K5 := K4.trans ⟨fr5, hF5⟩; have b5 := Lib.hid (b4.out.frame fr5 (fun hx => (hF4 _ hx).elim (fun hy => (hF3 _ hy).elim HG.out fun y => by have := b2.out.lt; omega) fun y => by have := b3.out.lt; omega)); obtain ⟨d50, d51, d52, d53⟩ := GC.out w5 b5.out; obtain ⟨t5, x5, v5⟩ := HX.out w5 F5 K5))
                      | (go_at_call 20; (with_reducible refine (zl w5 F5 t5 h5).mono ?_); (rintro e w6 ⟨A6, c6, rfl, o6, B6⟩; have K6 := K5.trans (Keep.of_below B6); have h6 := At_step disks h5 B6; have b6 := Lib.hid (b5.out.step B6); obtain ⟨d60, d61, d62, d63⟩ := GC.out w6 b6.out; obtain ⟨t6, x6, v6⟩ := HX.out w6 F5 K6; have g6 := o6.bytes; have a6 := Aside.whole o6 (disks.lt _ _ _ _ h5))))
                    go_roundw
                    case rel => exact ⟨k + 1, F5, U, N, v, An, mn, cn, false, rfl, rfl, by go_num, by omega, by omega, ⟨h6, K6.far HF.out.1 HF.out.2.size, HF.out.2.trans (K6.below HF.out.1 HF.out.2.size), HU.out.1, HU.out.2.1, by have := HU.out.2.2.1; have := HI.out; omega, HU.out.2.2.2, by have := HI2.out; omega, fun _ => HN0.out, fun h => (by cases h)⟩⟩
                    case measure => simp [vN]; omega
                  · rw [lp] at zl
                    clear h_at below_ q_ hn_ ops_ pair_ few_ none_ some_ u1 u2 u3 u4 lp hlb N0
                    go_wp2_with (first
                      | ((with_reducible refine atWorld wr ?_); refine wpList_allocRow (w := wr) saveTy rfl rfl ?_; (intro w1 b1 B1 s1; have b1 := Lib.hid b1))
                      | ((with_reducible refine atWorld w1 ?_); refine wpList_storeRow (w := w1) saveTy rfl (.tmp 9) (.tmp 37) rfl wr.heap.size (saveCells m) saveZ rfl rfl rfl rfl (save_one m) b1.out ?_; (intro w2 b2 B2 s2 k2; have B12 : Below wr.heap.size wr w2 := B1.trans B2; have K2 : Keep F wr F w2 := Keep.of_below B12; have b2 := Lib.hid b2; obtain ⟨d0, d1, d2, d3⟩ := GC.out w2 b2.out))
                      | (go_at_call 23; (with_reducible refine (zf w2 (HD.out w2 B12)).mono ?_); (rintro e w3 ⟨F3, rfl, h3, hF3, fr3⟩; have K3 := K2.trans ⟨fr3, hF3⟩; have b3 := Lib.hid (b2.out.frame fr3 HG.out); obtain ⟨d30, d31, d32, d33⟩ := GC.out w3 b3.out; obtain ⟨t3, x3, v3⟩ := HX.out w3 F3 K3))
                      | (go_at_call 21; (with_reducible refine (zs w3 F3 t3 h3 x3).mono ?_); (rintro e w4 ⟨F4, rfl, h4, hF4, fr4⟩; have K4 := K3.trans ⟨fr4, hF4⟩; have b4 := Lib.hid (b3.out.frame fr4 (fun hx => (hF3 _ hx).elim HG.out fun y => by have := b2.out.lt; omega)); obtain ⟨d40, d41, d42, d43⟩ := GC.out w4 b4.out; obtain ⟨t4, x4, v4⟩ := HX.out w4 F4 K4))
                      | (go_at_call 24; (with_reducible refine (zc w4 F4 h4 v4).mono ?_); (rintro e w5 ⟨F5, rfl, h5, hF5, fr5⟩; have K5 := K4.trans ⟨fr5, hF5⟩; have b5 := Lib.hid (b4.out.frame fr5 (fun hx => (hF4 _ hx).elim (fun hy => (hF3 _ hy).elim HG.out fun y => by have := b2.out.lt; omega) fun y => by have := b3.out.lt; omega)); obtain ⟨d50, d51, d52, d53⟩ := GC.out w5 b5.out; obtain ⟨t5, x5, v5⟩ := HX.out w5 F5 K5))
                      | (go_at_call 20; (with_reducible refine (zl w5 F5 t5 h5).mono ?_); (rintro e w6 ⟨A6, c6, rfl, o6, B6⟩; have K6 := K5.trans (Keep.of_below B6); have h6 := At_step disks h5 B6; have b6 := Lib.hid (b5.out.step B6); obtain ⟨d60, d61, d62, d63⟩ := GC.out w6 b6.out; obtain ⟨t6, x6, v6⟩ := HX.out w6 F5 K6; have g6 := o6.bytes; have a6 := Aside.whole o6 (disks.lt _ _ _ _ h5))))
                    go_roundw
                    case rel => exact ⟨k + 1, F5, U, N, v, An, mn, cn, false, rfl, rfl, by go_num, by omega, by omega, ⟨h6, K6.far HF.out.1 HF.out.2.size, HF.out.2.trans (K6.below HF.out.1 HF.out.2.size), HU.out.1, HU.out.2.1, by have := HU.out.2.2.1; have := HI.out; omega, HU.out.2.2.2, by have := HI2.out; omega, fun _ => HN0.out, fun h => (by cases h)⟩⟩
                    case measure => simp [vN]; omega
                | true =>
                  obtain ⟨N1, hmn, hasd⟩ := some_ rfl
                  have lp := (Slot.load_pair u1 u2 u4).1 N1
                  rw [lp.1, lp.2] at zl
                  have HU := Lib.hid (And.intro u1 (And.intro u2 (And.intro u3 u4)))
                  have HNow := Lib.hid hasd
                  have HP := Lib.hid N1
                  have zm2 := fun A c w h h' => same_yes A v v.length c rfl An v mn cn hmn.symm w h h' rfl
                  cases hvb : (v == m.b) with
                  | true =>
                    have zm1 := fun A c w h h' => same_yes A v v.length c rfl m.A m.b m.b.length m.cb rfl w h h' (by simpa using hvb)
                    clear h_at below_ q_ hn_ ops_ pair_ few_ none_ some_ u1 u2 u3 u4 lp hasd hmn hvb N1
                    go_wp2_with (first
                      | ((with_reducible refine atWorld wr ?_); refine wpList_allocRow (w := wr) saveTy rfl rfl ?_; (intro w1 b1 B1 s1; have b1 := Lib.hid b1))
                      | ((with_reducible refine atWorld w1 ?_); refine wpList_storeRow (w := w1) saveTy rfl (.tmp 9) (.tmp 37) rfl wr.heap.size (saveCells m) saveZ rfl rfl rfl rfl (save_one m) b1.out ?_; (intro w2 b2 B2 s2 k2; have B12 : Below wr.heap.size wr w2 := B1.trans B2; have K2 : Keep F wr F w2 := Keep.of_below B12; have b2 := Lib.hid b2; obtain ⟨d0, d1, d2, d3⟩ := GC.out w2 b2.out))
                      | (go_at_call 23; (with_reducible refine (zf w2 (HD.out w2 B12)).mono ?_); (rintro e w3 ⟨F3, rfl, h3, hF3, fr3⟩; have K3 := K2.trans ⟨fr3, hF3⟩; have b3 := Lib.hid (b2.out.frame fr3 HG.out); obtain ⟨d30, d31, d32, d33⟩ := GC.out w3 b3.out; obtain ⟨t3, x3, v3⟩ := HX.out w3 F3 K3))
                      | (go_at_call 21; (with_reducible refine (zs w3 F3 t3 h3 x3).mono ?_); (rintro e w4 ⟨F4, rfl, h4, hF4, fr4⟩; have K4 := K3.trans ⟨fr4, hF4⟩; have b4 := Lib.hid (b3.out.frame fr4 (fun hx => (hF3 _ hx).elim HG.out fun y => by have := b2.out.lt; omega)); obtain ⟨d40, d41, d42, d43⟩ := GC.out w4 b4.out; obtain ⟨t4, x4, v4⟩ := HX.out w4 F4 K4))
                      | (go_at_call 24; (with_reducible refine (zc w4 F4 h4 v4).mono ?_); (rintro e w5 ⟨F5, rfl, h5, hF5, fr5⟩; have K5 := K4.trans ⟨fr5, hF5⟩; have b5 := Lib.hid (b4.out.frame fr5 (fun hx => (hF4 _ hx).elim (fun hy => (hF3 _ hy).elim HG.out fun y => by have := b2.out.lt; omega) fun y => by have := b3.out.lt; omega)); obtain ⟨d50, d51, d52, d53⟩ := GC.out w5 b5.out; obtain ⟨t5, x5, v5⟩ := HX.out w5 F5 K5))
                      | (go_at_call 20; (with_reducible refine (zl w5 F5 t5 h5).mono ?_); (rintro e w6 ⟨A6, c6, rfl, o6, B6⟩; have K6 := K5.trans (Keep.of_below B6); have h6 := At_step disks h5 B6; have b6 := Lib.hid (b5.out.step B6); obtain ⟨d60, d61, d62, d63⟩ := GC.out w6 b6.out; obtain ⟨t6, x6, v6⟩ := HX.out w6 F5 K6; have g6 := o6.bytes; have n6 := (HNow.out.keep K6).1; have a6 := Aside.whole o6 (disks.lt _ _ _ _ h5)))
                      | (go_at_call 16; first
                    | ((with_reducible refine (zm1 A6 c6 w6 g6 x6).mono ?_); (rintro e w7 ⟨rfl, rfl⟩))
                    | ((with_reducible refine (zm2 A6 c6 w6 g6 n6).mono ?_); (rintro e w7 ⟨rfl, rfl⟩))))
                    go_roundw
                    case rel => exact ⟨k + 1, F5, U, N, v, A6, _, c6, true, rfl, rfl, by go_num, by omega, by omega, ⟨h6, K6.far HF.out.1 HF.out.2.size, HF.out.2.trans (K6.below HF.out.1 HF.out.2.size), HU.out.1, HU.out.2.1, by have := HU.out.2.2.1; have := HI.out; omega, HU.out.2.2.2, by have := HI2.out; omega, fun h => (by cases h), fun _ => ⟨by first | omega | exact HP.out, rfl, a6⟩⟩⟩
                    case measure => simp [vN]; omega
                  | false =>
                    have zm1 := fun A c (w : World) (h : BytesAt w w.heap.size A v) (h' : BytesAt w w.heap.size m.A m.b) => sameBytes_any A v v.length c rfl m.A m.b m.b.length m.cb rfl w.heap.size w h h'
                    rw [hvb] at zm1
                    clear h_at below_ q_ hn_ ops_ pair_ few_ none_ some_ u1 u2 u3 u4 lp hasd hmn hvb N1
                    go_wp2_with (first
                      | ((with_reducible refine atWorld wr ?_); refine wpList_allocRow (w := wr) saveTy rfl rfl ?_; (intro w1 b1 B1 s1; have b1 := Lib.hid b1))
                      | ((with_reducible refine atWorld w1 ?_); refine wpList_storeRow (w := w1) saveTy rfl (.tmp 9) (.tmp 37) rfl wr.heap.size (saveCells m) saveZ rfl rfl rfl rfl (save_one m) b1.out ?_; (intro w2 b2 B2 s2 k2; have B12 : Below wr.heap.size wr w2 := B1.trans B2; have K2 : Keep F wr F w2 := Keep.of_below B12; have b2 := Lib.hid b2; obtain ⟨d0, d1, d2, d3⟩ := GC.out w2 b2.out))
                      | (go_at_call 23; (with_reducible refine (zf w2 (HD.out w2 B12)).mono ?_); (rintro e w3 ⟨F3, rfl, h3, hF3, fr3⟩; have K3 := K2.trans ⟨fr3, hF3⟩; have b3 := Lib.hid (b2.out.frame fr3 HG.out); obtain ⟨d30, d31, d32, d33⟩ := GC.out w3 b3.out; obtain ⟨t3, x3, v3⟩ := HX.out w3 F3 K3))
                      | (go_at_call 21; (with_reducible refine (zs w3 F3 t3 h3 x3).mono ?_); (rintro e w4 ⟨F4, rfl, h4, hF4, fr4⟩; have K4 := K3.trans ⟨fr4, hF4⟩; have b4 := Lib.hid (b3.out.frame fr4 (fun hx => (hF3 _ hx).elim HG.out fun y => by have := b2.out.lt; omega)); obtain ⟨d40, d41, d42, d43⟩ := GC.out w4 b4.out; obtain ⟨t4, x4, v4⟩ := HX.out w4 F4 K4))
                      | (go_at_call 24; (with_reducible refine (zc w4 F4 h4 v4).mono ?_); (rintro e w5 ⟨F5, rfl, h5, hF5, fr5⟩; have K5 := K4.trans ⟨fr5, hF5⟩; have b5 := Lib.hid (b4.out.frame fr5 (fun hx => (hF4 _ hx).elim (fun hy => (hF3 _ hy).elim HG.out fun y => by have := b2.out.lt; omega) fun y => by have := b3.out.lt; omega)); obtain ⟨d50, d51, d52, d53⟩ := GC.out w5 b5.out; obtain ⟨t5, x5, v5⟩ := HX.out w5 F5 K5))
                      | (go_at_call 20; (with_reducible refine (zl w5 F5 t5 h5).mono ?_); (rintro e w6 ⟨A6, c6, rfl, o6, B6⟩; have K6 := K5.trans (Keep.of_below B6); have h6 := At_step disks h5 B6; have b6 := Lib.hid (b5.out.step B6); obtain ⟨d60, d61, d62, d63⟩ := GC.out w6 b6.out; obtain ⟨t6, x6, v6⟩ := HX.out w6 F5 K6; have g6 := o6.bytes; have n6 := (HNow.out.keep K6).1; have a6 := Aside.whole o6 (disks.lt _ _ _ _ h5)))
                      | (go_at_call 16; first
                    | ((with_reducible refine (zm1 A6 c6 w6 g6 x6).mono ?_); (rintro e w7 ⟨rfl, rfl⟩))
                    | ((with_reducible refine (zm2 A6 c6 w6 g6 n6).mono ?_); (rintro e w7 ⟨rfl, rfl⟩))))
                    go_roundw
                    case rel => exact ⟨k + 1, F5, U, N, v, A6, _, c6, true, rfl, rfl, by go_num, by omega, by omega, ⟨h6, K6.far HF.out.1 HF.out.2.size, HF.out.2.trans (K6.below HF.out.1 HF.out.2.size), HU.out.1, HU.out.2.1, by have := HU.out.2.2.1; have := HI.out; omega, HU.out.2.2.2, by have := HI2.out; omega, fun h => (by cases h), fun _ => ⟨by first | omega | exact HP.out, rfl, a6⟩⟩⟩
                    case measure => simp [vN]; omega
      · obtain rfl : k = 20 := by omega
        have hB := Lib.hid inv.below
        clear inv
        go_wp2
        go_ret
        exact ⟨rfl, hB.out⟩
    · obtain rfl : k = n := by omega
      have hB := Lib.hid inv.below
      clear inv
      go_wp2
      go_ret
      exact ⟨rfl, hB.out⟩
end Go.Proofs.YtgnfajmjhlnobaaDoor
