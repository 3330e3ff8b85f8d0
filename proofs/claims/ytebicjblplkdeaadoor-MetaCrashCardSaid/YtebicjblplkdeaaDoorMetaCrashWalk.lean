/-
  The walk of MetaCrash. Conditions: the table of crc lies as the program's text lays it; what came in can be read.
-/
import Derived.Test.YtebicjblplkdeaaDoorMetaCrashM
import Derived.Test.YtebicjblplkdeaaDoorMetaSaves
import Derived.Test.YtebicjblplkdeaaDoorMetaAwake
import Derived.Test.YtebicjblplkdeaaDoorDiskAny
namespace Go.Proofs.YtebicjblplkdeaaDoor
open Go.RowKit Fix

def vNc : Value → Nat
  | .int _ q => q.toNat
  | _ => 0
/-- what holds between two saves: the disk, and the variable at g -/
structure McInv (w wr : World) (b g k : Nat) (F : Nat → Prop) (S : DS) (N : Nat) (v : Mt) : Prop where
  at_ : DiskAt wr b F S
  far : ∀ x, F x → w.heap.size ≤ x
  below : Below w.heap.size w wr
  now : BlkR 25 wr g (mtL v)
  gn : w.heap.size ≤ g
  gF : ¬ F g
  inv : Mt.Inv S N v
  ops : S.ops ≤ 4 * k + 4
  few : N ≤ k + 1
/-- within a round: the save's own variable, and that at g -/
structure McAt (F : Nat → Prop) (wr : World) (g : Nat) (m : MSave) (v : Mt) (F' : Nat → Prop) (w' : World) : Prop where
  keep : Keep F wr F' w'
  x : BlkR 49 w' wr.heap.size (msCells m)
  nx : ¬ F' wr.heap.size
  now : BlkR 25 w' g (mtL v)
  nn : ¬ F' g
theorem McAt.start {F : Nat → Prop} {wr w2 : World} {g : Nat} {m : MSave} {v : Mt} (h : BlkR 25 wr g (mtL v)) (hF : ∀ k, F k → k < wr.heap.size) (gF : ¬ F g) (B : Below wr.heap.size wr w2) (hx : BlkR 49 w2 wr.heap.size (msCells m)) : McAt F wr g m v F w2 :=
  ⟨Keep.of_below B, hx, fun h => Nat.lt_irrefl _ (hF _ h), h.go B, gF⟩
theorem McAt.step {F F' : Nat → Prop} {wr w' w2 : World} {g : Nat} {m : MSave} {v : Mt} (h : McAt F wr g m v F' w') (B : Below w'.heap.size w' w2) : McAt F wr g m v F' w2 :=
  ⟨h.keep.trans (Keep.of_below B), h.x.go B, h.nx, h.now.go B, h.nn⟩
theorem McAt.chg {F F' F2 : Nat → Prop} {wr w' w2 : World} {g : Nat} {m : MSave} {v : Mt} (h : McAt F wr g m v F' w') (fr : Frame F' w' w2) (hF : ∀ k, F2 k → F' k ∨ w'.heap.size ≤ k) : McAt F wr g m v F2 w2 :=
  ⟨h.keep.trans ⟨fr, hF⟩, h.x.frame fr h.nx, fun k => (hF _ k).elim h.nx fun y => by have := h.x.lt; omega, h.now.frame fr h.nn, fun k => (hF _ k).elim h.nn fun y => by have := h.now.lt; omega⟩
def McCells (g : Nat) (m : MSave) (h : Nat) (v : Mt) (w : World) : Prop :=
  w.cell? ⟨h, 0, none⟩ = some (.int .i64 m.m.t) ∧ w.cell? ⟨h, 1, none⟩ = some (.int .i64 m.m.v) ∧ w.cell? ⟨h, 2, none⟩ = some (.int .i64 m.m.rt) ∧ w.cell? ⟨h, 3, none⟩ = some (.int .i64 m.m.rn) ∧ w.cell? ⟨h, 4, none⟩ = some (.int .i64 m.m.rs) ∧ w.cell? ⟨h, 5, none⟩ = some (.int .i64 m.m.b) ∧
    w.cell? ⟨h, 6, none⟩ = some (.int .i64 m.stop) ∧ w.cell? ⟨h, 7, none⟩ = some (.slice m.AK m.keeps.length m.ck) ∧ w.cell? ⟨h, 8, none⟩ = some (.int .i64 m.tear) ∧
    w.cell? ⟨g, 0, none⟩ = some (.int .i64 v.t) ∧ w.cell? ⟨g, 1, none⟩ = some (.int .i64 v.v) ∧ w.cell? ⟨g, 2, none⟩ = some (.int .i64 v.rt) ∧ w.cell? ⟨g, 3, none⟩ = some (.int .i64 v.rn) ∧ w.cell? ⟨g, 4, none⟩ = some (.int .i64 v.rs) ∧ w.cell? ⟨g, 5, none⟩ = some (.int .i64 v.b)
theorem McAt.cells {F F' : Nat → Prop} {wr w' : World} {g : Nat} {m : MSave} {v : Mt} (h : McAt F wr g m v F' w') : McCells g m wr.heap.size v w' := by
  obtain ⟨a0, a1, a2, a3, a4, a5, a6, a7, a8⟩ := ms_cells h.x
  obtain ⟨b0, b1, b2, b3, b4, b5⟩ := mt_cells h.now
  exact ⟨a0, a1, a2, a3, a4, a5, a6, a7, a8, b0, b1, b2, b3, b4, b5⟩
theorem rangeM {w : World} {h : Nat} {m : MSave} (b : BlkR 49 w h (msCells m)) : w.rangeAt h 0 (mtL m.m) := rangeMid b (k := 0) (n := 6) rfl
theorem McAt.done {w wr w9 w10 : World} {b g k N : Nat} {F F' : Nat → Prop} {U : DS} {m : MSave} {v got : Mt} (far : ∀ x, F x → w.heap.size ≤ x) (below : Below w.heap.size w wr) (gn : w.heap.size ≤ g)
    (M : McAt F wr g m v F' w9) (a9 : DiskAt w9 b F' U) (now : BlkR 25 w10 g (mtL got)) (B : Below g w9 w10) (s : w10.heap.size = w9.heap.size) (kp : ∀ j, j ≠ g → w10.heap[j]? = w9.heap[j]?) (inv : Mt.Inv U N got) (ops : U.ops ≤ 4 * (k + 1) + 4) (few : N ≤ k + 1 + 1) : McInv w w10 b g (k + 1) F' U N got :=
  ⟨disks.keep w9 w10 b F' U a9 (Nat.le_of_eq s.symm) fun j hj => kp j fun e => M.nn (e ▸ hj), M.keep.far far below.size, (below.trans (M.keep.below far below.size)).trans (B.mono gn), now, gn, M.nn, inv, ops, few⟩
set_option maxRecDepth 100000 in
set_option maxHeartbeats 16000000 in
theorem crash_any (A0 : Option Addr) (l : List MSave) (c0 : Nat) (w : World) (ht : TabAt w) (hA : MSavesAt w w.heap.size A0 l) (hms : l.length ≤ 9223372036854775807) :
    Calls Tryd.prog 4 #[.slice A0 l.length c0] w fun e w' => e = .returned (.bool true) ∧ Below w.heap.size w w' := by
  have zn := fun w : World => disks.new_yes 3 w (by decide) (by decide)
  rw [show ((3 : Nat) : Int) = 3 from rfl] at zn
  have zw := fun w => awake_any w
  have zf := fun w => first_any w
  obtain ⟨T0, s0, i0, o0⟩ := Mt.start
  have z0 := fun w b F t h => metaSave_any disks w b F (DS.fresh 3) 1 Mt.first t h (by decide)
  unfold ChgPost at z0
  rw [s0] at z0
  obtain ⟨n, hn⟩ : ∃ n, n = l.length := ⟨_, rfl⟩
  rw [← hn] at hms ⊢
  have HA := Lib.hid (And.intro hA hn)
  have HT := Lib.hid ht
  clear hA hn s0
  go_enter Tryd.func4, Tryd.ntmps4
  go_wp2_with (first
    | (go_at_call 8; refine (zw w).mono ?_; (rintro e w1 ⟨rfl, B1⟩))
    | (go_at_call 9; refine (zn w1).mono ?_; (rintro e w2 ⟨b, F0, rfl, h2, hF2, B2⟩))
    | (go_at_call 10; first
      | ((with_reducible refine (zf w2).mono ?_); (rintro e w3 ⟨rfl, B3⟩; have h3 := At_step disks h2 B3; have C3 := step_trans B2 B3; have t3 := HT.out.below (step_trans B1 C3) (Nat.le_refl _)))
      | ((with_reducible refine (zf w4).mono ?_); (rintro e w5 ⟨rfl, B5⟩; have h5 := At_step disks h4 B5; have C5 := C4.trans (B5.mono C4.size))))
    | (go_at_call 7; (with_reducible refine (z0 w3 b F0 t3 h3).mono ?_); (rintro e w4 ⟨F4, rfl, h4, hF4, fr4⟩; obtain ⟨C4, G4⟩ := chg_go C3 hF2 hF4 fr4))
    | ((with_reducible refine atWorld w5 ?_); refine wpList_allocRow (w := w5) metaTy rfl rfl ?_; (intro w6 b6 B6 s6; have b6 := Lib.hid b6))
    | ((with_reducible refine atWorld w6 ?_); refine wpList_storeRow (w := w6) metaTy rfl (.tmp 6) (.tmp 29) rfl w5.heap.size (mtL Mt.first) (mtL Mt.zero) rfl rfl rfl rfl (mtL_one _) b6.out ?_; (intro w7 b7 B7 s7 k7; have C57 : Below w5.heap.size w5 w7 := B6.trans B7)))
  have I0 : McInv w w7 b w5.heap.size 0 F4 T0 1 Mt.first := ⟨At_step disks h5 C57, fun k hk => Nat.le_trans B1.size (G4 k hk), step_trans B1 (C5.trans (C57.mono C5.size)), b7, Nat.le_trans B1.size C5.size, fun hx => Nat.lt_irrefl _ (disks.lt _ _ _ _ h5 _ hx), i0, o0, by decide⟩
  replace I0 := Lib.hid I0
  clear zn zw zf z0 B1 B2 B3 B5 B6 B7 C3 C4 C5 C57 h2 h3 h4 h5 hF2 hF4 fr4 G4 b6 b7 s6 s7 k7 ht t3 o0 i0
  obtain ⟨g, hg⟩ : ∃ g, g = w5.heap.size := ⟨_, rfl⟩
  rw [← hg] at I0 ⊢
  clear hg
  go_loopw [7] (fun ix wr => ∃ k F S N v, ix = .int .i64 ((k : Nat) : Int) ∧ k ≤ n ∧ k ≤ 20 ∧ McInv w wr b g k F S N v) (fun ix _ => 21 - vNc ix)
  case atStart => exact ⟨0, F4, _, 1, _, rfl, Nat.zero_le _, Nat.zero_le _, I0.out⟩
  case round =>
    obtain ⟨k, F, S, N, v, rfl, hk, hk2, inv⟩ := hrel
    clear I0
    by_cases hlt : k < n
    · by_cases h20 : k < 20
      · obtain ⟨m, hm⟩ : ∃ m, l[k]? = some m := ⟨_, List.getElem?_eq_getElem (by rw [← HA.out.2]; exact hlt)⟩
        have hmem := List.mem_of_getElem? hm
        obtain ⟨ad, rfl, y0, y1, y2, y3, y4, y5, y6, y7, y8⟩ := ms_at HA.out.1 inv.below hm
        obtain ⟨h_at, far_, below_, now_, gn_, gF_, inv_, ops_, few_⟩ := inv
        have hlt' : (k : Int) < (n : Int) := by omega
        have h20' : (k : Int) < 20 := by omega
        have hw1 : IntKind.i64.wrap ((k : Int) + 1) = (k : Int) + 1 := IntWalk.i64_in _ (by omega)
        have HF := Lib.hid (And.intro far_ (And.intro below_ gn_))
        have M2 := Lib.hid (fun (w2 : World) (B : Below wr.heap.size wr w2) (hx : BlkR 49 w2 wr.heap.size (msCells m)) => McAt.start now_ (disks.lt _ _ _ _ h_at) gF_ B hx)
        have HD := Lib.hid (fun (w' : World) (hb : Below wr.heap.size wr w') => At_step disks h_at hb)
        have GC := Lib.hid (fun (w' : World) (h : BlkR 49 w' wr.heap.size (msCells m)) => ms_cells h)
        have HX : ∀ w' F', Keep F wr F' w' → TabAt w' ∧ RowAt w' w'.heap.size m.AK (m.keeps.map Value.bool) := fun w' F' K => by
          have hB := HF.out.2.1.trans (K.below HF.out.1 HF.out.2.1.size)
          exact ⟨HT.out.below hB (Nat.le_refl _), ((HA.out.1.k m hmem).below hB).more hB.size⟩
        replace HX := Lib.hid HX
        have stn := HA.out.1.n m hmem
        have HI := Lib.hid (And.intro ops_ few_)
        have hN : N < 1000 := by omega
        have hO : S.ops ≤ 990000 := by omega
        clear far_ gn_ now_ gF_ hm h_at below_ ops_ few_
        by_cases hk10 : 10 < m.keeps.length
        · have i2 : (10 : Int) < (m.keeps.length : Int) := by omega
          clear inv_ HD HX stn M2
          go_wp2_with (first
            | ((with_reducible refine atWorld wr ?_); refine wpList_allocRow (w := wr) msTy rfl rfl ?_; (intro w1 b1 B1 s1; have b1 := Lib.hid b1))
            | ((with_reducible refine atWorld w1 ?_); refine wpList_storeRow (w := w1) msTy rfl (.tmp 8) (.tmp 43) rfl wr.heap.size (msCells m) msZ rfl rfl rfl rfl (ms_one m) b1.out ?_; (intro w2 b2 B2 s2 k2; have B12 : Below wr.heap.size wr w2 := B1.trans B2; obtain ⟨d0, d1, d2, d3, d4, d5, d6, d7, d8⟩ := GC.out w2 b2)))
          go_ret
          exact ⟨rfl, HF.out.2.1.trans (B12.mono HF.out.2.1.size)⟩
        · have i2 : ¬ (10 : Int) < (m.keeps.length : Int) := by omega
          have zl : ∀ U N' got, Mt.Inv U N' got → ∀ w F, TabAt w → DiskAt w b F U → _ := fun U N' got i w F t h => metaLoad_any disks w b F U 1 t h
          unfold MtLd at zl
          have zk := fun w => check_any m.m w
          cases hok : m.m.ok with
          | false =>
            rw [Mt.err_no hok] at zk
            by_cases hst : m.stop < 0
            · have hst2 : ¬ (0 : Int) ≤ m.stop := by omega
              have zs : ∀ w F, TabAt w → DiskAt w b F S → _ := fun w F t h => metaSave_any disks w b F S 1 m.m t h hO
              rw [Mt.save_no S 1 hok] at zs
              unfold ChgPost at zs
              have zl := zl S N v inv_
              rw [inv_.load.1, inv_.load.2] at zl
              have HU : Hid (Mt.Inv S N v ∧ S.ops ≤ 4 * (k + 1) + 4 ∧ N ≤ k + 1 + 1) := Lib.hid ⟨inv_, by have := HI.out; omega, by have := HI.out; omega⟩
              clear inv_ hok
              go_wp2_with (first
                | ((with_reducible refine atWorld wr ?_); refine wpList_allocRow (w := wr) msTy rfl rfl ?_; (intro w1 b1 B1 s1; have b1 := Lib.hid b1))
                | ((with_reducible refine atWorld w1 ?_); refine wpList_storeRow (w := w1) msTy rfl (.tmp 8) (.tmp 43) rfl wr.heap.size (msCells m) msZ rfl rfl rfl rfl (ms_one m) b1.out ?_; (intro w2 b2 B2 s2 k2; have B12 : Below wr.heap.size wr w2 := B1.trans B2; have h2 := HD.out w2 B12; have M2 := Lib.hid (M2.out w2 B12 b2); obtain ⟨t2, v2⟩ := HX.out w2 F M2.out.keep; clear b1 B1 s1 b2 B2 s2 k2; obtain ⟨e20, e21, e22, e23, e24, e25, e26, e27, e28, n20, n21, n22, n23, n24, n25⟩ := M2.out.cells))
                | ((with_reducible refine atWorld w2 ?_); refine wpList_loadRow (w := w2) metaTy rfl (.tmp 60) rfl wr.heap.size 0 (mtL m.m) rfl rfl (rangeM M2.out.x) ?_)
                | (go_at_call 7; refine (zs w2 F t2 h2).mono ?_; (rintro e w4 ⟨F4, rfl, h4, hF4, fr4⟩; have M4 := Lib.hid (M2.out.chg fr4 hF4); clear hF4 fr4; obtain ⟨e40, e41, e42, e43, e44, e45, e46, e47, e48, n40, n41, n42, n43, n44, n45⟩ := M4.out.cells))
                | (go_at_call 12; refine (zk w4).mono ?_; (rintro e w5 ⟨rfl, B5⟩; have h5 := At_step disks h4 B5; have M5 := Lib.hid (M4.out.step B5); obtain ⟨t5, v5⟩ := HX.out w5 F4 M5.out.keep; obtain ⟨e50, e51, e52, e53, e54, e55, e56, e57, e58, n50, n51, n52, n53, n54, n55⟩ := M5.out.cells))
                | (go_at_call 6; (with_reducible refine (zl w5 F4 t5 h5).mono ?_); (rintro e w7 ⟨rfl, B7⟩; have h7 := At_step disks h5 B7; have M7 := Lib.hid (M5.out.step B7)))
                | ((with_reducible refine atWorld w7 ?_); refine wpList_allocRow (w := w7) metaTy rfl rfl ?_; (intro w8 b8 B8 s8; have b8 := Lib.hid b8))
                | ((with_reducible refine atWorld w8 ?_); refine wpList_storeRow (w := w8) metaTy rfl (.tmp 10) (.tmp 102) rfl w7.heap.size (mtL v) (mtL Mt.zero) rfl rfl rfl rfl (mtL_one _) b8.out ?_; (intro w9 b9 B9 s9 k9; have C9 : Below w7.heap.size w7 w9 := B8.trans B9; have h9 := At_step disks h7 C9; have M9 := Lib.hid (M7.out.step C9); obtain ⟨u0, u1, u2, u3, u4, u5⟩ := mt_cells b9; have b9 := Lib.hid b9; clear B8 s8 b8 B9 s9 k9; obtain ⟨e90, e91, e92, e93, e94, e95, e96, e97, e98, n90, n91, n92, n93, n94, n95⟩ := M9.out.cells))
                | ((with_reducible refine atWorld w9 ?_); refine wpList_loadRow (w := w9) metaTy rfl (.tmp 10) rfl w7.heap.size 0 (mtL v) rfl rfl (rangeOf b9.out) ?_)
                | ((with_reducible refine atWorld w9 ?_); refine wpList_storeRow (w := w9) metaTy rfl (.tmp 6) (.tmp 135) rfl g (mtL v) (mtL v) rfl rfl rfl rfl (mtL_one _) M9.out.now ?_; (intro w10 b10 B10 s10 k10; have D10 := Lib.hid (McAt.done HF.out.1 HF.out.2.1 HF.out.2.2 M9.out h9 b10 B10 s10 k10 HU.out.1 HU.out.2.1 HU.out.2.2); clear b10 B10 s10 k10)))
              go_roundw
              case rel => exact ⟨k + 1, F4, _, _, _, by go_num, by omega, by omega, D10.out⟩
              case measure => simp [vNc]; omega
            · have hst2 : (0 : Int) ≤ m.stop := by omega
              have zf : ∀ w, DiskAt w b F S → _ := fun w h => disks.fuse w b F S m.stop h stn.1 stn.2
              rw [show S.fuse m.stop = ({ S with left := some m.stop.toNat }, 0) by unfold DS.fuse; rw [inv_.q.out]; simp [hst]] at zf
              have zs : ∀ w F, TabAt w → DiskAt w b F { S with left := some m.stop.toNat } → _ := fun w F t h => metaSave_any disks w b F _ 1 m.m t h hO
              rw [Mt.save_no _ 1 hok] at zs
              unfold ChgPost at zs
              obtain ⟨i1, i2⟩ := inv_.idle m.stop.toNat m.keeps m.tear
              obtain ⟨T, hT⟩ : ∃ T : DS, T = { S with left := some m.stop.toNat } := ⟨_, rfl⟩
              rw [← hT] at zf zs i1 i2
              have zc : ∀ w F, DiskAt w b F T → RowAt w w.heap.size m.AK (m.keeps.map Value.bool) → _ := fun w F h r => dCrash w b F T m.AK m.keeps m.keeps.length m.ck m.tear h r rfl
              unfold DPost at zc
              obtain ⟨U, hU⟩ : ∃ U, U = T.crash m.keeps m.tear := ⟨_, rfl⟩
              rw [← hU] at zc i1 i2
              have zl := zl U N v i1
              rw [i1.load.1, i1.load.2] at zl
              have HU : Hid (Mt.Inv U N v ∧ U.ops ≤ 4 * (k + 1) + 4 ∧ N ≤ k + 1 + 1) := Lib.hid ⟨i1, by have := HI.out; omega, by have := HI.out; omega⟩
              clear hU hT inv_ hok i1 i2
              go_wp2_with (first
                | ((with_reducible refine atWorld wr ?_); refine wpList_allocRow (w := wr) msTy rfl rfl ?_; (intro w1 b1 B1 s1; have b1 := Lib.hid b1))
                | ((with_reducible refine atWorld w1 ?_); refine wpList_storeRow (w := w1) msTy rfl (.tmp 8) (.tmp 43) rfl wr.heap.size (msCells m) msZ rfl rfl rfl rfl (ms_one m) b1.out ?_; (intro w2 b2 B2 s2 k2; have B12 : Below wr.heap.size wr w2 := B1.trans B2; have h2 := HD.out w2 B12; have M2 := Lib.hid (M2.out w2 B12 b2); obtain ⟨t2, v2⟩ := HX.out w2 F M2.out.keep; clear b1 B1 s1 b2 B2 s2 k2; obtain ⟨e20, e21, e22, e23, e24, e25, e26, e27, e28, n20, n21, n22, n23, n24, n25⟩ := M2.out.cells))
                | (go_at_call 11; (with_reducible refine (zf w2 h2).mono ?_); (rintro e w3 ⟨F3, rfl, h3, hF3, fr3⟩; have M3 := Lib.hid (M2.out.chg fr3 hF3); obtain ⟨t3, v3⟩ := HX.out w3 F3 M3.out.keep; clear hF3 fr3; obtain ⟨e30, e31, e32, e33, e34, e35, e36, e37, e38, n30, n31, n32, n33, n34, n35⟩ := M3.out.cells))
                | ((with_reducible refine atWorld w3 ?_); refine wpList_loadRow (w := w3) metaTy rfl (.tmp 60) rfl wr.heap.size 0 (mtL m.m) rfl rfl (rangeM M3.out.x) ?_)
                | (go_at_call 7; refine (zs w3 F3 t3 h3).mono ?_; (rintro e w4 ⟨F4, rfl, h4, hF4, fr4⟩; have M4 := Lib.hid (M3.out.chg fr4 hF4); clear hF4 fr4; obtain ⟨e40, e41, e42, e43, e44, e45, e46, e47, e48, n40, n41, n42, n43, n44, n45⟩ := M4.out.cells))
                | (go_at_call 12; refine (zk w4).mono ?_; (rintro e w5 ⟨rfl, B5⟩; have h5 := At_step disks h4 B5; have M5 := Lib.hid (M4.out.step B5); obtain ⟨t5, v5⟩ := HX.out w5 F4 M5.out.keep; obtain ⟨e50, e51, e52, e53, e54, e55, e56, e57, e58, n50, n51, n52, n53, n54, n55⟩ := M5.out.cells))
                | (go_at_call 13; (with_reducible refine (zc w5 F4 h5 v5).mono ?_); (rintro e w6 ⟨F6, rfl, h6, hF6, fr6⟩; have M6 := Lib.hid (M5.out.chg fr6 hF6); obtain ⟨t6, v6⟩ := HX.out w6 F6 M6.out.keep; clear hF6 fr6; obtain ⟨e60, e61, e62, e63, e64, e65, e66, e67, e68, n60, n61, n62, n63, n64, n65⟩ := M6.out.cells))
                | (go_at_call 6; (with_reducible refine (zl w6 F6 t6 h6).mono ?_); (rintro e w7 ⟨rfl, B7⟩; have h7 := At_step disks h6 B7; have M7 := Lib.hid (M6.out.step B7)))
                | ((with_reducible refine atWorld w7 ?_); refine wpList_allocRow (w := w7) metaTy rfl rfl ?_; (intro w8 b8 B8 s8; have b8 := Lib.hid b8))
                | ((with_reducible refine atWorld w8 ?_); refine wpList_storeRow (w := w8) metaTy rfl (.tmp 10) (.tmp 102) rfl w7.heap.size (mtL v) (mtL Mt.zero) rfl rfl rfl rfl (mtL_one _) b8.out ?_; (intro w9 b9 B9 s9 k9; have C9 : Below w7.heap.size w7 w9 := B8.trans B9; have h9 := At_step disks h7 C9; have M9 := Lib.hid (M7.out.step C9); obtain ⟨u0, u1, u2, u3, u4, u5⟩ := mt_cells b9; have b9 := Lib.hid b9; clear B8 s8 b8 B9 s9 k9; obtain ⟨e90, e91, e92, e93, e94, e95, e96, e97, e98, n90, n91, n92, n93, n94, n95⟩ := M9.out.cells))
                | ((with_reducible refine atWorld w9 ?_); refine wpList_loadRow (w := w9) metaTy rfl (.tmp 10) rfl w7.heap.size 0 (mtL v) rfl rfl (rangeOf b9.out) ?_)
                | ((with_reducible refine atWorld w9 ?_); refine wpList_storeRow (w := w9) metaTy rfl (.tmp 6) (.tmp 135) rfl g (mtL v) (mtL v) rfl rfl rfl rfl (mtL_one _) M9.out.now ?_; (intro w10 b10 B10 s10 k10; have D10 := Lib.hid (McAt.done HF.out.1 HF.out.2.1 HF.out.2.2 M9.out h9 b10 B10 s10 k10 HU.out.1 HU.out.2.1 HU.out.2.2); clear b10 B10 s10 k10)))
              go_roundw
              case rel => exact ⟨k + 1, F6, _, _, _, by go_num, by omega, by omega, D10.out⟩
              case measure => simp [vNc]; omega
          | true =>
            rw [Mt.err_ok hok] at zk
            by_cases hst : m.stop < 0
            · have hst2 : ¬ (0 : Int) ≤ m.stop := by omega
              obtain ⟨U, s1, i1, i2⟩ := inv_.calm hN hok
              have zs : ∀ w F, TabAt w → DiskAt w b F S → _ := fun w F t h => metaSave_any disks w b F S 1 m.m t h hO
              rw [s1] at zs
              unfold ChgPost at zs
              have zl := zl U (N + 1) m.m i1
              rw [i1.load.1, i1.load.2] at zl
              have HU : Hid (Mt.Inv U (N + 1) m.m ∧ U.ops ≤ 4 * (k + 1) + 4 ∧ N + 1 ≤ k + 1 + 1) := Lib.hid ⟨i1, by have := HI.out; omega, by have := HI.out; omega⟩
              clear s1 inv_ hok i1 i2
              go_wp2_with (first
                | ((with_reducible refine atWorld wr ?_); refine wpList_allocRow (w := wr) msTy rfl rfl ?_; (intro w1 b1 B1 s1; have b1 := Lib.hid b1))
                | ((with_reducible refine atWorld w1 ?_); refine wpList_storeRow (w := w1) msTy rfl (.tmp 8) (.tmp 43) rfl wr.heap.size (msCells m) msZ rfl rfl rfl rfl (ms_one m) b1.out ?_; (intro w2 b2 B2 s2 k2; have B12 : Below wr.heap.size wr w2 := B1.trans B2; have h2 := HD.out w2 B12; have M2 := Lib.hid (M2.out w2 B12 b2); obtain ⟨t2, v2⟩ := HX.out w2 F M2.out.keep; clear b1 B1 s1 b2 B2 s2 k2; obtain ⟨e20, e21, e22, e23, e24, e25, e26, e27, e28, n20, n21, n22, n23, n24, n25⟩ := M2.out.cells))
                | ((with_reducible refine atWorld w2 ?_); refine wpList_loadRow (w := w2) metaTy rfl (.tmp 60) rfl wr.heap.size 0 (mtL m.m) rfl rfl (rangeM M2.out.x) ?_)
                | (go_at_call 7; refine (zs w2 F t2 h2).mono ?_; (rintro e w4 ⟨F4, rfl, h4, hF4, fr4⟩; have M4 := Lib.hid (M2.out.chg fr4 hF4); clear hF4 fr4; obtain ⟨e40, e41, e42, e43, e44, e45, e46, e47, e48, n40, n41, n42, n43, n44, n45⟩ := M4.out.cells))
                | (go_at_call 12; refine (zk w4).mono ?_; (rintro e w5 ⟨rfl, B5⟩; have h5 := At_step disks h4 B5; have M5 := Lib.hid (M4.out.step B5); obtain ⟨t5, v5⟩ := HX.out w5 F4 M5.out.keep; obtain ⟨e50, e51, e52, e53, e54, e55, e56, e57, e58, n50, n51, n52, n53, n54, n55⟩ := M5.out.cells))
                | (go_at_call 6; (with_reducible refine (zl w5 F4 t5 h5).mono ?_); (rintro e w7 ⟨rfl, B7⟩; have h7 := At_step disks h5 B7; have M7 := Lib.hid (M5.out.step B7)))
                | ((with_reducible refine atWorld w7 ?_); refine wpList_allocRow (w := w7) metaTy rfl rfl ?_; (intro w8 b8 B8 s8; have b8 := Lib.hid b8))
                | ((with_reducible refine atWorld w8 ?_); refine wpList_storeRow (w := w8) metaTy rfl (.tmp 10) (.tmp 102) rfl w7.heap.size (mtL m.m) (mtL Mt.zero) rfl rfl rfl rfl (mtL_one _) b8.out ?_; (intro w9 b9 B9 s9 k9; have C9 : Below w7.heap.size w7 w9 := B8.trans B9; have h9 := At_step disks h7 C9; have M9 := Lib.hid (M7.out.step C9); obtain ⟨u0, u1, u2, u3, u4, u5⟩ := mt_cells b9; have b9 := Lib.hid b9; clear B8 s8 b8 B9 s9 k9; obtain ⟨e90, e91, e92, e93, e94, e95, e96, e97, e98, n90, n91, n92, n93, n94, n95⟩ := M9.out.cells))
                | ((with_reducible refine atWorld w9 ?_); refine wpList_loadRow (w := w9) metaTy rfl (.tmp 10) rfl w7.heap.size 0 (mtL m.m) rfl rfl (rangeOf b9.out) ?_)
                | ((with_reducible refine atWorld w9 ?_); refine wpList_storeRow (w := w9) metaTy rfl (.tmp 6) (.tmp 135) rfl g (mtL m.m) (mtL v) rfl rfl rfl rfl (mtL_one _) M9.out.now ?_; (intro w10 b10 B10 s10 k10; have D10 := Lib.hid (McAt.done HF.out.1 HF.out.2.1 HF.out.2.2 M9.out h9 b10 B10 s10 k10 HU.out.1 HU.out.2.1 HU.out.2.2); clear b10 B10 s10 k10)))
              go_roundw
              case rel => exact ⟨k + 1, F4, _, _, _, by go_num, by omega, by omega, D10.out⟩
              case measure => simp [vNc]; omega
            · have hst2 : (0 : Int) ≤ m.stop := by omega
              obtain ⟨T, e, s1, q1, q2, q3⟩ := inv_.stop hN hok m.stop.toNat m.keeps m.tear
              have zf : ∀ w, DiskAt w b F S → _ := fun w h => disks.fuse w b F S m.stop h stn.1 stn.2
              rw [show S.fuse m.stop = ({ S with left := some m.stop.toNat }, 0) by unfold DS.fuse; rw [inv_.q.out]; simp [hst]] at zf
              have zs : ∀ w F, TabAt w → DiskAt w b F { S with left := some m.stop.toNat } → _ := fun w F t h => metaSave_any disks w b F _ 1 m.m t h hO
              rw [s1] at zs
              unfold ChgPost at zs
              obtain ⟨S1, hS1⟩ : ∃ S1 : DS, S1 = { S with left := some m.stop.toNat } := ⟨_, rfl⟩
              rw [← hS1] at zf zs
              have zc : ∀ w F, DiskAt w b F T → RowAt w w.heap.size m.AK (m.keeps.map Value.bool) → _ := fun w F h r => dCrash w b F T m.AK m.keeps m.keeps.length m.ck m.tear h r rfl
              unfold DPost at zc
              obtain ⟨U, hU⟩ : ∃ U, U = T.crash m.keeps m.tear := ⟨_, rfl⟩
              rw [← hU] at zc q2 q3
              have p3 : e = 0 ∧ Mt.Inv U (N + 1) m.m ∨ e = 10 ∧ (m.m ≠ v ∧ Mt.Inv U (N + 1) m.m ∨ ∃ N', N' ≤ N + 1 ∧ Mt.Inv U N' v) := by
                rcases q3 with t3 | ⟨e1, t3 | t3⟩
                · exact .inl t3
                · by_cases hx : m.m = v
                  · exact .inr ⟨e1, .inr ⟨N + 1, Nat.le_refl _, hx ▸ t3⟩⟩
                  · exact .inr ⟨e1, .inl ⟨hx, t3⟩⟩
                · exact .inr ⟨e1, .inr ⟨N, Nat.le_succ _, t3⟩⟩
              clear hU hS1 s1 q1 q3 inv_ hok
              rcases p3 with ⟨rfl, i1⟩ | ⟨rfl, ⟨hx, i1⟩ | ⟨N', hN', i1⟩⟩
              · have zl := zl U (N + 1) m.m i1
                rw [i1.load.1, i1.load.2] at zl
                have HU : Hid (Mt.Inv U (N + 1) m.m ∧ U.ops ≤ 4 * (k + 1) + 4 ∧ N + 1 ≤ k + 1 + 1) := Lib.hid ⟨i1, by have := HI.out; omega, by have := HI.out; omega⟩
                clear i1 q2
                go_wp2_with (first
                  | ((with_reducible refine atWorld wr ?_); refine wpList_allocRow (w := wr) msTy rfl rfl ?_; (intro w1 b1 B1 s1; have b1 := Lib.hid b1))
                  | ((with_reducible refine atWorld w1 ?_); refine wpList_storeRow (w := w1) msTy rfl (.tmp 8) (.tmp 43) rfl wr.heap.size (msCells m) msZ rfl rfl rfl rfl (ms_one m) b1.out ?_; (intro w2 b2 B2 s2 k2; have B12 : Below wr.heap.size wr w2 := B1.trans B2; have h2 := HD.out w2 B12; have M2 := Lib.hid (M2.out w2 B12 b2); obtain ⟨t2, v2⟩ := HX.out w2 F M2.out.keep; clear b1 B1 s1 b2 B2 s2 k2; obtain ⟨e20, e21, e22, e23, e24, e25, e26, e27, e28, n20, n21, n22, n23, n24, n25⟩ := M2.out.cells))
                  | (go_at_call 11; (with_reducible refine (zf w2 h2).mono ?_); (rintro e w3 ⟨F3, rfl, h3, hF3, fr3⟩; have M3 := Lib.hid (M2.out.chg fr3 hF3); obtain ⟨t3, v3⟩ := HX.out w3 F3 M3.out.keep; clear hF3 fr3; obtain ⟨e30, e31, e32, e33, e34, e35, e36, e37, e38, n30, n31, n32, n33, n34, n35⟩ := M3.out.cells))
                  | ((with_reducible refine atWorld w3 ?_); refine wpList_loadRow (w := w3) metaTy rfl (.tmp 60) rfl wr.heap.size 0 (mtL m.m) rfl rfl (rangeM M3.out.x) ?_)
                  | (go_at_call 7; refine (zs w3 F3 t3 h3).mono ?_; (rintro e w4 ⟨F4, rfl, h4, hF4, fr4⟩; have M4 := Lib.hid (M3.out.chg fr4 hF4); clear hF4 fr4; obtain ⟨e40, e41, e42, e43, e44, e45, e46, e47, e48, n40, n41, n42, n43, n44, n45⟩ := M4.out.cells))
                  | (go_at_call 12; refine (zk w4).mono ?_; (rintro e w5 ⟨rfl, B5⟩; have h5 := At_step disks h4 B5; have M5 := Lib.hid (M4.out.step B5); obtain ⟨t5, v5⟩ := HX.out w5 F4 M5.out.keep; obtain ⟨e50, e51, e52, e53, e54, e55, e56, e57, e58, n50, n51, n52, n53, n54, n55⟩ := M5.out.cells))
                  | (go_at_call 13; (with_reducible refine (zc w5 F4 h5 v5).mono ?_); (rintro e w6 ⟨F6, rfl, h6, hF6, fr6⟩; have M6 := Lib.hid (M5.out.chg fr6 hF6); obtain ⟨t6, v6⟩ := HX.out w6 F6 M6.out.keep; clear hF6 fr6; obtain ⟨e60, e61, e62, e63, e64, e65, e66, e67, e68, n60, n61, n62, n63, n64, n65⟩ := M6.out.cells))
                  | (go_at_call 6; (with_reducible refine (zl w6 F6 t6 h6).mono ?_); (rintro e w7 ⟨rfl, B7⟩; have h7 := At_step disks h6 B7; have M7 := Lib.hid (M6.out.step B7)))
                  | ((with_reducible refine atWorld w7 ?_); refine wpList_allocRow (w := w7) metaTy rfl rfl ?_; (intro w8 b8 B8 s8; have b8 := Lib.hid b8))
                  | ((with_reducible refine atWorld w8 ?_); refine wpList_storeRow (w := w8) metaTy rfl (.tmp 10) (.tmp 102) rfl w7.heap.size (mtL m.m) (mtL Mt.zero) rfl rfl rfl rfl (mtL_one _) b8.out ?_; (intro w9 b9 B9 s9 k9; have C9 : Below w7.heap.size w7 w9 := B8.trans B9; have h9 := At_step disks h7 C9; have M9 := Lib.hid (M7.out.step C9); obtain ⟨u0, u1, u2, u3, u4, u5⟩ := mt_cells b9; have b9 := Lib.hid b9; clear B8 s8 b8 B9 s9 k9; obtain ⟨e90, e91, e92, e93, e94, e95, e96, e97, e98, n90, n91, n92, n93, n94, n95⟩ := M9.out.cells))
                  | ((with_reducible refine atWorld w9 ?_); refine wpList_loadRow (w := w9) metaTy rfl (.tmp 10) rfl w7.heap.size 0 (mtL m.m) rfl rfl (rangeOf b9.out) ?_)
                  | ((with_reducible refine atWorld w9 ?_); refine wpList_storeRow (w := w9) metaTy rfl (.tmp 6) (.tmp 135) rfl g (mtL m.m) (mtL v) rfl rfl rfl rfl (mtL_one _) M9.out.now ?_; (intro w10 b10 B10 s10 k10; have D10 := Lib.hid (McAt.done HF.out.1 HF.out.2.1 HF.out.2.2 M9.out h9 b10 B10 s10 k10 HU.out.1 HU.out.2.1 HU.out.2.2); clear b10 B10 s10 k10)))
                go_roundw
                case rel => exact ⟨k + 1, F6, _, _, _, by go_num, by omega, by omega, D10.out⟩
                case measure => simp [vNc]; omega
              · have zl := zl U (N + 1) m.m i1
                rw [i1.load.1, i1.load.2] at zl
                have HU : Hid (Mt.Inv U (N + 1) m.m ∧ U.ops ≤ 4 * (k + 1) + 4 ∧ N + 1 ≤ k + 1 + 1) := Lib.hid ⟨i1, by have := HI.out; omega, by have := HI.out; omega⟩
                have E := fun w => eqM m.m v w
                rw [eqB_no hx] at E
                unfold mtL at E
                clear i1 q2 hx
                go_wp2_with (first
                  | ((with_reducible refine atWorld wr ?_); refine wpList_allocRow (w := wr) msTy rfl rfl ?_; (intro w1 b1 B1 s1; have b1 := Lib.hid b1))
                  | ((with_reducible refine atWorld w1 ?_); refine wpList_storeRow (w := w1) msTy rfl (.tmp 8) (.tmp 43) rfl wr.heap.size (msCells m) msZ rfl rfl rfl rfl (ms_one m) b1.out ?_; (intro w2 b2 B2 s2 k2; have B12 : Below wr.heap.size wr w2 := B1.trans B2; have h2 := HD.out w2 B12; have M2 := Lib.hid (M2.out w2 B12 b2); obtain ⟨t2, v2⟩ := HX.out w2 F M2.out.keep; clear b1 B1 s1 b2 B2 s2 k2; obtain ⟨e20, e21, e22, e23, e24, e25, e26, e27, e28, n20, n21, n22, n23, n24, n25⟩ := M2.out.cells))
                  | (go_at_call 11; (with_reducible refine (zf w2 h2).mono ?_); (rintro e w3 ⟨F3, rfl, h3, hF3, fr3⟩; have M3 := Lib.hid (M2.out.chg fr3 hF3); obtain ⟨t3, v3⟩ := HX.out w3 F3 M3.out.keep; clear hF3 fr3; obtain ⟨e30, e31, e32, e33, e34, e35, e36, e37, e38, n30, n31, n32, n33, n34, n35⟩ := M3.out.cells))
                  | ((with_reducible refine atWorld w3 ?_); refine wpList_loadRow (w := w3) metaTy rfl (.tmp 60) rfl wr.heap.size 0 (mtL m.m) rfl rfl (rangeM M3.out.x) ?_)
                  | (go_at_call 7; refine (zs w3 F3 t3 h3).mono ?_; (rintro e w4 ⟨F4, rfl, h4, hF4, fr4⟩; have M4 := Lib.hid (M3.out.chg fr4 hF4); clear hF4 fr4; obtain ⟨e40, e41, e42, e43, e44, e45, e46, e47, e48, n40, n41, n42, n43, n44, n45⟩ := M4.out.cells))
                  | (go_at_call 12; refine (zk w4).mono ?_; (rintro e w5 ⟨rfl, B5⟩; have h5 := At_step disks h4 B5; have M5 := Lib.hid (M4.out.step B5); obtain ⟨t5, v5⟩ := HX.out w5 F4 M5.out.keep; obtain ⟨e50, e51, e52, e53, e54, e55, e56, e57, e58, n50, n51, n52, n53, n54, n55⟩ := M5.out.cells))
                  | (go_at_call 13; (with_reducible refine (zc w5 F4 h5 v5).mono ?_); (rintro e w6 ⟨F6, rfl, h6, hF6, fr6⟩; have M6 := Lib.hid (M5.out.chg fr6 hF6); obtain ⟨t6, v6⟩ := HX.out w6 F6 M6.out.keep; clear hF6 fr6; obtain ⟨e60, e61, e62, e63, e64, e65, e66, e67, e68, n60, n61, n62, n63, n64, n65⟩ := M6.out.cells))
                  | (go_at_call 6; (with_reducible refine (zl w6 F6 t6 h6).mono ?_); (rintro e w7 ⟨rfl, B7⟩; have h7 := At_step disks h6 B7; have M7 := Lib.hid (M6.out.step B7)))
                  | ((with_reducible refine atWorld w7 ?_); refine wpList_allocRow (w := w7) metaTy rfl rfl ?_; (intro w8 b8 B8 s8; have b8 := Lib.hid b8))
                  | ((with_reducible refine atWorld w8 ?_); refine wpList_storeRow (w := w8) metaTy rfl (.tmp 10) (.tmp 102) rfl w7.heap.size (mtL m.m) (mtL Mt.zero) rfl rfl rfl rfl (mtL_one _) b8.out ?_; (intro w9 b9 B9 s9 k9; have C9 : Below w7.heap.size w7 w9 := B8.trans B9; have h9 := At_step disks h7 C9; have M9 := Lib.hid (M7.out.step C9); obtain ⟨u0, u1, u2, u3, u4, u5⟩ := mt_cells b9; have b9 := Lib.hid b9; clear B8 s8 b8 B9 s9 k9; obtain ⟨e90, e91, e92, e93, e94, e95, e96, e97, e98, n90, n91, n92, n93, n94, n95⟩ := M9.out.cells))
                  | ((with_reducible refine atWorld w9 ?_); refine wpList_loadRow (w := w9) metaTy rfl (.tmp 10) rfl w7.heap.size 0 (mtL m.m) rfl rfl (rangeOf b9.out) ?_)
                  | ((with_reducible refine atWorld w9 ?_); refine wpList_storeRow (w := w9) metaTy rfl (.tmp 6) (.tmp 135) rfl g (mtL m.m) (mtL v) rfl rfl rfl rfl (mtL_one _) M9.out.now ?_; (intro w10 b10 B10 s10 k10; have D10 := Lib.hid (McAt.done HF.out.1 HF.out.2.1 HF.out.2.2 M9.out h9 b10 B10 s10 k10 HU.out.1 HU.out.2.1 HU.out.2.2); clear b10 B10 s10 k10)))
                go_roundw
                case rel => exact ⟨k + 1, F6, _, _, _, by go_num, by omega, by omega, D10.out⟩
                case measure => simp [vNc]; omega
              · have zl := zl U (N') v i1
                rw [i1.load.1, i1.load.2] at zl
                have HU : Hid (Mt.Inv U (N') v ∧ U.ops ≤ 4 * (k + 1) + 4 ∧ N' ≤ k + 1 + 1) := Lib.hid ⟨i1, by have := HI.out; omega, by have := HI.out; omega⟩
                clear i1 q2 hN'
                go_wp2_with (first
                  | ((with_reducible refine atWorld wr ?_); refine wpList_allocRow (w := wr) msTy rfl rfl ?_; (intro w1 b1 B1 s1; have b1 := Lib.hid b1))
                  | ((with_reducible refine atWorld w1 ?_); refine wpList_storeRow (w := w1) msTy rfl (.tmp 8) (.tmp 43) rfl wr.heap.size (msCells m) msZ rfl rfl rfl rfl (ms_one m) b1.out ?_; (intro w2 b2 B2 s2 k2; have B12 : Below wr.heap.size wr w2 := B1.trans B2; have h2 := HD.out w2 B12; have M2 := Lib.hid (M2.out w2 B12 b2); obtain ⟨t2, v2⟩ := HX.out w2 F M2.out.keep; clear b1 B1 s1 b2 B2 s2 k2; obtain ⟨e20, e21, e22, e23, e24, e25, e26, e27, e28, n20, n21, n22, n23, n24, n25⟩ := M2.out.cells))
                  | (go_at_call 11; (with_reducible refine (zf w2 h2).mono ?_); (rintro e w3 ⟨F3, rfl, h3, hF3, fr3⟩; have M3 := Lib.hid (M2.out.chg fr3 hF3); obtain ⟨t3, v3⟩ := HX.out w3 F3 M3.out.keep; clear hF3 fr3; obtain ⟨e30, e31, e32, e33, e34, e35, e36, e37, e38, n30, n31, n32, n33, n34, n35⟩ := M3.out.cells))
                  | ((with_reducible refine atWorld w3 ?_); refine wpList_loadRow (w := w3) metaTy rfl (.tmp 60) rfl wr.heap.size 0 (mtL m.m) rfl rfl (rangeM M3.out.x) ?_)
                  | (go_at_call 7; refine (zs w3 F3 t3 h3).mono ?_; (rintro e w4 ⟨F4, rfl, h4, hF4, fr4⟩; have M4 := Lib.hid (M3.out.chg fr4 hF4); clear hF4 fr4; obtain ⟨e40, e41, e42, e43, e44, e45, e46, e47, e48, n40, n41, n42, n43, n44, n45⟩ := M4.out.cells))
                  | (go_at_call 12; refine (zk w4).mono ?_; (rintro e w5 ⟨rfl, B5⟩; have h5 := At_step disks h4 B5; have M5 := Lib.hid (M4.out.step B5); obtain ⟨t5, v5⟩ := HX.out w5 F4 M5.out.keep; obtain ⟨e50, e51, e52, e53, e54, e55, e56, e57, e58, n50, n51, n52, n53, n54, n55⟩ := M5.out.cells))
                  | (go_at_call 13; (with_reducible refine (zc w5 F4 h5 v5).mono ?_); (rintro e w6 ⟨F6, rfl, h6, hF6, fr6⟩; have M6 := Lib.hid (M5.out.chg fr6 hF6); obtain ⟨t6, v6⟩ := HX.out w6 F6 M6.out.keep; clear hF6 fr6; obtain ⟨e60, e61, e62, e63, e64, e65, e66, e67, e68, n60, n61, n62, n63, n64, n65⟩ := M6.out.cells))
                  | (go_at_call 6; (with_reducible refine (zl w6 F6 t6 h6).mono ?_); (rintro e w7 ⟨rfl, B7⟩; have h7 := At_step disks h6 B7; have M7 := Lib.hid (M6.out.step B7)))
                  | ((with_reducible refine atWorld w7 ?_); refine wpList_allocRow (w := w7) metaTy rfl rfl ?_; (intro w8 b8 B8 s8; have b8 := Lib.hid b8))
                  | ((with_reducible refine atWorld w8 ?_); refine wpList_storeRow (w := w8) metaTy rfl (.tmp 10) (.tmp 102) rfl w7.heap.size (mtL v) (mtL Mt.zero) rfl rfl rfl rfl (mtL_one _) b8.out ?_; (intro w9 b9 B9 s9 k9; have C9 : Below w7.heap.size w7 w9 := B8.trans B9; have h9 := At_step disks h7 C9; have M9 := Lib.hid (M7.out.step C9); obtain ⟨u0, u1, u2, u3, u4, u5⟩ := mt_cells b9; have b9 := Lib.hid b9; clear B8 s8 b8 B9 s9 k9; obtain ⟨e90, e91, e92, e93, e94, e95, e96, e97, e98, n90, n91, n92, n93, n94, n95⟩ := M9.out.cells))
                  | ((with_reducible refine atWorld w9 ?_); refine wpList_loadRow (w := w9) metaTy rfl (.tmp 10) rfl w7.heap.size 0 (mtL v) rfl rfl (rangeOf b9.out) ?_)
                  | ((with_reducible refine atWorld w9 ?_); refine wpList_storeRow (w := w9) metaTy rfl (.tmp 6) (.tmp 135) rfl g (mtL v) (mtL v) rfl rfl rfl rfl (mtL_one _) M9.out.now ?_; (intro w10 b10 B10 s10 k10; have D10 := Lib.hid (McAt.done HF.out.1 HF.out.2.1 HF.out.2.2 M9.out h9 b10 B10 s10 k10 HU.out.1 HU.out.2.1 HU.out.2.2); clear b10 B10 s10 k10)))
                go_roundw
                case rel => exact ⟨k + 1, F6, _, _, _, by go_num, by omega, by omega, D10.out⟩
                case measure => simp [vNc]; omega
      · obtain rfl : k = 20 := by omega
        have hB := Lib.hid inv.below
        clear inv
        go_wp2
        go_ret
        exact ⟨rfl, hB.out⟩
    · obtain rfl : k = n := by omega
      have hB := Lib.hid inv.below
      clear inv
      go_wp2
      go_ret
      exact ⟨rfl, hB.out⟩
end Go.Proofs.YtebicjblplkdeaaDoor
