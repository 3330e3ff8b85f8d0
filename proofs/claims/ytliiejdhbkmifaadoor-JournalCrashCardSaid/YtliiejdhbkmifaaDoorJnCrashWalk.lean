/-
  The walk of JournalCrash. Conditions: the table of crc lies as the program's text lays it; what came in can be read.
-/
import Derived.Test.YtliiejdhbkmifaaDoorJnCrashM
import Derived.Test.YtliiejdhbkmifaaDoorJnPuts
import Derived.Test.YtliiejdhbkmifaaDoorJnAwake
import Derived.Test.YtliiejdhbkmifaaDoorBa
import Derived.Test.YtliiejdhbkmifaaDoorDiskAny
namespace Go.Proofs.YtliiejdhbkmifaaDoor
open Go.RowKit Fix

abbrev entQ : Obj := .cells #[.int .i64 0, .int .i64 0, .slice none 0 0] 24
def vNk : Value → Nat
  | .int _ q => q.toNat
  | _ => 0
/-- what holds between two writes: the disk, and the variable at g -/
structure JcInv (w wr : World) (b g k : Nat) (F : Nat → Prop) (S : DS) (A : Option Addr) (c : Nat) : Prop where
  at_ : DiskAt wr b F S
  far : ∀ x, F x → w.heap.size ≤ x
  below : Below w.heap.size w wr
  now : BlkR 24 wr g (entL (Jn.readV (S.firm 0)) A c)
  gn : w.heap.size ≤ g
  gF : ¬ F g
  dat : Aside F wr A (Jn.readV (S.firm 0)).d
  inv : Jn.Inv S k
  ops : S.ops ≤ 2 * k
/-- within a round: the write's own variable at X, the entry's at Y, and that at g -/
structure JcAt (F : Nat → Prop) (wr : World) (X Y g : Nat) (m : PuM) (ys : List Value) (v : Ent) (A : Option Addr) (c : Nat) (F' : Nat → Prop) (w' : World) : Prop where
  keep : Keep F wr F' w'
  x : BlkR 71 w' X (puCells m)
  nx : ¬ F' X
  y : BlkR 24 w' Y ys
  ny : ¬ F' Y
  now : BlkR 24 w' g (entL v A c)
  nn : ¬ F' g
  dat : Aside F' w' A v.d
section
variable {F F' F2 : Nat → Prop} {wr w' w2 : World} {X Y g c : Nat} {m : PuM} {ys : List Value} {v : Ent} {A : Option Addr}
theorem JcAt.step (h : JcAt F wr X Y g m ys v A c F' w') (B : Below w'.heap.size w' w2) : JcAt F wr X Y g m ys v A c F' w2 :=
  ⟨h.keep.trans (Keep.of_below B), h.x.step B, h.nx, h.y.step B, h.ny, h.now.step B, h.nn, h.dat.keep (Keep.of_below B)⟩
theorem JcAt.chg (h : JcAt F wr X Y g m ys v A c F' w') (fr : Frame F' w' w2) (hF : ∀ k, F2 k → F' k ∨ w'.heap.size ≤ k) : JcAt F wr X Y g m ys v A c F2 w2 :=
  ⟨h.keep.trans ⟨fr, hF⟩, h.x.frame fr h.nx, fun k => (hF _ k).elim h.nx fun y => by have := h.x.lt; omega, h.y.frame fr h.ny, fun k => (hF _ k).elim h.ny fun y => by have := h.y.lt; omega, h.now.frame fr h.nn, fun k => (hF _ k).elim h.nn fun y => by have := h.now.lt; omega, h.dat.keep ⟨fr, hF⟩⟩
end
theorem JcAt.done {w wr w9 w10 : World} {b X Y g k c c7 : Nat} {F F' : Nat → Prop} {U : DS} {m : PuM} {ys : List Value} {v V : Ent} {A A7 : Option Addr} (far : ∀ x, F x → w.heap.size ≤ x) (below : Below w.heap.size w wr) (gn : w.heap.size ≤ g)
    (M : JcAt F wr X Y g m ys v A c F' w9) (a9 : DiskAt w9 b F' U) (now : BlkR 24 w10 g (entL V A7 c7)) (B : Below g w9 w10) (s : w10.heap.size = w9.heap.size) (kp : ∀ j, j ≠ g → w10.heap[j]? = w9.heap[j]?) (inv : Jn.Inv U (k + 1)) (ops : U.ops ≤ 2 * (k + 1)) (hV : Jn.readV (U.firm 0) = V)
    (r7 : BytesAt w9 w9.heap.size A7 V.d) (n7 : ∀ ad, A7 = some ad → V.d ≠ [] → ad.block ≠ g ∧ ¬ F' ad.block) : JcInv w w10 b g (k + 1) F' U A7 c7 := by
  refine ⟨disks.keep w9 w10 b F' U a9 (Nat.le_of_eq s.symm) fun j hj => kp j fun e => M.nn (e ▸ hj), M.keep.far far below.size, (below.trans (M.keep.below far below.size)).trans (B.mono gn), by rw [hV]; exact now, gn, M.nn, ?_, inv, ops⟩
  rw [hV]
  have r10 : BytesAt w10 w10.heap.size A7 V.d := fun hne => by
    obtain ⟨ad, e, hlt, hc⟩ := r7 hne
    exact ⟨ad, e, by rw [s]; exact hlt, fun j hj => (World.cell?_of_block (w := w9) (kp _ (by rw [block_add]; exact (n7 ad e hne).1))).trans (hc j hj)⟩
  refine ⟨r10, fun hl ad e => ⟨?_, (n7 ad e hl).2⟩⟩
  obtain ⟨ad', e', hlt, _⟩ := r10 hl
  rw [e] at e'; cases e'
  exact hlt
set_option maxRecDepth 100000 in
set_option maxHeartbeats 16000000 in
theorem crash_any (A0 : Option Addr) (l : List PuM) (c0 : Nat) (w : World) (ht : TabAt w) (hA : PusAt w w.heap.size A0 l) (hms : l.length ≤ 9223372036854775807) :
    Calls Tryd.prog 7 #[.slice A0 l.length c0] w fun e w' => e = .returned (.bool true) ∧ Below w.heap.size w w' := by
  have zn := fun w : World => disks.new_yes 1 w (by decide) (by decide)
  rw [show ((1 : Nat) : Int) = 1 from rfl] at zn
  have zw := fun w t => awake_any disks w t
  obtain ⟨n, hn⟩ : ∃ n, n = l.length := ⟨_, rfl⟩
  rw [← hn] at hms ⊢
  have HA := Lib.hid (And.intro hA hn)
  have HT := Lib.hid ht
  clear hA hn
  go_enter Tryd.func7, Tryd.ntmps7
  go_wp2_with (first
    | (go_at_call 19; refine (zw w ht).mono ?_; (rintro e w1 ⟨rfl, B1⟩))
    | (go_at_call 21; refine (zn w1).mono ?_; (rintro e w2 ⟨b, F0, rfl, h2, hF2, B2⟩))
    | ((with_reducible refine atWorld w2 ?_); refine wpList_allocRow (w := w2) entTy rfl rfl ?_; (intro w3 b3 B3 s3; replace s3 := Lib.hid s3)))
  have I0 : JcInv w w3 b w2.heap.size 0 F0 (DS.fresh 1) none 0 := ⟨At_step disks h2 B3, fun k hk => Nat.le_trans B1.size (hF2 k hk), step_trans (step_trans B1 B2) B3, by rw [Jn.readV_no Jn.start_right]; exact b3, Nat.le_trans B1.size B2.size, fun hx => Nat.lt_irrefl _ (disks.lt _ _ _ _ h2 _ hx), ⟨by rw [Jn.readV_no Jn.start_right]; exact bytes_nil, fun _ ad e => by cases e⟩, Jn.start, Nat.zero_le _⟩
  replace I0 := Lib.hid I0
  clear zn zw B1 B2 B3 h2 hF2 b3 s3 ht
  obtain ⟨g, hg⟩ : ∃ g, g = w2.heap.size := ⟨_, rfl⟩
  rw [← hg] at I0 ⊢
  clear hg
  go_loopw [7, 8] (fun so ix wr => ∃ k F S A c, so = .bool (Jn.right (S.firm 0)) ∧ ix = .int .i64 ((k : Nat) : Int) ∧ k ≤ n ∧ k ≤ 20 ∧ JcInv w wr b g k F S A c) (fun _ ix _ => 21 - vNk ix)
  case atStart => exact ⟨0, F0, _, none, 0, by rw [Jn.start_right], rfl, Nat.zero_le _, Nat.zero_le _, I0.out⟩
  case round =>
    obtain ⟨k, F, S, A, c, rfl, rfl, hk, hk2, inv⟩ := hrel
    clear I0
    by_cases hlt : k < n
    · by_cases h20 : k < 20
      · obtain ⟨m, hm⟩ : ∃ m, l[k]? = some m := ⟨_, List.getElem?_eq_getElem (by rw [← HA.out.2]; exact hlt)⟩
        have hmem := List.mem_of_getElem? hm
        obtain ⟨ad, rfl, y0, y1, y2, y3, y4⟩ := pu_at HA.out.1 inv.below hm
        obtain ⟨h_at, far_, below_, now_, gn_, gF_, dat_, inv_, ops_⟩ := inv
        have hlt' : (k : Int) < (n : Int) := by omega
        have h20' : (k : Int) < 20 := by omega
        have hw1 : IntKind.i64.wrap ((k : Int) + 1) = (k : Int) + 1 := IntWalk.i64_in _ (by omega)
        have HF := Lib.hid (And.intro far_ (And.intro below_ gn_))
        have HD := Lib.hid (fun (w' : World) (hb : Below wr.heap.size wr w') => At_step disks h_at hb)
        have HX : ∀ w' F', Keep F wr F' w' → TabAt w' ∧ RowAt w' w'.heap.size m.AK (m.keeps.map Value.bool) ∧ BytesAt w' w'.heap.size m.A m.d := fun w' F' K => by
          have hB := HF.out.2.1.trans (K.below HF.out.1 HF.out.2.1.size)
          exact ⟨HT.out.below hB (Nat.le_refl _), ((HA.out.1.k m hmem).below hB).more hB.size, ((HA.out.1.b m hmem).below hB).more hB.size⟩
        replace HX := Lib.hid HX
        have stn := HA.out.1.n m hmem
        have bln := HA.out.1.i m hmem
        have HI := Lib.hid ops_
        have hO : S.ops ≤ 900000 := by omega
        have hltF := disks.lt _ _ _ _ h_at
        have MS := Lib.hid (fun (w2 wc : World) (ys : List Value) (B : Below wr.heap.size wr w2) (hx : BlkR 71 w2 wr.heap.size (puCells m)) (B2 : Below w2.heap.size w2 wc) (hy : BlkR 24 wc w2.heap.size ys) => (show JcAt F wr wr.heap.size w2.heap.size g m ys (Jn.readV (S.firm 0)) A c F wc from ⟨Keep.of_below (step_trans B B2), hx.step B2, fun h => Nat.lt_irrefl _ (hltF _ h), hy, fun h => by have := hltF _ h; have := B.size; omega, now_.step (step_trans B B2), gF_, dat_.keep (Keep.of_below (step_trans B B2))⟩))
        have HG := Lib.hid (And.intro now_.lt hltF)
        clear far_ gn_ now_ gF_ hm h_at below_ ops_ dat_ hltF
        by_cases hbad : m.d.length = 32 ∧ m.keeps.length ≤ 10
        · obtain ⟨hb32, hk10⟩ := hbad
          have i1 : ((m.d.length : Int) != 32) = false := by simp [hb32]
          have i2 : ¬ (10 : Int) < (m.keeps.length : Int) := by omega
          obtain ⟨a, ha⟩ : ∃ a : Nat, m.blk % 64 = (a : Int) := ⟨(m.blk % 64).toNat, by omega⟩
          have ha64 : a < 64 := by omega
          have zp := fun w : World => pick_any m.blk 64 w bln.1 bln.2 (by decide) (by decide)
          rw [ha] at zp
          have K1 : ((k + 1 : Nat) : Int) = (k : Int) + 1 := by omega
          have hmay : Jn.may ⟨a, ((k + 1 : Nat) : Int), m.d⟩ = true := (Jn.may_mk _ _ _).2 ⟨by omega, by omega, by omega, by omega, hb32⟩
          have eL : ∀ A c, entL ⟨(a : Int), (k : Int) + 1, m.d⟩ A c = entN a ((k : Int) + 1) A 32 c := fun A c => entL_eq _ _ _ _ hb32 A c
          have HB32 := Lib.hid hb32
          clear bln ha hk10 hb32
          -- the variables of the round
          go_wp2_with (first
            | ((with_reducible refine atWorld wr ?_); refine wpList_allocRow (w := wr) puTy rfl rfl ?_; (intro w1 b1 B1 s1; have b1 := Lib.hid b1; replace s1 := Lib.hid s1))
            | ((with_reducible refine atWorld w1 ?_); refine wpList_storeRow (w := w1) puTy rfl (.tmp 9) (.tmp 38) rfl wr.heap.size (puCells m) puZ rfl rfl rfl rfl (pu_one m) b1.out ?_; (intro w2 b2 B2 s2 k2; have B12 : Below wr.heap.size wr w2 := B1.trans B2; obtain ⟨d0, d1, d2, d3, d4⟩ := pu_cells b2; have b2 := Lib.hid b2; replace s2 := Lib.hid s2; clear b1 B1 s1 B2 k2)))
          have P1 := pu_cells (b2.out.step ((Below.refl w2.heap.size w2).drew))
          have C1 : w2.drew.cell? ⟨wr.heap.size, 0, none⟩ = some (.int .i64 m.blk) ∧ w2.drew.cell? ⟨wr.heap.size, 1, none⟩ = some (.slice m.A m.d.length m.cb) := ⟨P1.1, P1.2.1⟩
          have CX := Lib.hid (fun (w' : World) (hb : Below w2.heap.size w2 w') => (show w'.cell? ⟨wr.heap.size, 0, none⟩ = some (.int .i64 m.blk) ∧ w'.cell? ⟨wr.heap.size, 1, none⟩ = some (.slice m.A m.d.length m.cb) from ⟨(pu_cells (b2.out.step hb)).1, (pu_cells (b2.out.step hb)).2.1⟩))
          have E0 : Below w2.heap.size w2 w2.drew := (Below.refl w2.heap.size w2).drew
          have E1 : Below w2.heap.size w2 ((w2.alloc entQ).drew) := (step_alloc (Below.refl _ _) entQ).drew
          have b1 := (BlkR.new w2 entZ 24).step (Below.refl _ _).drew
          have h47 : w2.heap.size ≤ w2.heap.size := Nat.le_refl _
          have s0 := b1.cell (k := 0) rfl
          have s1 := b1.cell (k := 1) rfl
          have s2 := b1.cell (k := 2) rfl
          have f0 := b1.frozen 0
          have f1 := b1.frozen 1
          have f2 := b1.frozen 2
          have Y2 : BlkR 24 (w2.alloc (.cells #[.int .i64 (a : Int), .int .i64 ((k : Int) + 1), .slice m.A m.d.length m.cb] 24)) w2.heap.size (entN a ((k : Int) + 1) m.A 32 m.cb) := by
            have := BlkR.new w2 [.int .i64 (a : Int), .int .i64 ((k : Int) + 1), .slice m.A m.d.length m.cb] 24
            rw [HB32.out] at this ⊢
            exact this
          have HY := Lib.hid Y2
          clear Y2 P1 d0 d1 d2 d3 d4 b1
          go_cut [10] from 50 to 57 (fun p wx => p = .pointer (some ⟨w2.heap.size, 0, none⟩) ∧ BlkR 24 wx w2.heap.size (entN a ((k : Int) + 1) m.A 32 m.cb) ∧ Below w2.heap.size w2 wx)
          case first =>
            go_region_held3 (fun w' => w'.cell? ⟨wr.heap.size, 0, none⟩ = some (.int .i64 m.blk) ∧ w'.cell? ⟨wr.heap.size, 1, none⟩ = some (.slice m.A m.d.length m.cb)) (first | assumption | exact CX.out _ (step_alloc E0 _) | exact CX.out _ E1 | exact CX.out _ (((E1.setCell (p := ⟨_, 0, none⟩) h47 _).setCell (p := ⟨_, 1, none⟩) h47 _).setCell (p := ⟨_, 2, none⟩) h47 _)) (first
              | (go_at_call 20; (refine (zp _).mono ?_); (rintro e w3 ⟨rfl, rfl⟩)))
            all_goals (go_wp2_with fail; go_meet)
            all_goals exact ⟨rfl, HY.out.step (Below.refl _ _).drew, (step_alloc (Below.refl _ _) _).drew⟩
          case rest =>
            obtain ⟨rfl, yc, Bc⟩ := hcut
            have Mc := Lib.hid (MS.out w2 wc _ B12 b2.out Bc yc)
            have hc := HD.out wc (step_trans B12 Bc)
            have Ym := Lib.hid (And.intro B12.size Bc.size)
            obtain ⟨Y, hY⟩ : ∃ Y, Y = w2.heap.size := ⟨_, rfl⟩
            rw [← hY] at Mc ⊢
            clear hY C1 HY MS HD b2 s2 B12 yc Bc zp CX E0 E1 h47 s0 s1 f0 f1 f2
            obtain ⟨v, hv⟩ : ∃ v, v = Jn.readV (S.firm 0) := ⟨_, rfl⟩
            rw [← hv] at Mc
            have zl : ∀ U w F, TabAt w → DiskAt w b F U → _ := fun U w F t h => journalLast_any disks w b F U 0 t h
            unfold JlPost at zl
            have zs0 : ∀ (S' : DS) w F, TabAt w → DiskAt w b F S' → S'.ops ≤ 900000 → BytesAt w w.heap.size m.A m.d → _ := fun S' w F t h ho r => journalWrite_any disks w b F S' 0 ⟨(a : Int), ((k + 1 : Nat) : Int), m.d⟩ m.A m.cb t h (by omega) r
            unfold ChgPost at zs0
            obtain ⟨tc, vc, rc⟩ := HX.out wc F Mc.out.keep
            have dc := pu_cells Mc.out.x
            obtain ⟨d0, d1, d2, d3, d4⟩ := dc
            by_cases hst : m.stop < 0
            · have hst2 : ¬ (0 : Int) ≤ m.stop := by omega
              obtain ⟨U, s1, i1, i2, i3⟩ := inv_.calm hmay
              have zs := fun w F t h r => zs0 S w F t h hO r
              rw [s1] at zs
              obtain ⟨f1, f2, f3⟩ := Jn.read_bytes hmay
              have ze := fun A1 c1 w h h' => sameEntry_any ⟨(a : Int), (k : Int) + 1, m.d⟩ A1 c1 ⟨(a : Int), (k : Int) + 1, m.d⟩ m.A m.cb w h h'
              rw [Jn.same_self] at ze
              simp only [eL] at ze
              unfold entN at ze
              rw [← i2] at f1 f2 f3
              have zl := zl U
              rw [i1.last.1, i1.last.2, if_pos f3, f1, K1] at zl
              rw [K1] at zs f1
              simp only [eL] at zl zs
              have HEL : Hid (∀ A c, entL ⟨(a : Int), (k : Int) + 1, m.d⟩ A c = entN a ((k : Int) + 1) A 32 c) := Lib.hid eL
              have HU : Hid (Jn.Inv U (k + 1) ∧ U.ops ≤ 2 * (k + 1) ∧ Jn.readV (U.firm 0) = ⟨(a : Int), (k : Int) + 1, m.d⟩ ∧ Jn.right (U.firm 0) = true) := Lib.hid ⟨i1, by have := HI.out; omega, f1, f3⟩
              clear s1 i1 i2 i3 inv_ f1 f2 f3 eL hmay zs0 stn hv
              go_wp2_with (first
                | ((with_reducible refine atWorld wc ?_); refine wpList_loadRow (w := wc) entTy rfl (.tmp 10) rfl Y 0 (entN a ((k : Int) + 1) m.A 32 m.cb) rfl rfl (rangeOf Mc.out.y) ?_)
                | (go_at_call 24; (with_reducible refine (zs wc F tc hc rc).mono ?_); (rintro e w4 ⟨F4, rfl, h4, hF4, fr4⟩; have M4 := Lib.hid (Mc.out.chg fr4 hF4); obtain ⟨t4, v4, r4⟩ := HX.out w4 F4 M4.out.keep; clear hF4 fr4; obtain ⟨d0, d1, d2, d3, d4⟩ := pu_cells M4.out.x))
                | (go_at_call 26; (with_reducible refine (zl w4 F4 t4 h4).mono ?_); (rintro e w7 ⟨A7, c7, rfl, _, o7, B7⟩; have h7 := At_step disks h4 B7; have M7 := Lib.hid (M4.out.step B7); have L7 := Lib.hid (disks.lt _ _ _ _ h4)))
                | ((with_reducible refine atWorld w7 ?_); refine wpList_allocRow (w := w7) entTy rfl rfl ?_; (intro w8 b8 B8 s8; have b8 := Lib.hid b8; replace s8 := Lib.hid s8))
                | ((with_reducible refine atWorld w8 ?_); refine wpList_storeRow (w := w8) entTy rfl (.tmp 12) (.tmp 99) rfl w7.heap.size (entN a ((k : Int) + 1) A7 32 c7) entZ rfl rfl rfl rfl (entN_one _ _ _ _ _) b8.out ?_; (intro w9 b9 B9 s9 k9; have C9 : Below w7.heap.size w7 w9 := B8.trans B9; have h9 := At_step disks h7 C9; have M9 := Lib.hid (M7.out.step C9); have q9 := (o7.step C9).bytes; have q9n := Lib.hid o7.new; obtain ⟨_, _, r9⟩ := HX.out w9 F4 M9.out.keep; have u0 := b9.cell (k := 0) rfl; have u1 := b9.cell (k := 1) rfl; have u2 := b9.cell (k := 2) rfl; have y0 := M9.out.y.cell (k := 0) rfl; have y1 := M9.out.y.cell (k := 1) rfl; have y2 := M9.out.y.cell (k := 2) rfl; obtain ⟨n0, n1, n2⟩ := ent_cells M9.out.now; have p9 := M9.out.dat.1; have b9 := Lib.hid b9; replace s9 := Lib.hid s9; clear B8 s8 b8 B9 k9))
                | (go_at_call 16; ((with_reducible refine (ze A7 c7 w9 q9 r9).mono ?_); (rintro e w9' ⟨rfl, B9'⟩)))
                | ((with_reducible refine atWorld w9' ?_); refine wpList_loadRow (w := w9') entTy rfl (.tmp 12) rfl w7.heap.size 0 (entN a ((k : Int) + 1) A7 32 c7) rfl rfl (rangeOf (b9.out.step B9')) ?_)
                | ((with_reducible refine atWorld w9' ?_); refine wpList_storeRow (w := w9') entTy rfl (.tmp 6) (.tmp 135) rfl g (entN a ((k : Int) + 1) A7 32 c7) (entL v A c) rfl rfl rfl rfl (entN_one _ _ _ _ _) (M9.out.step B9').now ?_; (intro w10 b10 B10 s10 k10; have D10 := Lib.hid (JcAt.done (V := ⟨(a : Int), (k : Int) + 1, m.d⟩) HF.out.1 HF.out.2.1 HF.out.2.2 (M9.out.step B9') (At_step disks h9 B9') (by rw [HEL.out]; exact b10) B10 s10 k10 HU.out.1 HU.out.2.1 HU.out.2.2.1 (q9.step B9') (fun ad e hne => by have n7 := q9n.out ad e hne; have g1 := HG.out.1; have g2 := M9.out.keep; have g3 := L7.out; exact ⟨by have := M4.out.keep.fr.size; omega, fun hh => by have := g3 _ hh; omega⟩)); clear b10 B10 s10 k10)))
              go_roundw
              case rel => exact ⟨k + 1, F4, _, _, _, by rw [HU.out.2.2.2], by go_num, by omega, by omega, D10.out⟩
              case measure => simp [vNk]; omega
            · have hst2 : (0 : Int) ≤ m.stop := by omega
              obtain ⟨T, e, s1, q2, q3, q4⟩ := inv_.stop hmay m.stop.toNat m.keeps m.tear
              have zf : ∀ w, DiskAt w b F S → _ := fun w h => disks.fuse w b F S m.stop h stn.1 stn.2
              rw [show S.fuse m.stop = ({ S with left := some m.stop.toNat }, 0) by unfold DS.fuse; rw [inv_.q.out]; simp [hst]] at zf
              have zs : ∀ w F, TabAt w → DiskAt w b F { S with left := some m.stop.toNat } → BytesAt w w.heap.size m.A m.d → _ := fun w F t h r => zs0 { S with left := some m.stop.toNat } w F t h hO r
              rw [s1] at zs
              obtain ⟨S1, hS1⟩ : ∃ S1 : DS, S1 = { S with left := some m.stop.toNat } := ⟨_, rfl⟩
              rw [← hS1] at zf zs
              have zc : ∀ w F, DiskAt w b F T → RowAt w w.heap.size m.AK (m.keeps.map Value.bool) → _ := fun w F h r => dCrash w b F T m.AK m.keeps m.keeps.length m.ck m.tear h r rfl
              unfold DPost at zc
              obtain ⟨U, hU⟩ : ∃ U, U = T.crash m.keeps m.tear := ⟨_, rfl⟩
              rw [← hU] at zc q2 q3 q4
              have zl := zl U
              rw [q3.last.1, q3.last.2] at zl
              rw [K1] at zs
              simp only [eL] at zs
              have HEL : Hid (∀ A c, entL ⟨(a : Int), (k : Int) + 1, m.d⟩ A c = entN a ((k : Int) + 1) A 32 c) := Lib.hid eL
              have hq : U.ops ≤ 2 * (k + 1) := by have := HI.out; omega
              have p4 : (e = 0 ∧ U.firm 0 = Jn.bytesB ⟨(a : Int), ((k + 1 : Nat) : Int), m.d⟩) ∨ (e = 10 ∧ U.firm 0 = Jn.bytesB ⟨(a : Int), ((k + 1 : Nat) : Int), m.d⟩) ∨ (e = 10 ∧ U.firm 0 = S.firm 0 ∧ Jn.right (S.firm 0) = true) ∨ (e = 10 ∧ Jn.right (U.firm 0) = false) := by
                rcases q4 with h | ⟨h, h1 | h1 | h1⟩
                · exact .inl h
                · exact .inr (.inl ⟨h, h1⟩)
                · rcases Bool.eq_false_or_eq_true (Jn.right (S.firm 0)) with hr | hr
                  · exact .inr (.inr (.inl ⟨h, h1, hr⟩))
                  · exact .inr (.inr (.inr ⟨h, by rw [h1]; exact hr⟩))
                · exact .inr (.inr (.inr ⟨h, h1⟩))
              clear hU hS1 s1 q2 q4 zs0 stn
              rcases p4 with ⟨rfl, i2⟩ | ⟨rfl, i2⟩ | ⟨rfl, i2, i3⟩ | ⟨rfl, i2⟩
              · obtain ⟨f1, f2, f3⟩ := Jn.read_bytes hmay
                have ze := fun A1 c1 w h h' => sameEntry_any ⟨(a : Int), (k : Int) + 1, m.d⟩ A1 c1 ⟨(a : Int), (k : Int) + 1, m.d⟩ m.A m.cb w h h'
                rw [Jn.same_self] at ze
                simp only [eL] at ze
                unfold entN at ze
                rw [← i2] at f1 f2 f3
                rw [if_pos f3, f1, K1] at zl
                rw [K1] at f1
                simp only [eL] at zl
                have HU : Hid (Jn.Inv U (k + 1) ∧ U.ops ≤ 2 * (k + 1) ∧ Jn.readV (U.firm 0) = ⟨(a : Int), (k : Int) + 1, m.d⟩ ∧ Jn.right (U.firm 0) = true) := Lib.hid ⟨q3, hq, f1, f3⟩
                clear i2 inv_ f1 f2 f3 eL hmay q3 hq hv
                go_wp2_with (first
                  | (go_at_call 30; (with_reducible refine (zf wc hc).mono ?_); (rintro e w3 ⟨F3, rfl, h3, hF3, fr3⟩; have M3 := Lib.hid (Mc.out.chg fr3 hF3); obtain ⟨t3, v3, r3⟩ := HX.out w3 F3 M3.out.keep; clear hF3 fr3))
                  | ((with_reducible refine atWorld w3 ?_); refine wpList_loadRow (w := w3) entTy rfl (.tmp 10) rfl Y 0 (entN a ((k : Int) + 1) m.A 32 m.cb) rfl rfl (rangeOf M3.out.y) ?_)
                  | (go_at_call 24; (with_reducible refine (zs w3 F3 t3 h3 r3).mono ?_); (rintro e w4 ⟨F4, rfl, h4, hF4, fr4⟩; have M4 := Lib.hid (M3.out.chg fr4 hF4); obtain ⟨t4, v4, r4⟩ := HX.out w4 F4 M4.out.keep; clear hF4 fr4; obtain ⟨d0, d1, d2, d3, d4⟩ := pu_cells M4.out.x))
                  | (go_at_call 31; (with_reducible refine (zc w4 F4 h4 v4).mono ?_); (rintro e w6 ⟨F6, rfl, h6, hF6, fr6⟩; have M6 := Lib.hid (M4.out.chg fr6 hF6); obtain ⟨t6, v6, r6⟩ := HX.out w6 F6 M6.out.keep; clear hF6 fr6))
                  | (go_at_call 26; (with_reducible refine (zl w6 F6 t6 h6).mono ?_); (rintro e w7 ⟨A7, c7, rfl, _, o7, B7⟩; have h7 := At_step disks h6 B7; have M7 := Lib.hid (M6.out.step B7); have L7 := Lib.hid (disks.lt _ _ _ _ h6)))
                  | ((with_reducible refine atWorld w7 ?_); refine wpList_allocRow (w := w7) entTy rfl rfl ?_; (intro w8 b8 B8 s8; have b8 := Lib.hid b8; replace s8 := Lib.hid s8))
                  | ((with_reducible refine atWorld w8 ?_); refine wpList_storeRow (w := w8) entTy rfl (.tmp 12) (.tmp 99) rfl w7.heap.size (entN a ((k : Int) + 1) A7 32 c7) entZ rfl rfl rfl rfl (entN_one _ _ _ _ _) b8.out ?_; (intro w9 b9 B9 s9 k9; have C9 : Below w7.heap.size w7 w9 := B8.trans B9; have h9 := At_step disks h7 C9; have M9 := Lib.hid (M7.out.step C9); have q9 := (o7.step C9).bytes; have q9n := Lib.hid o7.new; obtain ⟨_, _, r9⟩ := HX.out w9 F6 M9.out.keep; have u0 := b9.cell (k := 0) rfl; have u1 := b9.cell (k := 1) rfl; have u2 := b9.cell (k := 2) rfl; have y0 := M9.out.y.cell (k := 0) rfl; have y1 := M9.out.y.cell (k := 1) rfl; have y2 := M9.out.y.cell (k := 2) rfl; obtain ⟨n0, n1, n2⟩ := ent_cells M9.out.now; have p9 := M9.out.dat.1; have b9 := Lib.hid b9; replace s9 := Lib.hid s9; clear B8 s8 b8 B9 k9))
                  | (go_at_call 16; ((with_reducible refine (ze A7 c7 w9 q9 r9).mono ?_); (rintro e w9' ⟨rfl, B9'⟩)))
                  | ((with_reducible refine atWorld w9' ?_); refine wpList_loadRow (w := w9') entTy rfl (.tmp 12) rfl w7.heap.size 0 (entN a ((k : Int) + 1) A7 32 c7) rfl rfl (rangeOf (b9.out.step B9')) ?_)
                  | ((with_reducible refine atWorld w9' ?_); refine wpList_storeRow (w := w9') entTy rfl (.tmp 6) (.tmp 135) rfl g (entN a ((k : Int) + 1) A7 32 c7) (entL v A c) rfl rfl rfl rfl (entN_one _ _ _ _ _) (M9.out.step B9').now ?_; (intro w10 b10 B10 s10 k10; have D10 := Lib.hid (JcAt.done (V := ⟨(a : Int), (k : Int) + 1, m.d⟩) HF.out.1 HF.out.2.1 HF.out.2.2 (M9.out.step B9') (At_step disks h9 B9') (by rw [HEL.out]; exact b10) B10 s10 k10 HU.out.1 HU.out.2.1 HU.out.2.2.1 (q9.step B9') (fun ad e hne => by have n7 := q9n.out ad e hne; have g1 := HG.out.1; have g2 := M9.out.keep; have g3 := L7.out; exact ⟨by have := M6.out.keep.fr.size; omega, fun hh => by have := g3 _ hh; omega⟩)); clear b10 B10 s10 k10)))
                go_roundw
                case rel => exact ⟨k + 1, F6, _, _, _, by rw [HU.out.2.2.2], by go_num, by omega, by omega, D10.out⟩
                case measure => simp [vNk]; omega
              · obtain ⟨f1, f2, f3⟩ := Jn.read_bytes hmay
                have ze := fun A1 c1 w h h' => sameEntry_any ⟨(a : Int), (k : Int) + 1, m.d⟩ A1 c1 ⟨(a : Int), (k : Int) + 1, m.d⟩ m.A m.cb w h h'
                rw [Jn.same_self] at ze
                simp only [eL] at ze
                unfold entN at ze
                rw [← i2] at f1 f2 f3
                rw [if_pos f3, f1, K1] at zl
                rw [K1] at f1
                simp only [eL] at zl
                have HU : Hid (Jn.Inv U (k + 1) ∧ U.ops ≤ 2 * (k + 1) ∧ Jn.readV (U.firm 0) = ⟨(a : Int), (k : Int) + 1, m.d⟩ ∧ Jn.right (U.firm 0) = true) := Lib.hid ⟨q3, hq, f1, f3⟩
                clear i2 inv_ f1 f2 f3 eL hmay q3 hq hv
                go_wp2_with (first
                  | (go_at_call 30; (with_reducible refine (zf wc hc).mono ?_); (rintro e w3 ⟨F3, rfl, h3, hF3, fr3⟩; have M3 := Lib.hid (Mc.out.chg fr3 hF3); obtain ⟨t3, v3, r3⟩ := HX.out w3 F3 M3.out.keep; clear hF3 fr3))
                  | ((with_reducible refine atWorld w3 ?_); refine wpList_loadRow (w := w3) entTy rfl (.tmp 10) rfl Y 0 (entN a ((k : Int) + 1) m.A 32 m.cb) rfl rfl (rangeOf M3.out.y) ?_)
                  | (go_at_call 24; (with_reducible refine (zs w3 F3 t3 h3 r3).mono ?_); (rintro e w4 ⟨F4, rfl, h4, hF4, fr4⟩; have M4 := Lib.hid (M3.out.chg fr4 hF4); obtain ⟨t4, v4, r4⟩ := HX.out w4 F4 M4.out.keep; clear hF4 fr4; obtain ⟨d0, d1, d2, d3, d4⟩ := pu_cells M4.out.x))
                  | (go_at_call 31; (with_reducible refine (zc w4 F4 h4 v4).mono ?_); (rintro e w6 ⟨F6, rfl, h6, hF6, fr6⟩; have M6 := Lib.hid (M4.out.chg fr6 hF6); obtain ⟨t6, v6, r6⟩ := HX.out w6 F6 M6.out.keep; clear hF6 fr6))
                  | (go_at_call 26; (with_reducible refine (zl w6 F6 t6 h6).mono ?_); (rintro e w7 ⟨A7, c7, rfl, _, o7, B7⟩; have h7 := At_step disks h6 B7; have M7 := Lib.hid (M6.out.step B7); have L7 := Lib.hid (disks.lt _ _ _ _ h6)))
                  | ((with_reducible refine atWorld w7 ?_); refine wpList_allocRow (w := w7) entTy rfl rfl ?_; (intro w8 b8 B8 s8; have b8 := Lib.hid b8; replace s8 := Lib.hid s8))
                  | ((with_reducible refine atWorld w8 ?_); refine wpList_storeRow (w := w8) entTy rfl (.tmp 12) (.tmp 99) rfl w7.heap.size (entN a ((k : Int) + 1) A7 32 c7) entZ rfl rfl rfl rfl (entN_one _ _ _ _ _) b8.out ?_; (intro w9 b9 B9 s9 k9; have C9 : Below w7.heap.size w7 w9 := B8.trans B9; have h9 := At_step disks h7 C9; have M9 := Lib.hid (M7.out.step C9); have q9 := (o7.step C9).bytes; have q9n := Lib.hid o7.new; obtain ⟨_, _, r9⟩ := HX.out w9 F6 M9.out.keep; have u0 := b9.cell (k := 0) rfl; have u1 := b9.cell (k := 1) rfl; have u2 := b9.cell (k := 2) rfl; have y0 := M9.out.y.cell (k := 0) rfl; have y1 := M9.out.y.cell (k := 1) rfl; have y2 := M9.out.y.cell (k := 2) rfl; obtain ⟨n0, n1, n2⟩ := ent_cells M9.out.now; have p9 := M9.out.dat.1; have b9 := Lib.hid b9; replace s9 := Lib.hid s9; clear B8 s8 b8 B9 k9))
                  | (go_at_call 16; ((with_reducible refine (ze A7 c7 w9 q9 r9).mono ?_); (rintro e w9' ⟨rfl, B9'⟩)))
                  | ((with_reducible refine atWorld w9' ?_); refine wpList_loadRow (w := w9') entTy rfl (.tmp 12) rfl w7.heap.size 0 (entN a ((k : Int) + 1) A7 32 c7) rfl rfl (rangeOf (b9.out.step B9')) ?_)
                  | ((with_reducible refine atWorld w9' ?_); refine wpList_storeRow (w := w9') entTy rfl (.tmp 6) (.tmp 135) rfl g (entN a ((k : Int) + 1) A7 32 c7) (entL v A c) rfl rfl rfl rfl (entN_one _ _ _ _ _) (M9.out.step B9').now ?_; (intro w10 b10 B10 s10 k10; have D10 := Lib.hid (JcAt.done (V := ⟨(a : Int), (k : Int) + 1, m.d⟩) HF.out.1 HF.out.2.1 HF.out.2.2 (M9.out.step B9') (At_step disks h9 B9') (by rw [HEL.out]; exact b10) B10 s10 k10 HU.out.1 HU.out.2.1 HU.out.2.2.1 (q9.step B9') (fun ad e hne => by have n7 := q9n.out ad e hne; have g1 := HG.out.1; have g2 := M9.out.keep; have g3 := L7.out; exact ⟨by have := M6.out.keep.fr.size; omega, fun hh => by have := g3 _ hh; omega⟩)); clear b10 B10 s10 k10)))
                go_roundw
                case rel => exact ⟨k + 1, F6, _, _, _, by rw [HU.out.2.2.2], by go_num, by omega, by omega, D10.out⟩
                case measure => simp [vNk]; omega
              · have hun := inv_.unlike i3 (a : Int) m.d
                rw [K1, ← hv] at hun
                have ze := fun A1 c1 w h h' => sameEntry_any v A1 c1 ⟨(a : Int), (k : Int) + 1, m.d⟩ m.A m.cb w h h'
                rw [hun] at ze
                simp only [eL] at ze
                have zn2 := fun A1 c1 w h h' => sameEntry_any v A1 c1 v A c w h h'
                rw [Jn.same_self] at zn2
                unfold entN entL at ze
                unfold entL at zn2
                rw [i2, if_pos i3, ← hv] at zl
                have HU : Hid (Jn.Inv U (k + 1) ∧ U.ops ≤ 2 * (k + 1) ∧ Jn.readV (U.firm 0) = v ∧ Jn.right (U.firm 0) = true) := Lib.hid ⟨q3, hq, by rw [i2, hv], by rw [i2, i3]⟩
                rw [i3]
                clear i2 i3 inv_ eL hmay q3 hq hv hun
                go_wp2_with (first
                  | (go_at_call 30; (with_reducible refine (zf wc hc).mono ?_); (rintro e w3 ⟨F3, rfl, h3, hF3, fr3⟩; have M3 := Lib.hid (Mc.out.chg fr3 hF3); obtain ⟨t3, v3, r3⟩ := HX.out w3 F3 M3.out.keep; clear hF3 fr3))
                  | ((with_reducible refine atWorld w3 ?_); refine wpList_loadRow (w := w3) entTy rfl (.tmp 10) rfl Y 0 (entN a ((k : Int) + 1) m.A 32 m.cb) rfl rfl (rangeOf M3.out.y) ?_)
                  | (go_at_call 24; (with_reducible refine (zs w3 F3 t3 h3 r3).mono ?_); (rintro e w4 ⟨F4, rfl, h4, hF4, fr4⟩; have M4 := Lib.hid (M3.out.chg fr4 hF4); obtain ⟨t4, v4, r4⟩ := HX.out w4 F4 M4.out.keep; clear hF4 fr4; obtain ⟨d0, d1, d2, d3, d4⟩ := pu_cells M4.out.x))
                  | (go_at_call 31; (with_reducible refine (zc w4 F4 h4 v4).mono ?_); (rintro e w6 ⟨F6, rfl, h6, hF6, fr6⟩; have M6 := Lib.hid (M4.out.chg fr6 hF6); obtain ⟨t6, v6, r6⟩ := HX.out w6 F6 M6.out.keep; clear hF6 fr6))
                  | (go_at_call 26; (with_reducible refine (zl w6 F6 t6 h6).mono ?_); (rintro e w7 ⟨A7, c7, rfl, _, o7, B7⟩; have h7 := At_step disks h6 B7; have M7 := Lib.hid (M6.out.step B7); have L7 := Lib.hid (disks.lt _ _ _ _ h6)))
                  | ((with_reducible refine atWorld w7 ?_); refine wpList_allocRow (w := w7) entTy rfl rfl ?_; (intro w8 b8 B8 s8; have b8 := Lib.hid b8; replace s8 := Lib.hid s8))
                  | ((with_reducible refine atWorld w8 ?_); refine wpList_storeRow (w := w8) entTy rfl (.tmp 12) (.tmp 99) rfl w7.heap.size (entL v A7 c7) entZ rfl rfl rfl rfl (ent_one _ _ _) b8.out ?_; (intro w9 b9 B9 s9 k9; have C9 : Below w7.heap.size w7 w9 := B8.trans B9; have h9 := At_step disks h7 C9; have M9 := Lib.hid (M7.out.step C9); have q9 := (o7.step C9).bytes; have q9n := Lib.hid o7.new; obtain ⟨_, _, r9⟩ := HX.out w9 F6 M9.out.keep; have u0 := b9.cell (k := 0) rfl; have u1 := b9.cell (k := 1) rfl; have u2 := b9.cell (k := 2) rfl; have y0 := M9.out.y.cell (k := 0) rfl; have y1 := M9.out.y.cell (k := 1) rfl; have y2 := M9.out.y.cell (k := 2) rfl; obtain ⟨n0, n1, n2⟩ := ent_cells M9.out.now; have p9 := M9.out.dat.1; have b9 := Lib.hid b9; replace s9 := Lib.hid s9; clear B8 s8 b8 B9 k9))
                  | (go_at_call 16; first
                  | ((with_reducible refine (zn2 A7 c7 w9' q9' p9').mono ?_); (rintro e w9'' ⟨rfl, B9''⟩))
                  | ((with_reducible refine (ze A7 c7 w9 q9 r9).mono ?_); (rintro e w9' ⟨rfl, B9'⟩; have q9' := q9.step B9'; have M9b := Lib.hid (M9.out.step B9'); have p9' := M9b.out.dat.1; obtain ⟨n0', n1', n2'⟩ := ent_cells M9b.out.now; have u0' := (b9.out.step B9').cell (k := 0) rfl; have u1' := (b9.out.step B9').cell (k := 1) rfl; have u2' := (b9.out.step B9').cell (k := 2) rfl)))
                  | ((with_reducible refine atWorld w9'' ?_); refine wpList_loadRow (w := w9'') entTy rfl (.tmp 12) rfl w7.heap.size 0 (entL v A7 c7) rfl rfl (rangeOf (b9.out.step (step_trans B9' B9''))) ?_)
                  | ((with_reducible refine atWorld w9'' ?_); refine wpList_storeRow (w := w9'') entTy rfl (.tmp 6) (.tmp 135) rfl g (entL v A7 c7) (entL v A c) rfl rfl rfl rfl (ent_one _ _ _) (M9.out.step (step_trans B9' B9'')).now ?_; (intro w10 b10 B10 s10 k10; have D10 := Lib.hid (JcAt.done (V := v) HF.out.1 HF.out.2.1 HF.out.2.2 (M9.out.step (step_trans B9' B9'')) (At_step disks h9 (step_trans B9' B9'')) b10 B10 s10 k10 HU.out.1 HU.out.2.1 HU.out.2.2.1 (q9.step (step_trans B9' B9'')) (fun ad e hne => by have n7 := q9n.out ad e hne; have g1 := HG.out.1; have g2 := M9.out.keep; have g3 := L7.out; exact ⟨by have := M6.out.keep.fr.size; omega, fun hh => by have := g3 _ hh; omega⟩)); clear b10 B10 s10 k10)))
                go_roundw
                case rel => exact ⟨k + 1, F6, _, _, _, by rw [HU.out.2.2.2], by go_num, by omega, by omega, D10.out⟩
                case measure => simp [vNk]; omega
              · rw [if_neg (by rw [i2]; decide), Jn.readV_no i2] at zl
                have HU : Hid (Jn.Inv U (k + 1) ∧ U.ops ≤ 2 * (k + 1) ∧ Jn.readV (U.firm 0) = Jn.zero ∧ Jn.right (U.firm 0) = false) := Lib.hid ⟨q3, hq, Jn.readV_no i2, i2⟩
                clear i2 inv_ eL hmay q3 hq hv
                go_wp2_with (first
                  | (go_at_call 30; (with_reducible refine (zf wc hc).mono ?_); (rintro e w3 ⟨F3, rfl, h3, hF3, fr3⟩; have M3 := Lib.hid (Mc.out.chg fr3 hF3); obtain ⟨t3, v3, r3⟩ := HX.out w3 F3 M3.out.keep; clear hF3 fr3))
                  | ((with_reducible refine atWorld w3 ?_); refine wpList_loadRow (w := w3) entTy rfl (.tmp 10) rfl Y 0 (entN a ((k : Int) + 1) m.A 32 m.cb) rfl rfl (rangeOf M3.out.y) ?_)
                  | (go_at_call 24; (with_reducible refine (zs w3 F3 t3 h3 r3).mono ?_); (rintro e w4 ⟨F4, rfl, h4, hF4, fr4⟩; have M4 := Lib.hid (M3.out.chg fr4 hF4); obtain ⟨t4, v4, r4⟩ := HX.out w4 F4 M4.out.keep; clear hF4 fr4; obtain ⟨d0, d1, d2, d3, d4⟩ := pu_cells M4.out.x))
                  | (go_at_call 31; (with_reducible refine (zc w4 F4 h4 v4).mono ?_); (rintro e w6 ⟨F6, rfl, h6, hF6, fr6⟩; have M6 := Lib.hid (M4.out.chg fr6 hF6); obtain ⟨t6, v6, r6⟩ := HX.out w6 F6 M6.out.keep; clear hF6 fr6))
                  | (go_at_call 26; (with_reducible refine (zl w6 F6 t6 h6).mono ?_); (rintro e w7 ⟨A7, c7, rfl, _, o7, B7⟩; have h7 := At_step disks h6 B7; have M7 := Lib.hid (M6.out.step B7); have L7 := Lib.hid (disks.lt _ _ _ _ h6)))
                  | ((with_reducible refine atWorld w7 ?_); refine wpList_allocRow (w := w7) entTy rfl rfl ?_; (intro w8 b8 B8 s8; have b8 := Lib.hid b8; replace s8 := Lib.hid s8))
                  | ((with_reducible refine atWorld w8 ?_); refine wpList_storeRow (w := w8) entTy rfl (.tmp 12) (.tmp 99) rfl w7.heap.size (entL Jn.zero A7 c7) entZ rfl rfl rfl rfl (ent_one _ _ _) b8.out ?_; (intro w9 b9 B9 s9 k9; have C9 : Below w7.heap.size w7 w9 := B8.trans B9; have h9 := At_step disks h7 C9; have M9 := Lib.hid (M7.out.step C9); have q9 := (o7.step C9).bytes; have q9n := Lib.hid o7.new; obtain ⟨_, _, r9⟩ := HX.out w9 F6 M9.out.keep; have u0 := b9.cell (k := 0) rfl; have u1 := b9.cell (k := 1) rfl; have u2 := b9.cell (k := 2) rfl; have y0 := M9.out.y.cell (k := 0) rfl; have y1 := M9.out.y.cell (k := 1) rfl; have y2 := M9.out.y.cell (k := 2) rfl; obtain ⟨n0, n1, n2⟩ := ent_cells M9.out.now; have p9 := M9.out.dat.1; have b9 := Lib.hid b9; replace s9 := Lib.hid s9; clear B8 s8 b8 B9 k9))
                  | ((with_reducible refine atWorld w9 ?_); refine wpList_loadRow (w := w9) entTy rfl (.tmp 12) rfl w7.heap.size 0 (entL Jn.zero A7 c7) rfl rfl (rangeOf (b9.out.step (Below.refl _ _))) ?_)
                  | ((with_reducible refine atWorld w9 ?_); refine wpList_storeRow (w := w9) entTy rfl (.tmp 6) (.tmp 135) rfl g (entL Jn.zero A7 c7) (entL v A c) rfl rfl rfl rfl (ent_one _ _ _) (M9.out.step (Below.refl _ _)).now ?_; (intro w10 b10 B10 s10 k10; have D10 := Lib.hid (JcAt.done (V := Jn.zero) HF.out.1 HF.out.2.1 HF.out.2.2 (M9.out.step (Below.refl _ _)) (At_step disks h9 (Below.refl _ _)) b10 B10 s10 k10 HU.out.1 HU.out.2.1 HU.out.2.2.1 (q9.step (Below.refl _ _)) (fun ad e hne => by have n7 := q9n.out ad e hne; have g1 := HG.out.1; have g2 := M9.out.keep; have g3 := L7.out; exact ⟨by have := M6.out.keep.fr.size; omega, fun hh => by have := g3 _ hh; omega⟩)); clear b10 B10 s10 k10)))
                go_roundw
                case rel => exact ⟨k + 1, F6, _, _, _, by rw [HU.out.2.2.2], by go_num, by omega, by omega, D10.out⟩
                case measure => simp [vNk]; omega
        · have hbad' : ((m.d.length : Int) != 32) = true ∨ ((m.d.length : Int) != 32) = false ∧ (10 : Int) < (m.keeps.length : Int) := by
            by_cases h : m.d.length = 32
            · exact .inr ⟨by simp [h], by omega⟩
            · exact .inl (by simp; omega)
          clear inv_ HD HX stn MS bln hbad
          rcases hbad' with i1 | ⟨i1, i2⟩
          all_goals
            go_wp2_with (first
              | ((with_reducible refine atWorld wr ?_); refine wpList_allocRow (w := wr) puTy rfl rfl ?_; (intro w1 b1 B1 s1; have b1 := Lib.hid b1; replace s1 := Lib.hid s1))
              | ((with_reducible refine atWorld w1 ?_); refine wpList_storeRow (w := w1) puTy rfl (.tmp 9) (.tmp 38) rfl wr.heap.size (puCells m) puZ rfl rfl rfl rfl (pu_one m) b1.out ?_; (intro w2 b2 B2 s2 k2; have B12 : Below wr.heap.size wr w2 := B1.trans B2; obtain ⟨d0, d1, d2, d3, d4⟩ := pu_cells b2; replace s2 := Lib.hid s2)))
            go_ret
            exact ⟨rfl, HF.out.2.1.trans (B12.mono HF.out.2.1.size)⟩
      · obtain rfl : k = 20 := by omega
        have hlt' : ((20 : Nat) : Int) < (n : Int) := by omega
        have hB := Lib.hid inv.below
        clear inv
        go_wp2
        go_ret
        exact ⟨rfl, hB.out⟩
    · obtain rfl : k = n := by omega
      have hB := Lib.hid inv.below
      clear inv
      go_wp2
      go_ret
      exact ⟨rfl, hB.out⟩
end Go.Proofs.YtliiejdhbkmifaaDoor
