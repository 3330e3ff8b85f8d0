/-
  The walk of MetaTells. Conditions: the bytes can be read.
-/
import Derived.Test.YtebicjblplkdeaaMetaBackWalk
import Derived.Test.YtebicjblplkdeaaMetaRefRead
import Derived.Test.YtebicjblplkdeaaKitSame
import Derived.Test.YtebicjblplkdeaaKitLent
namespace Go.Proofs.Ytebicjblplkdeaa
open Go.RowKit Fix

/-- a meta and a record in new variables -/
def mrW (w : World) (m : Mt) (r0 r1 r2 : Int) : World := (w.alloc (.cells (mtL m).toArray 25)).alloc (.cells #[.int .i64 r0, .int .i64 r1, .int .i64 r2] 23)
theorem mrW_blk (w : World) (m : Mt) (r0 r1 r2 : Int) : BlkR 25 (mrW w m r0 r1 r2) w.heap.size (mtL m) ∧ BlkR 23 (mrW w m r0 r1 r2) (w.heap.size + 1) [.int .i64 r0, .int .i64 r1, .int .i64 r2] ∧ Below w.heap.size w (mrW w m r0 r1 r2) := by
  unfold mrW
  refine ⟨(BlkR.new w (mtL m) 25).go ((Below.refl _ _).alloc (Nat.le_refl _) _), ?_, ((Below.refl _ _).alloc (Nat.le_refl _) _).alloc (by simp) _⟩
  have := BlkR.new (w.alloc (.cells (mtL m).toArray 25)) [.int .i64 r0, .int .i64 r1, .int .i64 r2] 23
  rw [World.size_alloc] at this
  exact this
theorem tells_long (m : Mt) (A : Option Addr) (l : List UInt8) (c : Nat) (r0 r1 r2 : Int) (w : World) (h100 : (100 : Int) < (l.length : Int)) :
    Calls Try.prog 3 #[.agg (mtL m).toArray, .slice A l.length c, .agg #[.int .i64 r0, .int .i64 r1, .int .i64 r2]] w fun e w' => e = .returned (.bool true) ∧ Below w.heap.size w w' := by
  have hB := Lib.hid (mrW_blk w m r0 r1 r2).2.2
  unfold mrW at hB
  go_enter Try.func3, Try.ntmps3
  go_wp2
  go_ret
  exact ⟨rfl, hB.out⟩
set_option maxHeartbeats 2000000 in
theorem tells_short (m : Mt) (A : Option Addr) (l : List UInt8) (c : Nat) (r0 r1 r2 : Int) (w : World) (hlc : l.length ≤ c) (hr : BytesAt w w.heap.size A l) (h100 : ¬ (100 : Int) < (l.length : Int)) :
    Calls Try.prog 3 #[.agg (mtL m).toArray, .slice A l.length c, .agg #[.int .i64 r0, .int .i64 r1, .int .i64 r2]] w fun e w' => e = .returned (.bool true) ∧ Below w.heap.size w w' := by
  have hcm : l.length ≤ 140737488351232 := by omega
  obtain ⟨W, hW⟩ : ∃ W, W = mrW w m r0 r1 r2 := ⟨_, rfl⟩
  have hblk := mrW_blk w m r0 r1 r2
  rw [← hW] at hblk
  obtain ⟨bm, br, BW⟩ := hblk
  have rW := (hr.below BW).more BW.size
  have zl := lentBytes_any A l c W hcm rW
  unfold LentPost at zl
  have zb := fun w => metaBytes_any m w
  have zy := fun w => refBytes6_any m w
  unfold MtBs at zb
  unfold MtRb at zy
  have zu := fun g w hr => metaRead_any (some ⟨g, 0, none⟩) l (l.length + 3) w (by omega) hcm hr
  have zv := fun w hr => refRead_any A l c w hlc hcm hr
  unfold MtRd at zu zv
  have zc := fun w => check_any m w
  have zd := fun w => refCheck_any m w
  have zn := fun w => newer_any m.rt m.rn m.rs r0 r1 r2 w
  have zo := fun w => refNewer_any m.rt m.rn m.rs r0 r1 r2 w
  have zf := fun w => first_any w
  have zg := fun w => refFirst_any w
  have zw := fun w => awake_any w
  have KX : Hid (∀ w', Below W.heap.size W w' → (w'.cell? ⟨w.heap.size, 0, none⟩ = some (.int .i64 m.t) ∧ w'.cell? ⟨w.heap.size, 1, none⟩ = some (.int .i64 m.v) ∧ w'.cell? ⟨w.heap.size, 2, none⟩ = some (.int .i64 m.rt) ∧ w'.cell? ⟨w.heap.size, 3, none⟩ = some (.int .i64 m.rn) ∧ w'.cell? ⟨w.heap.size, 4, none⟩ = some (.int .i64 m.rs) ∧ w'.cell? ⟨w.heap.size, 5, none⟩ = some (.int .i64 m.b)) ∧ (w'.cell? ⟨w.heap.size + 1, 0, none⟩ = some (.int .i64 r0) ∧ w'.cell? ⟨w.heap.size + 1, 1, none⟩ = some (.int .i64 r1) ∧ w'.cell? ⟨w.heap.size + 1, 2, none⟩ = some (.int .i64 r2))) := Lib.hid fun w' hb => ⟨mt_cells (bm.go hb), (br.go hb).cell rfl, (br.go hb).cell rfl, (br.go hb).cell rfl⟩
  have RX : Hid (∀ w', Below W.heap.size W w' → BytesAt w' w'.heap.size A l) := Lib.hid fun w' hb => (rW.below hb).more hb.size
  generalize m.err = E at zb zy zc zd
  obtain ⟨L, hL⟩ : ∃ L, L = m.bytes := ⟨_, rfl⟩
  rw [← hL] at zb zy
  obtain ⟨n, hn⟩ : ∃ n, L.length = n := ⟨_, rfl⟩
  rw [hn] at zb zy
  generalize Mt.readM l = U at zu zv
  generalize Mt.readE l = F at zu zv
  generalize newB m.rt m.rn r0 r1 = Q at zn zo
  generalize Mt.first = FF at zf zg
  clear hL
  unfold mtL at zb zy zc zd zf zg
  unfold mrW at hW
  clear bm br rW hr
  go_enter Try.func3, Try.ntmps3
  go_wp2_with (first
    | (go_at_call 6; rw [← hW]; refine zl.mono ?_; (rintro e w1 ⟨gi, rfl, hgi, bi1, B1⟩; obtain ⟨⟨y0, y1, y2, y3, y4, y5⟩, t0, t1, t2⟩ := KX.out w1 B1))
    | (go_at_call 7; refine (zb w1).mono ?_; (rintro e w2 ⟨A2, c2, rfl, hc2, o2, B2⟩; have C2 := step_trans B1 B2; obtain ⟨⟨y0, y1, y2, y3, y4, y5⟩, t0, t1, t2⟩ := KX.out w2 C2))
    | (go_at_call 8; refine (zy w2).mono ?_; (rintro e w3 ⟨A3, c3, rfl, hc3, o3, B3⟩; have C3 := step_trans C2 B3; have bi3 := (bi1.step B2).step B3; have ri3 : BytesAt w3 w3.heap.size (some ⟨gi, 0, none⟩) l := bi3.bytes l ⟨_, rfl⟩ bi3.lt))
    | (go_at_call 9; refine (zu gi w3 ri3).mono ?_; (rintro e w4 ⟨rfl, B4⟩; have C4 := step_trans C3 B4))
    | ((with_reducible refine atWorld w4 ?_); refine wpList_allocRow (w := w4) metaTy rfl rfl ?_; (intro w5 b5 B5 s5; have b5 := Lib.hid b5; have C5 := step_trans C4 B5))
    | ((with_reducible refine atWorld w5 ?_); refine wpList_storeRow (w := w5) metaTy rfl (.tmp 12) (.tmp 35) rfl w4.heap.size (mtL U) (mtL Mt.zero) rfl rfl rfl rfl (mtL_one _) b5.out ?_; (intro w6 b6 B6 s6 k6; have C6 := C5.trans (B6.mono C4.size); have R6 := RX.out _ C6; have b6 := Lib.hid b6))
    | (go_at_call 10; refine (zv w6 R6).mono ?_; (rintro e w7 ⟨rfl, B7⟩; have C7 := step_trans C6 B7))
    | ((with_reducible refine atWorld w7 ?_); refine wpList_allocRow (w := w7) metaTy rfl rfl ?_; (intro w8 b8 B8 s8; have b8 := Lib.hid b8; have C8 := step_trans C7 B8))
    | ((with_reducible refine atWorld w8 ?_); refine wpList_storeRow (w := w8) metaTy rfl (.tmp 14) (.tmp 40) rfl w7.heap.size (mtL U) (mtL Mt.zero) rfl rfl rfl rfl (mtL_one _) b8.out ?_; (intro w9 b9 B9 s9 k9; have C9 := C8.trans (B9.mono C7.size); have b9 := Lib.hid b9)))
  have n47 : w4.heap.size < w7.heap.size := by have := B6.size; have := B7.size; omega
  have bu9 : BlkR 25 w9 w4.heap.size (mtL U) := ((b6.out.go B7).go B8).below B9 n47
  have SX : Hid (∀ w', Below w9.heap.size w9 w' → w'.cell? ⟨w.heap.size, 0, none⟩ = some (.int .i64 m.t) ∧ w'.cell? ⟨w.heap.size, 1, none⟩ = some (.int .i64 m.v) ∧ w'.cell? ⟨w.heap.size, 2, none⟩ = some (.int .i64 m.rt) ∧ w'.cell? ⟨w.heap.size, 3, none⟩ = some (.int .i64 m.rn) ∧ w'.cell? ⟨w.heap.size, 4, none⟩ = some (.int .i64 m.rs) ∧ w'.cell? ⟨w.heap.size, 5, none⟩ = some (.int .i64 m.b) ∧ w'.cell? ⟨w.heap.size + 1, 0, none⟩ = some (.int .i64 r0) ∧ w'.cell? ⟨w.heap.size + 1, 1, none⟩ = some (.int .i64 r1) ∧ w'.cell? ⟨w.heap.size + 1, 2, none⟩ = some (.int .i64 r2) ∧ w'.cell? ⟨w4.heap.size, 0, none⟩ = some (.int .i64 U.t) ∧ w'.cell? ⟨w4.heap.size, 1, none⟩ = some (.int .i64 U.v) ∧ w'.cell? ⟨w4.heap.size, 2, none⟩ = some (.int .i64 U.rt) ∧ w'.cell? ⟨w4.heap.size, 3, none⟩ = some (.int .i64 U.rn) ∧ w'.cell? ⟨w4.heap.size, 4, none⟩ = some (.int .i64 U.rs) ∧ w'.cell? ⟨w4.heap.size, 5, none⟩ = some (.int .i64 U.b) ∧ w'.cell? ⟨w7.heap.size, 0, none⟩ = some (.int .i64 U.t) ∧ w'.cell? ⟨w7.heap.size, 1, none⟩ = some (.int .i64 U.v) ∧ w'.cell? ⟨w7.heap.size, 2, none⟩ = some (.int .i64 U.rt) ∧ w'.cell? ⟨w7.heap.size, 3, none⟩ = some (.int .i64 U.rn) ∧ w'.cell? ⟨w7.heap.size, 4, none⟩ = some (.int .i64 U.rs) ∧ w'.cell? ⟨w7.heap.size, 5, none⟩ = some (.int .i64 U.b)) := Lib.hid fun w' hb => by
    obtain ⟨⟨y0, y1, y2, y3, y4, y5⟩, t0, t1, t2⟩ := KX.out _ (C9.trans (hb.mono C9.size))
    obtain ⟨u0, u1, u2, u3, u4, u5⟩ := mt_cells (bu9.go hb)
    obtain ⟨v0, v1, v2, v3, v4, v5⟩ := mt_cells (b9.out.go hb)
    exact ⟨y0, y1, y2, y3, y4, y5, t0, t1, t2, u0, u1, u2, u3, u4, u5, v0, v1, v2, v3, v4, v5⟩
  have B29 : Below w2.heap.size w2 w9 := ((((((B3.trans (B4.mono B3.size)).trans (B5.mono (Nat.le_trans B3.size B4.size))).trans (B6.mono (Nat.le_trans B3.size B4.size))).trans (B7.mono (by have := B3.size; have := B4.size; have := B5.size; have := B6.size; omega))).trans (B8.mono (by have := B3.size; have := B4.size; have := B5.size; have := B6.size; have := B7.size; omega))).trans (B9.mono (by have := B3.size; have := B4.size; have := B5.size; have := B6.size; have := B7.size; omega)))
  have B39 : Below w3.heap.size w3 w9 := (((((B4.trans (B5.mono B4.size)).trans (B6.mono B4.size)).trans (B7.mono (by have := B4.size; have := B5.size; have := B6.size; omega))).trans (B8.mono (by have := B4.size; have := B5.size; have := B6.size; have := B7.size; omega))).trans (B9.mono (by have := B4.size; have := B5.size; have := B6.size; have := B7.size; omega)))
  have OX : Hid (∀ w', Below w9.heap.size w9 w' → Calls Try.prog 13 #[.slice A2 n c2, .slice A3 n c3] w' fun e w'' => e = .returned (.bool true) ∧ w' = w'') := Lib.hid fun w' hb =>
    same_yes A2 L n c2 hn A3 L n c3 hn w' (((o2.below B29).below hb).own.bytes) (((o3.below B39).below hb).bytes) rfl
  have HX := Lib.hid (And.intro B1 (And.intro B2 (And.intro B29 (And.intro C9 (And.intro o2 (And.intro bi1 (And.intro hgi BW)))))))
  have D := (Below.refl w9.heap.size w9).drew
  clear B1 B2 B3 B4 B5 B6 B7 B8 B9 B29 B39 C2 C3 C4 C5 C6 C7 C8 C9 o2 o3 bi1 bi3 ri3 R6 b5 b6 b8 b9 bu9 hgi hc2 hc3 s5 s6 s8 s9 k6 k9 zl zb zy zu zv n47 hW BW
  go_region_held3 (fun w' => w'.cell? ⟨w.heap.size, 0, none⟩ = some (.int .i64 m.t) ∧ w'.cell? ⟨w.heap.size, 1, none⟩ = some (.int .i64 m.v) ∧ w'.cell? ⟨w.heap.size, 2, none⟩ = some (.int .i64 m.rt) ∧ w'.cell? ⟨w.heap.size, 3, none⟩ = some (.int .i64 m.rn) ∧ w'.cell? ⟨w.heap.size, 4, none⟩ = some (.int .i64 m.rs) ∧ w'.cell? ⟨w.heap.size, 5, none⟩ = some (.int .i64 m.b) ∧ w'.cell? ⟨w.heap.size + 1, 0, none⟩ = some (.int .i64 r0) ∧ w'.cell? ⟨w.heap.size + 1, 1, none⟩ = some (.int .i64 r1) ∧ w'.cell? ⟨w.heap.size + 1, 2, none⟩ = some (.int .i64 r2) ∧ w'.cell? ⟨w4.heap.size, 0, none⟩ = some (.int .i64 U.t) ∧ w'.cell? ⟨w4.heap.size, 1, none⟩ = some (.int .i64 U.v) ∧ w'.cell? ⟨w4.heap.size, 2, none⟩ = some (.int .i64 U.rt) ∧ w'.cell? ⟨w4.heap.size, 3, none⟩ = some (.int .i64 U.rn) ∧ w'.cell? ⟨w4.heap.size, 4, none⟩ = some (.int .i64 U.rs) ∧ w'.cell? ⟨w4.heap.size, 5, none⟩ = some (.int .i64 U.b) ∧ w'.cell? ⟨w7.heap.size, 0, none⟩ = some (.int .i64 U.t) ∧ w'.cell? ⟨w7.heap.size, 1, none⟩ = some (.int .i64 U.v) ∧ w'.cell? ⟨w7.heap.size, 2, none⟩ = some (.int .i64 U.rt) ∧ w'.cell? ⟨w7.heap.size, 3, none⟩ = some (.int .i64 U.rn) ∧ w'.cell? ⟨w7.heap.size, 4, none⟩ = some (.int .i64 U.rs) ∧ w'.cell? ⟨w7.heap.size, 5, none⟩ = some (.int .i64 U.b)) (first | assumption | exact SX.out _ D) (first
    | (go_at_call 11; refine (zc _).mono ?_; (rintro e wa ⟨rfl, Ba⟩; have D := step_trans D Ba))
    | (go_at_call 12; refine (zd _).mono ?_; (rintro e wa ⟨rfl, Ba⟩; have D := step_trans D Ba))
    | (go_at_call 13; refine (OX.out _ D).mono ?_; (rintro e wa ⟨rfl, rfl⟩))
    | (go_at_call 14; refine (zn _).mono ?_; (rintro e wa ⟨rfl, Ba⟩; have D := step_trans D Ba))
    | (go_at_call 15; refine (zo _).mono ?_; (rintro e wa ⟨rfl, Ba⟩; have D := step_trans D Ba))
    | (go_at_call 16; refine (zf _).mono ?_; (rintro e wa ⟨rfl, Ba⟩; have D := step_trans D Ba))
    | (go_at_call 17; refine (zg _).mono ?_; (rintro e wa ⟨rfl, Ba⟩; have D := step_trans D Ba)))
  obtain ⟨wz, hwz⟩ : ∃ wz, wz = wa := ⟨_, rfl⟩
  rw [← hwz] at D ⊢
  clear hwz
  have zx : Calls Try.prog 18 #[.slice A2 n c2] wz fun e w' => e = .returned (.tuple #[]) ∧ Below w1.heap.size wz w' := by
    obtain ⟨B1, B2, B29, C9, o2, bi1, hgi, BW⟩ := HX.out
    exact overZ ((o2.below B29).below D)
  have zk : ∀ wb, Below w1.heap.size wz wb → Calls Try.prog 19 #[.slice (some ⟨gi, 0, none⟩) l.length (l.length + 3), .slice A l.length c] wb fun e w' => e = .returned (.bool true) ∧ Below wb.heap.size wb w' := fun wb hb => by
    obtain ⟨B1, B2, B29, C9, o2, bi1, hgi, BW⟩ := HX.out
    have B1z : Below w1.heap.size w1 wz := (B2.trans (B29.mono B2.size)).trans (D.mono (Nat.le_trans B2.size B29.size))
    have CW : Below W.heap.size W wb := (B1.trans (B1z.mono B1.size)).trans (hb.mono B1.size)
    exact keptBytes_yes gi l A c wb hcm ((bi1.below B1z bi1.lt).below hb bi1.lt) (RX.out _ CW)
  have zz : Hid (∀ wb, Below w1.heap.size wz wb → Below w.heap.size w wb) := Lib.hid fun wb hb => by
    obtain ⟨B1, B2, B29, C9, o2, bi1, hgi, BW⟩ := HX.out
    have B1z : Below w1.heap.size w1 wz := (B2.trans (B29.mono B2.size)).trans (D.mono (Nat.le_trans B2.size B29.size))
    have CW : Below W.heap.size W wb := (B1.trans (B1z.mono B1.size)).trans (hb.mono B1.size)
    exact BW.trans (CW.mono BW.size)
  have hws : w1.heap.size ≤ wz.heap.size := by
    obtain ⟨B1, B2, B29, C9, o2, bi1, hgi, BW⟩ := HX.out
    exact Nat.le_trans (Nat.le_trans B2.size B29.size) D.size
  clear D HX SX OX KX RX
  go_wp2_with (first
    | (go_at_call 18; refine zx.mono ?_; (rintro e wb ⟨rfl, Bb⟩))
    | (go_at_call 19; refine (zk wb Bb).mono ?_; (rintro e wc ⟨rfl, Bc⟩; have Bzc := Bb.trans (Bc.mono (Nat.le_trans hws Bb.size))))
    | (go_at_call 20; refine (zw wc).mono ?_; (rintro e wd ⟨rfl, Bd⟩; have Bzd := Bzc.trans (Bd.mono (Nat.le_trans hws Bzc.size)))))
  go_ret
  exact ⟨rfl, zz.out _ Bzd⟩
theorem tells_any (m : Mt) (A : Option Addr) (l : List UInt8) (c : Nat) (r0 r1 r2 : Int) (w : World) (hlc : l.length ≤ c) (hr : BytesAt w w.heap.size A l) :
    Calls Try.prog 3 #[.agg (mtL m).toArray, .slice A l.length c, .agg #[.int .i64 r0, .int .i64 r1, .int .i64 r2]] w fun e w' => e = .returned (.bool true) ∧ Below w.heap.size w w' := by
  by_cases h100 : (100 : Int) < (l.length : Int)
  · exact tells_long m A l c r0 r1 r2 w h100
  · exact tells_short m A l c r0 r1 r2 w hlc hr h100
end Go.Proofs.Ytebicjblplkdeaa
