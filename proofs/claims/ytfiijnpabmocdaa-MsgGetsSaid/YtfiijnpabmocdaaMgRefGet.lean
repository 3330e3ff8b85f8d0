/-
  The document's own: Get. Conditions: the bytes can be read.
-/
import Derived.Test.YtfiijnpabmocdaaMgRdrH
import Derived.Test.YtfiijnpabmocdaaMgRefChk
namespace Go.Proofs.Ytfiijnpabmocdaa
open Go.RowKit Mg Fix

abbrev wRes (w : World) : World := (w.alloc (zO none 0)).alloc (fO 0 0)
/-- the results' blocks, later on -/
theorem res_at (w w' : World) (B : Below (wRes w).heap.size (wRes w) w') :
    BlkR 27 w' w.heap.size (mCells Mg.zero (.slice none 0 0)) ∧ BlkR 38 w' (w.heap.size + 1) [.int .i64 0, .int .i64 0] ∧ Below w.heap.size w w' := by
  have b1 := BlkR.new w (mCells Mg.zero (.slice none 0 0)) 27
  have b2 := BlkR.new (w.alloc (zO none 0)) [.int .i64 0, .int .i64 0] 38
  rw [show (w.alloc (zO none 0)).heap.size = w.heap.size + 1 by simp] at b2
  have b1' := b1.allocB (fO 0 0)
  exact ⟨b1'.below B b1'.lt, b2.below B b2.lt, step_trans (step_alloc (step_alloc (Below.refl _ w) _) _) B⟩
def MgGetPost (l : List UInt8) (w : World) (x : Ending) (w' : World) : Prop :=
  ∃ A c, x = .returned (.tuple #[mVal (gotM l) A c, .agg #[.int .i64 (gotE l), .int .i64 (gotA l)]]) ∧ BytesAt w' w'.heap.size A (gotM l).data ∧ Below w.heap.size w w'
theorem got_no_post {l : List UInt8} {e a : Int} (h : got l = .no e a) {w w' : World} (B : Below w.heap.size w w') : MgGetPost l w (.returned (.tuple #[zV none 0, .agg #[.int .i64 e, .int .i64 a]])) w' := by
  refine ⟨none, 0, ?_, ?_, B⟩
  · simp only [gotM, gotE, gotA, h]; rfl
  · simp only [gotM, h]; exact bytes_nil
set_option maxRecDepth 100000 in
set_option maxHeartbeats 2000000 in
theorem rg_short (A : Option Addr) (l : List UInt8) (n c : Nat) (w : World) (h : n < 2) (hg : got l = .no 4 n) : Calls Try.prog 15 #[.slice A n c] w (MgGetPost l w) := by
  have HP := Lib.hid (fun (w' : World) (B : Below w.heap.size w w') => got_no_post hg B)
  have HB := Lib.hid (step_alloc (step_alloc (Below.refl _ w) (mObj Mg.zero none 0)) (fO 4 n))
  clear hg
  go_enter Try.func15, Try.ntmps15
  go_wp2
  refine bodyPost_ret (v := .tuple #[zV none 0, .agg #[.int .i64 4, .int .i64 n]]) (by simp [results, Try.results15, go_sem]) rfl (HP.out _ HB.out)
/-- the first two bytes -/
theorem two_bytes (ad : Addr) (l : List UInt8) (K S : UInt8) (r : List UInt8) (hl : l = K :: S :: r) (w : World) (hr : BytesAt w w.heap.size (some ad) l) : w.cell? ad = some (.int .u8 (K.toNat : Int)) ∧ w.cell? ⟨ad.block, ad.off + 1, none⟩ = some (.int .u8 (S.toNat : Int)) := by
  subst hl
  obtain ⟨ad', e, _, hc⟩ := hr (by simp)
  cases e
  have h0 := hc 0 (by simp)
  have h1 := hc 1 (by simp)
  rw [add_zero] at h0
  exact ⟨h0, h1⟩
/-- the message's box, as it is made -/
abbrev kO (k s : Int) : Obj := .cells #[.int .i64 k, .int .i64 s, .int .i64 0, .int .i64 0, .int .i64 0, .int .i64 0, .bool false, .int .i64 0, .int .i64 0, .int .i64 0, .int .u64 0, .slice none 0 0] 27
def Mg.m0 (k s : Int) : M := { Mg.zero with kind := k, src := s }
/-- behind the box's making -/
structure GbAt (w wx : World) (ad : Addr) (l : List UInt8) (k s : Int) : Prop where
  res : BlkR 27 wx w.heap.size zCells
  flt_ : BlkR 38 wx (w.heap.size + 1) [.int .i64 0, .int .i64 0]
  bx : BlkR 27 wx (w.heap.size + 1 + 1) (mCells (m0 k s) (.slice none 0 0))
  src : BytesAt wx w.heap.size (some ad) l
  fr : Below w.heap.size w wx
  sz : wx.heap.size = w.heap.size + 1 + 1 + 1
theorem gb_at (w : World) (ad : Addr) (l : List UInt8) (k s : Int) (hr : BytesAt w w.heap.size (some ad) l) : GbAt w ((wRes w).alloc (kO k s)).drew ad l k s := by
  obtain ⟨h1, h2, h3⟩ := res_at w (wRes w) (Below.refl _ _)
  have b3 := BlkR.new (wRes w) (mCells (m0 k s) (.slice none 0 0)) 27
  rw [show (wRes w).heap.size = w.heap.size + 1 + 1 by simp] at b3
  have B : Below w.heap.size w ((wRes w).alloc (kO k s)) := step_alloc h3 _
  exact ⟨h1.allocB _, h2.allocB _, b3, (hr.below B).drew, B.drew, by simp⟩
theorem rg_end (w w8 : World) (l : List UInt8) (tmps : Array Value) (m : M) (D : Option Addr) (d : Nat) (e a : Int) (hz : BlkR 27 w8 w.heap.size (mCells m (.slice D m.data.length d))) (hf : BlkR 38 w8 (w.heap.size + 1) [.int .i64 e, .int .i64 a])
    (t2 : tmps.getD 2 undef = .pointer (some ⟨w.heap.size, 0, none⟩)) (t3 : tmps.getD 3 undef = .pointer (some ⟨w.heap.size + 1, 0, none⟩)) (hfin : MgGetPost l w (.returned (.tuple #[mVal m D d, .agg #[.int .i64 e, .int .i64 a]])) w8) :
    bodyPost Try.prog Try.f15 (MgGetPost l w) Exit.ret { tmps := tmps, defers := [] } w8 := by
  have hl1 := loadRow RM (xs := mCells m (.slice D m.data.length d)) rfl hz
  have hl2 := loadRow RFl (xs := [.int .i64 e, .int .i64 a]) rfl hf
  exact bodyPost_ret (results_cells2 Try.results15 tmps _ _ _ _ _ _ t2 t3 hl1 hl2) rfl hfin
/-- nothing told but a fault: the results' blocks are written over -/
theorem rg_zero (w wq : World) (l : List UInt8) (tmps : Array Value) (x a : Int) (b1 : BlkR 27 wq w.heap.size zCells) (b2 : BlkR 38 wq (w.heap.size + 1) [.int .i64 0, .int .i64 0]) (hfr : Below w.heap.size w wq) (hg : got l = .no x a)
    (t2 : tmps.getD 2 undef = .pointer (some ⟨w.heap.size, 0, none⟩)) (t3 : tmps.getD 3 undef = .pointer (some ⟨w.heap.size + 1, 0, none⟩)) :
    bodyPost Try.prog Try.f15 (MgGetPost l w) Exit.ret { tmps := tmps, defers := [] } ((((((((((((((wq.setCell ⟨w.heap.size, 0, none⟩ (.int .i64 0)).setCell ⟨w.heap.size, 1, none⟩ (.int .i64 0)).setCell ⟨w.heap.size, 2, none⟩ (.int .i64 0)).setCell ⟨w.heap.size, 3, none⟩ (.int .i64 0)).setCell ⟨w.heap.size, 4, none⟩ (.int .i64 0)).setCell ⟨w.heap.size, 5, none⟩ (.int .i64 0)).setCell ⟨w.heap.size, 6, none⟩ (.bool false)).setCell ⟨w.heap.size, 7, none⟩ (.int .i64 0)).setCell ⟨w.heap.size, 8, none⟩ (.int .i64 0)).setCell ⟨w.heap.size, 9, none⟩ (.int .i64 0)).setCell ⟨w.heap.size, 10, none⟩ (.int .u64 0)).setCell ⟨w.heap.size, 11, none⟩ (.slice none 0 0)).setCell ⟨w.heap.size + 1, 0, none⟩ (.int .i64 x)).setCell ⟨w.heap.size + 1, 1, none⟩ (.int .i64 a)).drew := by
  have k1 := setCells_at zCells wq 0 zCells b1 (by decide +kernel)
  have f1 := setCells_keep zCells wq w.heap.size 0
  obtain ⟨p1, p2, p3, p4⟩ := setCells_frame zCells wq w.heap.size 0
  have b2' : BlkR 38 (wq.setCells w.heap.size 0 zCells) (w.heap.size + 1) [.int .i64 0, .int .i64 0] := (f1 (w.heap.size + 1) (by omega)).trans b2
  have k2 := setCells_at [.int .i64 x, .int .i64 a] (wq.setCells w.heap.size 0 zCells) 0 [.int .i64 0, .int .i64 0] b2' (by simp)
  have f2 := setCells_keep [.int .i64 x, .int .i64 a] (wq.setCells w.heap.size 0 zCells) (w.heap.size + 1) 0
  obtain ⟨q1, q2, q3, q4⟩ := setCells_frame [.int .i64 x, .int .i64 a] (wq.setCells w.heap.size 0 zCells) (w.heap.size + 1) 0
  have hz : BlkR 27 ((wq.setCells w.heap.size 0 zCells).setCells (w.heap.size + 1) 0 [.int .i64 x, .int .i64 a]) w.heap.size zCells := (f2 w.heap.size (by omega)).trans k1
  have B : Below w.heap.size w ((wq.setCells w.heap.size 0 zCells).setCells (w.heap.size + 1) 0 [.int .i64 x, .int .i64 a]) :=
    ⟨by rw [q1, p1]; exact hfr.os, by rw [q2, p2]; exact hfr.tape, by rw [q3, p3]; exact hfr.output, by rw [q4, p4]; exact hfr.size, fun k hk => by rw [f2 k (by omega), f1 k (by omega)]; exact hfr.block k hk⟩
  have e : ((((((((((((((wq.setCell ⟨w.heap.size, 0, none⟩ (.int .i64 0)).setCell ⟨w.heap.size, 1, none⟩ (.int .i64 0)).setCell ⟨w.heap.size, 2, none⟩ (.int .i64 0)).setCell ⟨w.heap.size, 3, none⟩ (.int .i64 0)).setCell ⟨w.heap.size, 4, none⟩ (.int .i64 0)).setCell ⟨w.heap.size, 5, none⟩ (.int .i64 0)).setCell ⟨w.heap.size, 6, none⟩ (.bool false)).setCell ⟨w.heap.size, 7, none⟩ (.int .i64 0)).setCell ⟨w.heap.size, 8, none⟩ (.int .i64 0)).setCell ⟨w.heap.size, 9, none⟩ (.int .i64 0)).setCell ⟨w.heap.size, 10, none⟩ (.int .u64 0)).setCell ⟨w.heap.size, 11, none⟩ (.slice none 0 0)).setCell ⟨w.heap.size + 1, 0, none⟩ (.int .i64 x)).setCell ⟨w.heap.size + 1, 1, none⟩ (.int .i64 a)) = (wq.setCells w.heap.size 0 zCells).setCells (w.heap.size + 1) 0 [.int .i64 x, .int .i64 a] := by
    simp only [World.setCells, zCells]
  rw [e]
  have k3 : BlkR 38 ((wq.setCells w.heap.size 0 zCells).setCells (w.heap.size + 1) 0 [.int .i64 x, .int .i64 a]) (w.heap.size + 1) [.int .i64 x, .int .i64 a] := k2
  clear e k1 k2 f1 f2 p1 p2 p3 p4 q1 q2 q3 q4 b2'
  revert hz k3 B
  generalize (wq.setCells w.heap.size 0 zCells).setCells (w.heap.size + 1) 0 [.int .i64 x, .int .i64 a] = W2
  intro hz B k3
  exact rg_end w W2.drew l tmps Mg.zero none 0 x a hz k3 t2 t3 (got_no_post hg B.drew)
set_option maxRecDepth 100000 in
set_option maxHeartbeats 4000000 in
theorem rg_kind (ad : Addr) (l : List UInt8) (n c : Nat) (w : World) (hr : BytesAt w w.heap.size (some ad) l) (hn : l.length = n) (K S : UInt8) (r : List UInt8) (hl : l = K :: S :: r) (hf : (fls (K.toNat : Int)).isEmpty = true) (hg : got l = .no 6 0) : Calls Try.prog 15 #[.slice (some ad) n c] w (MgGetPost l w) := by
  have i1 : ¬ (n : Int) < 2 := by rw [← hn, hl]; simp; omega
  obtain ⟨k0, k1⟩ := two_bytes ad l K S r hl _ ((hr.stepA (zO none 0)).stepA (fO 0 0))
  obtain ⟨k2, k3⟩ := two_bytes ad l K S r hl _ (((hr.stepA (zO none 0)).stepA (fO 0 0)).stepA (zO none 0))
  have GB := Lib.hid (gb_at w ad l (K.toNat : Int) (S.toNat : Int) hr)
  have hK := K.toNat_lt
  have hS := S.toNat_lt
  obtain ⟨kk, hkk⟩ : ∃ k, k = (K.toNat : Int) := ⟨_, rfl⟩
  obtain ⟨ss, hss⟩ : ∃ k, k = (S.toNat : Int) := ⟨_, rfl⟩
  have e1 : IntKind.i64.wrap kk = kk := IntWalk.i64_in _ (by omega)
  have e2 : IntKind.i64.wrap ss = ss := IntWalk.i64_in _ (by omega)
  obtain ⟨T, hsz, h5, _, hix0, zf⟩ := refFields_str (K.toNat : Int)
  have hS2 := str_empty T _ hsz
  rw [show ((fls (K.toNat : Int)).map fch).isEmpty = (fls (K.toNat : Int)).isEmpty by simp, hf] at hS2
  rw [← hkk] at k0 k2 GB zf
  rw [← hss] at k1 k3 GB
  have HG := Lib.hid hg
  clear hsz h5 hix0 hl hf hg hr hn hkk hss hK hS
  go_enter Try.func15, Try.ntmps15
  go_wp2
  go_region
  go_wp2_with fail
  obtain ⟨wx, hwx⟩ : ∃ x, x = ((wRes w).alloc (kO kk ss)).drew := ⟨_, rfl⟩
  rw [← hwx] at GB ⊢
  obtain ⟨g, hg⟩ : ∃ g, g = w.heap.size := ⟨_, rfl⟩
  have HG2 := Lib.hid hg
  rw [← hg]
  have b1 : Hid (BlkR 27 wx g zCells) := Lib.hid (by rw [hg]; exact GB.out.res)
  have b2 : Hid (BlkR 38 wx (g + 1) [.int .i64 0, .int .i64 0]) := Lib.hid (by rw [hg]; exact GB.out.flt_)
  have b3 : Hid (BlkR 27 wx (g + 1 + 1) (mCells (m0 kk ss) (.slice none 0 0))) := Lib.hid (by rw [hg]; exact GB.out.bx)
  have c0 : wx.cell? ⟨g + 1 + 1, 0, none⟩ = some (.int .i64 kk) := b3.out.cell (k := 0) rfl
  have c1 : wx.cell? ⟨g + 1 + 1, 1, none⟩ = some (.int .i64 ss) := b3.out.cell (k := 1) rfl
  clear hwx hg k0 k1 k2 k3
  go_wp2_with (first
    | (go_at_call 21; refine (zf _).mono ?_; (rintro e w5 ⟨rfl, rfl⟩))
    | (refine wpList_storeRow RM rfl (.tmp 2) (.tmp 29) rfl g zCells zCells rfl rfl rfl rfl (mCells_one Mg.zero none 0 0) b1.out ?_; (intro w7 hb7 B7 hs7 hk7; have hf7 := (hk7 (g + 1) (by omega)).trans b2.out; have H7 := Lib.hid (And.intro hb7 (And.intro B7 (And.intro hs7 (And.intro hk7 hf7)))); clear hb7 B7 hs7 hk7 hf7))
    | (refine wpList_storeRow RFl rfl (.tmp 3) (.tmp 30) rfl (g + 1) [.int .i64 6, .int .i64 0] [.int .i64 0, .int .i64 0] rfl rfl rfl rfl (flt_one _ _) H7.out.2.2.2.2 ?_; (intro w8 hb8 B8 hs8 hk8; have H8 := Lib.hid (And.intro hb8 (And.intro B8 (And.intro hs8 hk8))); clear hb8 B8 hs8 hk8)))
  obtain ⟨hb7, B7, hs7, hk7, hf7⟩ := H7.out
  obtain ⟨hb8, B8, hs8, hk8⟩ := H8.out
  have hz8 := (hk8 g (by omega)).trans hb7
  obtain rfl := HG2.out
  exact rg_end w w8 l _ Mg.zero none 0 6 0 hz8 hb8 rfl rfl (got_no_post HG.out ((GB.out.fr.trans B7).trans (B8.mono (Nat.le_succ _))))

set_option maxRecDepth 100000 in
set_option maxHeartbeats 4000000 in
theorem rg_src (ad : Addr) (l : List UInt8) (n c : Nat) (w : World) (hr : BytesAt w w.heap.size (some ad) l) (hn : l.length = n) (K S : UInt8) (r : List UInt8) (hl : l = K :: S :: r) (hf : (fls (K.toNat : Int)).isEmpty = false) (h3 : 3 ≤ (S.toNat : Int)) (hg : got l = .no 5 1) : Calls Try.prog 15 #[.slice (some ad) n c] w (MgGetPost l w) := by
  have i1 : ¬ (n : Int) < 2 := by rw [← hn, hl]; simp; omega
  obtain ⟨k0, k1⟩ := two_bytes ad l K S r hl _ ((hr.stepA (zO none 0)).stepA (fO 0 0))
  obtain ⟨k2, k3⟩ := two_bytes ad l K S r hl _ (((hr.stepA (zO none 0)).stepA (fO 0 0)).stepA (zO none 0))
  have GB := Lib.hid (gb_at w ad l (K.toNat : Int) (S.toNat : Int) hr)
  have hK := K.toNat_lt
  have hS := S.toNat_lt
  obtain ⟨kk, hkk⟩ : ∃ k, k = (K.toNat : Int) := ⟨_, rfl⟩
  obtain ⟨ss, hss⟩ : ∃ k, k = (S.toNat : Int) := ⟨_, rfl⟩
  have e1 : IntKind.i64.wrap kk = kk := IntWalk.i64_in _ (by omega)
  have e2 : IntKind.i64.wrap ss = ss := IntWalk.i64_in _ (by omega)
  obtain ⟨T, hsz, h5, _, hix0, zf⟩ := refFields_str (K.toNat : Int)
  have hS2 := str_empty T _ hsz
  rw [show ((fls (K.toNat : Int)).map fch).isEmpty = (fls (K.toNat : Int)).isEmpty by simp, hf] at hS2
  rw [← hkk] at k0 k2 GB zf
  rw [← hss] at k1 k3 GB
  have HG := Lib.hid hg
  rw [← hss] at h3
  clear hsz h5 hix0 hl hf hg hr hn hkk hss hK hS
  go_enter Try.func15, Try.ntmps15
  go_wp2
  go_region
  go_wp2_with fail
  obtain ⟨wx, hwx⟩ : ∃ x, x = ((wRes w).alloc (kO kk ss)).drew := ⟨_, rfl⟩
  rw [← hwx] at GB ⊢
  obtain ⟨g, hg⟩ : ∃ g, g = w.heap.size := ⟨_, rfl⟩
  have HG2 := Lib.hid hg
  rw [← hg]
  have b1 : Hid (BlkR 27 wx g zCells) := Lib.hid (by rw [hg]; exact GB.out.res)
  have b2 : Hid (BlkR 38 wx (g + 1) [.int .i64 0, .int .i64 0]) := Lib.hid (by rw [hg]; exact GB.out.flt_)
  have b3 : Hid (BlkR 27 wx (g + 1 + 1) (mCells (m0 kk ss) (.slice none 0 0))) := Lib.hid (by rw [hg]; exact GB.out.bx)
  have c0 : wx.cell? ⟨g + 1 + 1, 0, none⟩ = some (.int .i64 kk) := b3.out.cell (k := 0) rfl
  have c1 : wx.cell? ⟨g + 1 + 1, 1, none⟩ = some (.int .i64 ss) := b3.out.cell (k := 1) rfl
  clear hwx hg k0 k1 k2 k3
  go_wp2_with (first
    | (go_at_call 21; refine (zf _).mono ?_; (rintro e w5 ⟨rfl, rfl⟩))
    | (refine wpList_storeRow RM rfl (.tmp 2) (.tmp 34) rfl g zCells zCells rfl rfl rfl rfl (mCells_one Mg.zero none 0 0) b1.out ?_; (intro w7 hb7 B7 hs7 hk7; have hf7 := (hk7 (g + 1) (by omega)).trans b2.out; have H7 := Lib.hid (And.intro hb7 (And.intro B7 (And.intro hs7 (And.intro hk7 hf7)))); clear hb7 B7 hs7 hk7 hf7))
    | (refine wpList_storeRow RFl rfl (.tmp 3) (.tmp 35) rfl (g + 1) [.int .i64 5, .int .i64 1] [.int .i64 0, .int .i64 0] rfl rfl rfl rfl (flt_one _ _) H7.out.2.2.2.2 ?_; (intro w8 hb8 B8 hs8 hk8; have H8 := Lib.hid (And.intro hb8 (And.intro B8 (And.intro hs8 hk8))); clear hb8 B8 hs8 hk8)))
  obtain ⟨hb7, B7, hs7, hk7, hf7⟩ := H7.out
  obtain ⟨hb8, B8, hs8, hk8⟩ := H8.out
  have hz8 := (hk8 g (by omega)).trans hb7
  obtain rfl := HG2.out
  exact rg_end w w8 l _ Mg.zero none 0 5 1 hz8 hb8 rfl rfl (got_no_post HG.out ((GB.out.fr.trans B7).trans (B8.mono (Nat.le_succ _))))

set_option maxRecDepth 100000 in
set_option maxHeartbeats 4000000 in
theorem rg_loop (ad : Addr) (l : List UInt8) (n c : Nat) (w : World) (hr : BytesAt w w.heap.size (some ad) l) (hn : l.length = n) (K S : UInt8) (r : List UInt8) (hl : l = K :: S :: r) (hf : (fls (K.toNat : Int)).isEmpty = false) (h3 : (S.toNat : Int) < 3) (hc : n ≤ c) (h1000 : n ≤ 1000) (hgot : got l = (Mg.run (rOps l) ((fls (K.toNat : Int)).flatMap parts) (m0 (K.toNat : Int) (S.toNat : Int), 2)).bind fun s => if s.2 = l.length then .ok s.1 else .no 4 s.2) : Calls Try.prog 15 #[.slice (some ad) n c] w (MgGetPost l w) := by
  have i1 : ¬ (n : Int) < 2 := by rw [← hn, hl]; simp; omega
  obtain ⟨k0, k1⟩ := two_bytes ad l K S r hl _ ((hr.stepA (zO none 0)).stepA (fO 0 0))
  obtain ⟨k2, k3⟩ := two_bytes ad l K S r hl _ (((hr.stepA (zO none 0)).stepA (fO 0 0)).stepA (zO none 0))
  have GB := Lib.hid (gb_at w ad l (K.toNat : Int) (S.toNat : Int) hr)
  have hK := K.toNat_lt
  have hS := S.toNat_lt
  obtain ⟨kk, hkk⟩ : ∃ k, k = (K.toNat : Int) := ⟨_, rfl⟩
  obtain ⟨ss, hss⟩ : ∃ k, k = (S.toNat : Int) := ⟨_, rfl⟩
  have e1 : IntKind.i64.wrap kk = kk := IntWalk.i64_in _ (by omega)
  have e2 : IntKind.i64.wrap ss = ss := IntWalk.i64_in _ (by omega)
  obtain ⟨T, hsz, h5, _, hix0, zf⟩ := refFields_str (K.toNat : Int)
  have hS2 := str_empty T _ hsz
  rw [show ((fls (K.toNat : Int)).map fch).isEmpty = (fls (K.toNat : Int)).isEmpty by simp, hf] at hS2
  rw [← hkk] at k0 k2 GB zf hix0 hsz h5 hgot
  rw [← hss] at k1 k3 GB
  rw [← hss] at h3 hgot
  have h2n : 2 ≤ n := by rw [← hn, hl]; simp
  rw [List.length_map] at hsz h5
  obtain ⟨fs, hfs⟩ : ∃ fs, fs = fls kk := ⟨_, rfl⟩
  rw [← hfs] at hsz h5 hix0 hgot
  have HIX := Lib.hid hix0
  have HG := Lib.hid hgot
  have HN := Lib.hid (And.intro hn (And.intro hc (And.intro h1000 h2n)))
  have i3 : ¬ (3 : Int) ≤ ss := by omega
  clear hix0 hl hf hgot hr hn hkk hss hK hS hc h1000 h2n h3 hfs
  go_enter Try.func15, Try.ntmps15
  go_wp2
  go_region
  go_wp2_with fail
  obtain ⟨wx, hwx⟩ : ∃ x, x = ((wRes w).alloc (kO kk ss)).drew := ⟨_, rfl⟩
  rw [← hwx] at GB ⊢
  obtain ⟨g, hg⟩ : ∃ g, g = w.heap.size := ⟨_, rfl⟩
  have HG2 := Lib.hid hg
  rw [← hg]
  have b1 : Hid (BlkR 27 wx g zCells) := Lib.hid (by rw [hg]; exact GB.out.res)
  have b2 : Hid (BlkR 38 wx (g + 1) [.int .i64 0, .int .i64 0]) := Lib.hid (by rw [hg]; exact GB.out.flt_)
  have b3 : Hid (BlkR 27 wx (g + 1 + 1) (mCells (m0 kk ss) (.slice none 0 0))) := Lib.hid (by rw [hg]; exact GB.out.bx)
  have c0 : wx.cell? ⟨g + 1 + 1, 0, none⟩ = some (.int .i64 kk) := b3.out.cell (k := 0) rfl
  have c1 : wx.cell? ⟨g + 1 + 1, 1, none⟩ = some (.int .i64 ss) := b3.out.cell (k := 1) rfl
  clear hwx hg k0 k1 k2 k3
  have hr0 : RsAt (wx.alloc (.cells #[.slice (some ad) n c, .int .i64 2, .int .i64 0, .int .i64 0] 64)) (wx.alloc (.cells #[.slice (some ad) n c, .int .i64 2, .int .i64 0, .int .i64 0] 64)) wx.heap.size (g + 1 + 1) g (some ad) l n c 2 (m0 kk ss) none 0 := by
    obtain rfl := HG2.out
    exact ⟨BlkR.new wx [.slice (some ad) n c, .int .i64 2, .int .i64 0, .int .i64 0] _, b3.out.allocB _, bytes_nil, fun h => absurd rfl h, GB.out.src.alloc GB.out.fr.size _, Frame.refl _ _⟩
  have HR0 := Lib.hid hr0
  clear hr0
  go_wp2_with (first
    | (go_at_call 21; refine (zf _).mono ?_; (rintro e w5 ⟨rfl, rfl⟩)))
  obtain ⟨wR, hwR⟩ : ∃ x, x = wx.alloc (.cells #[.slice (some ad) n c, .int .i64 2, .int .i64 0, .int .i64 0] 64) := ⟨_, rfl⟩
  rw [← hwR] at HR0 ⊢
  have HRB : Hid (Below w.heap.size w wR ∧ BlkR 27 wR g zCells ∧ BlkR 38 wR (g + 1) [.int .i64 0, .int .i64 0] ∧ wx.heap.size = g + 1 + 1 + 1) := Lib.hid (by
    rw [hwR]
    exact ⟨step_alloc GB.out.fr _, b1.out.allocB _, b2.out.allocB _, by rw [GB.out.sz, ← HG2.out]⟩)
  obtain ⟨rr, hrr⟩ : ∃ r, r = wx.heap.size := ⟨_, rfl⟩
  rw [← hrr] at HR0 HRB ⊢
  clear hwR hrr c0 c1 zf hS2
  go_loopw [7] (fun iv wr => ∃ j : Nat, j ≤ fs.length ∧ iv = .int .i64 (j : Int) ∧ ((∃ m i D d, Mg.run (rOps l) ((fs.take j).flatMap parts) (m0 kk ss, 2) = .ok (m, i) ∧ i ≤ n ∧ RsAt wR wr rr (g + 1 + 1) g (some ad) l n c i m D d) ∨ (∃ x a, Mg.run (rOps l) ((fs.take j).flatMap parts) (m0 kk ss, 2) = .no x a ∧ x ≠ 0 ∧ FlAt wR wr rr (g + 1 + 1) (some ad) n c x a))) (fun iv _ => fs.length - (intOf iv).toNat)
  case atStart => exact ⟨0, Nat.zero_le _, rfl, .inl ⟨m0 kk ss, 2, none, 0, rfl, HN.out.2.2.2, HR0.out⟩⟩
  case round =>
    obtain ⟨j, hj, rfl, hinv⟩ := hrel
    by_cases hjn : j < fs.length
    · have hjs : j < T.size := by omega
      have hix := HIX.out j hjs
      obtain ⟨f, hfj⟩ : ∃ f, fs[j]? = some f := ⟨_, List.getElem?_eq_getElem hjn⟩
      rw [show (List.map fch fs).getD j 0 = fch f by simp [hfj]] at hix
      have hnext : Mg.run (rOps l) ((fs.take (j + 1)).flatMap parts) (m0 kk ss, 2) = (Mg.run (rOps l) ((fs.take j).flatMap parts) (m0 kk ss, 2)).bind (Mg.run (rOps l) (parts f)) := by
        rw [List.take_add_one, hfj]
        simp only [Option.toList_some, List.flatMap_append, List.flatMap_cons, List.flatMap_nil, List.append_nil]
        exact run_append _ _ _ _
      have HX := Lib.hid hnext
      rcases hinv with ⟨m, i, D, d, hrun, hi, hs⟩ | ⟨x, a, hrun, hx, hfl⟩
      · rw [hrun] at HX
        cases hpf : Mg.run (rOps l) (parts f) (m, i) with
        | ok y =>
          obtain ⟨m', i'⟩ := y
          have z : Calls Try.prog 29 #[.pointer (some ⟨rr, 0, none⟩), .int .u8 ((T[j]'hjs).toNat : Int), .pointer (some ⟨g + 1 + 1, 0, none⟩)] wr (fun e w' => e = .returned (.tuple #[]) ∧ i' ≤ n ∧ ∃ D' d', RsAt wR w' rr (g + 1 + 1) g (some ad) l n c i' m' D' d') := by
            rw [hix]
            exact field_ok wR wr rr (g + 1 + 1) g (some ad) l n c i m D d f HN.out.2.1 hs (by have := HRB.out.2.2.2; omega) (by have := HRB.out.2.2.2; omega) (by omega) HN.out.1 HN.out.2.2.1 hi m' i' hpf
          have HY := Lib.hid (HX.out.trans hpf)
          clear hrun hs hpf hix hnext hfj HX
          go_wp2_with (go_at_call 29; refine z.mono ?_; (rintro e w6 ⟨rfl, hi6, D6, d6, hs6⟩; have H6 := Lib.hid (And.intro hi6 hs6); clear hi6 hs6))
          go_roundw
          case rel => exact ⟨j + 1, by omega, by go_num, .inl ⟨m', i', D6, d6, HY.out, H6.out.1, H6.out.2⟩⟩
          case measure => simp [intOf]; omega
        | no x a =>
          have z : Calls Try.prog 29 #[.pointer (some ⟨rr, 0, none⟩), .int .u8 ((T[j]'hjs).toNat : Int), .pointer (some ⟨g + 1 + 1, 0, none⟩)] wr (fun e w' => e = .returned (.tuple #[]) ∧ x ≠ 0 ∧ FlAt wR w' rr (g + 1 + 1) (some ad) n c x a) := by
            rw [hix]
            exact field_no wR wr rr (g + 1 + 1) g (some ad) l n c i m D d f hs (by have := HRB.out.2.2.2; omega) (by have := HRB.out.2.2.2; omega) (by omega) HN.out.1 HN.out.2.2.1 hi x a hpf
          have HY := Lib.hid (HX.out.trans hpf)
          clear hrun hs hpf hix hnext hfj HX
          go_wp2_with (go_at_call 29; refine z.mono ?_; (rintro e w6 ⟨rfl, hx6, hs6⟩; have H6 := Lib.hid (And.intro hx6 hs6); clear hx6 hs6))
          go_roundw
          case rel => exact ⟨j + 1, by omega, by go_num, .inr ⟨x, a, HY.out, H6.out.1, H6.out.2⟩⟩
          case measure => simp [intOf]; omega
      · rw [hrun] at HX
        have z := field_sticky wR wr rr (g + 1 + 1) (some ad) n c x a ((T[j]'hjs).toNat : Int) (some ⟨g + 1 + 1, 0, none⟩) hfl hx
        have HF := Lib.hid (And.intro hx hfl)
        clear hrun hfl hx hix hnext hfj
        go_wp2_with (go_at_call 29; refine z.mono ?_; (rintro e w6 ⟨rfl, rfl⟩))
        go_roundw
        case rel => exact ⟨j + 1, by omega, by go_num, .inr ⟨x, a, HX.out, HF.out.1, HF.out.2⟩⟩
        case measure => simp [intOf]; omega
    · obtain rfl : j = fs.length := by omega
      rw [List.take_length] at hinv
      rcases hinv with ⟨m, i, D, d, hrun, hi, hs⟩ | ⟨x, a, hrun, hx, hfl⟩
      · obtain ⟨x0, x1, x2, x3, f1, f2, f3⟩ := hs.rd.rd
        have hgt := HG.out
        rw [hrun] at hgt
        replace hgt : got l = if i = l.length then .ok m else .no 4 i := hgt
        rw [HN.out.1] at hgt
        by_cases hin : i = n
        · rw [if_pos hin] at hgt
          have i5 : ¬ (i : Int) < (n : Int) := by omega
          have HE := Lib.hid (And.intro hgt hs)
          clear hgt hs hrun hi hin
          have B1 : Hid (BlkR 27 wr g zCells) := Lib.hid ((HE.out.2.fr.block g HRB.out.2.1.lt (by have := HRB.out.2.2.2; omega)).trans HRB.out.2.1)
          have B2 : Hid (BlkR 38 wr (g + 1) [.int .i64 0, .int .i64 0]) := Lib.hid ((HE.out.2.fr.block (g + 1) HRB.out.2.2.1.lt (by have := HRB.out.2.2.2; omega)).trans HRB.out.2.2.1)
          go_wp2_with (first
            | (refine wpList_loadRow RM rfl (.tmp 4) rfl (g + 1 + 1) 0 (mCells m (.slice D m.data.length d)) rfl rfl (rangeOf HE.out.2.bx) ?_)
            | (refine wpList_storeRow RM rfl (.tmp 2) (.tmp 84) rfl g (mCells m (.slice D m.data.length d)) zCells rfl rfl rfl rfl (mCells_one _ _ _ _) B1.out ?_; (intro w7 hb7 X7 hs7 hk7; have hf7 := (hk7 (g + 1) (by omega)).trans B2.out; have H7 := Lib.hid (And.intro hb7 (And.intro X7 (And.intro hs7 (And.intro hk7 hf7)))); clear hb7 X7 hs7 hk7 hf7))
            | (refine wpList_storeRow RFl rfl (.tmp 3) (.tmp 85) rfl (g + 1) [.int .i64 0, .int .i64 0] [.int .i64 0, .int .i64 0] rfl rfl rfl rfl (flt_one _ _) H7.out.2.2.2.2 ?_; (intro w8 hb8 X8 hs8 hk8; have H8 := Lib.hid (And.intro hb8 (And.intro X8 (And.intro hs8 hk8))); clear hb8 X8 hs8 hk8)))
          obtain ⟨hb7, X7, hs7, hk7, hf7⟩ := H7.out
          obtain ⟨hb8, X8, hs8, hk8⟩ := H8.out
          have hz8 := (hk8 g (by omega)).trans hb7
          obtain rfl := HG2.out
          have hq := HRB.out.2.2.2
          have hfr : Below w.heap.size w wr := HRB.out.1.trans (HE.out.2.fr.below (fun k hk => by omega) HRB.out.1.size)
          have hD8 : BytesAt w8 w8.heap.size D m.data := ((HE.out.2.dat.off (F := fun k => k = w.heap.size) ⟨X7.os, X7.tape, X7.output, Nat.le_of_eq hs7.symm, fun k _ hk => hk7 k hk⟩ (fun hl ad e x => by have := HE.out.2.nd hl ad e; omega))).off (F := fun k => k = w.heap.size + 1) ⟨X8.os, X8.tape, X8.output, Nat.le_of_eq hs8.symm, fun k _ hk => hk8 k hk⟩ (fun hl ad e x => by have := HE.out.2.nd hl ad e; omega)
          refine rg_end w w8 l _ m D d 0 0 hz8 hb8 rfl rfl ⟨D, d, ?_, ?_, (hfr.trans X7).trans (X8.mono (Nat.le_succ _))⟩
          · simp only [gotM, gotE, gotA, HE.out.1]
          · simp only [gotM, HE.out.1]; exact hD8
        · rw [if_neg hin] at hgt
          have i5 : (i : Int) < (n : Int) := by omega
          have HE := Lib.hid (And.intro hgt hs)
          clear hgt hs hrun hi hin
          have HNE : Hid (rr ≠ g ∧ rr ≠ g + 1) := Lib.hid (by have := HRB.out.2.2.2; omega)
          go_wp2_with fail
          obtain ⟨wq, hwq⟩ : ∃ q, q = (wr.setCell ⟨rr, 2, none⟩ (.int .i64 4)).setCell ⟨rr, 3, none⟩ (.int .i64 (i : Int)) := ⟨_, rfl⟩
          rw [← hwq]
          have yy := (HE.out.2.rd.fault 4 (i : Int)).rd
          rw [← hwq] at yy
          obtain ⟨_, _, y2, y3, _, _, _⟩ := yy
          have hfr : Hid (Below w.heap.size w wq) := Lib.hid (by rw [hwq]; have hq := HRB.out.2.2.2; have hg := HG2.out; exact ((HRB.out.1.trans (HE.out.2.fr.below (fun k hk => by omega) HRB.out.1.size)).setCell (by show w.heap.size ≤ rr; omega) _).setCell (by show w.heap.size ≤ rr; omega) _)
          have B1 : Hid (BlkR 27 wq g zCells) := Lib.hid (by rw [hwq]; exact (Below.heap_setCell _ ⟨rr, 3, none⟩ _ g HNE.out.1.symm).trans ((Below.heap_setCell _ ⟨rr, 2, none⟩ _ g HNE.out.1.symm).trans ((HE.out.2.fr.block g HRB.out.2.1.lt (by have := HRB.out.2.2.2; omega)).trans HRB.out.2.1)))
          have B2 : Hid (BlkR 38 wq (g + 1) [.int .i64 0, .int .i64 0]) := Lib.hid (by rw [hwq]; exact (Below.heap_setCell _ ⟨rr, 3, none⟩ _ (g + 1) HNE.out.2.symm).trans ((Below.heap_setCell _ ⟨rr, 2, none⟩ _ (g + 1) HNE.out.2.symm).trans ((HE.out.2.fr.block (g + 1) HRB.out.2.2.1.lt (by have := HRB.out.2.2.2; omega)).trans HRB.out.2.2.1)))
          clear hwq
          obtain ⟨z0, z1, z2, z3, z4, z5, z6, z7, z8, z9, z10, z11⟩ := (show MgAt wq g Mg.zero none 0 0 from mgAt B1.out)
          have zf : ∀ k, wq.frozen? ⟨g, k, none⟩ = false := fun k => B1.out.frozen k
          have v0 : wq.cell? ⟨g + 1, 0, none⟩ = some (.int .i64 0) := B2.out.cell (k := 0) rfl
          have v1 : wq.cell? ⟨g + 1, 1, none⟩ = some (.int .i64 0) := B2.out.cell (k := 1) rfl
          have vf : ∀ k, wq.frozen? ⟨g + 1, k, none⟩ = false := fun k => B2.out.frozen k
          obtain ⟨n1, n2⟩ := HNE.out
          have n3 : g ≠ rr := n1.symm
          have n4 : g + 1 ≠ rr := n2.symm
          have HZ := Lib.hid HRB.out
          clear HRB
          go_region
          go_wp2_with fail
          obtain rfl := HG2.out
          exact rg_zero w wq l _ 4 (i : Int) B1.out B2.out hfr.out HE.out.1 rfl rfl
      · obtain ⟨pj, hrd⟩ := hfl.rd
        obtain ⟨x0, x1, x2, x3, f1, f2, f3⟩ := hrd.rd
        have hgt := HG.out
        rw [hrun] at hgt
        replace hgt : got l = .no x a := hgt
        have HE := Lib.hid (And.intro hgt hfl)
        have i5 : (x == 0) = false := by rw [beq_eq_false_iff_ne]; exact hx
        have i6 : (x != 0) = true := by rw [bne_iff_ne]; exact hx
        clear hgt hfl hrun hrd hx
        have HNE : Hid (rr ≠ g ∧ rr ≠ g + 1) := Lib.hid (by have := HRB.out.2.2.2; omega)
        have y2 := x2
        have y3 := x3
        go_wp2_with fail
        have hfr : Hid (Below w.heap.size w wr) := Lib.hid (by have hq := HRB.out.2.2.2; have hg := HG2.out; exact HRB.out.1.trans (HE.out.2.fr.below (fun k hk => by omega) HRB.out.1.size))
        have B1 : Hid (BlkR 27 wr g zCells) := Lib.hid ((HE.out.2.fr.block g HRB.out.2.1.lt (by have := HRB.out.2.2.2; omega)).trans HRB.out.2.1)
        have B2 : Hid (BlkR 38 wr (g + 1) [.int .i64 0, .int .i64 0]) := Lib.hid ((HE.out.2.fr.block (g + 1) HRB.out.2.2.1.lt (by have := HRB.out.2.2.2; omega)).trans HRB.out.2.2.1)
        obtain ⟨z0, z1, z2, z3, z4, z5, z6, z7, z8, z9, z10, z11⟩ := (show MgAt wr g Mg.zero none 0 0 from mgAt B1.out)
        have zf : ∀ k, wr.frozen? ⟨g, k, none⟩ = false := fun k => B1.out.frozen k
        have v0 : wr.cell? ⟨g + 1, 0, none⟩ = some (.int .i64 0) := B2.out.cell (k := 0) rfl
        have v1 : wr.cell? ⟨g + 1, 1, none⟩ = some (.int .i64 0) := B2.out.cell (k := 1) rfl
        have vf : ∀ k, wr.frozen? ⟨g + 1, k, none⟩ = false := fun k => B2.out.frozen k
        obtain ⟨n1, n2⟩ := HNE.out
        have n3 : g ≠ rr := n1.symm
        have n4 : g + 1 ≠ rr := n2.symm
        have HZ := Lib.hid HRB.out
        clear HRB
        go_region
        go_wp2_with fail
        obtain rfl := HG2.out
        exact rg_zero w wr l _ x a B1.out B2.out hfr.out HE.out.1 rfl rfl

end Go.Proofs.Ytfiijnpabmocdaa
