/-
  The walk of MsgPuts. Conditions: the bytes can be read.
-/
import Derived.Test.YtfiijnpabmocdaaMgRefC
import Derived.Test.YtfiijnpabmocdaaBa
namespace Go.Proofs.Ytfiijnpabmocdaa
open Go.RowKit Mg

/-- both boxes, before the bytes are lent and later on -/
abbrev boxes (m : M) (A : Option Addr) (c : Nat) (w : World) : World := (w.alloc (mObj m A c)).alloc (mObj m A c)
theorem boxes_at (m : M) (A : Option Addr) (c : Nat) (w : World) (hr : BytesAt w w.heap.size A m.data) (w1 : World) (B : Below (boxes m A c w).heap.size (boxes m A c w) w1) :
    BlkR 27 w1 w.heap.size (mCells m (.slice A m.data.length c)) ∧ BlkR 27 w1 (w.heap.size + 1) (mCells m (.slice A m.data.length c)) ∧ BytesAt w1 w1.heap.size A m.data ∧ Below w.heap.size w w1 := by
  have b1 := BlkR.new w (mCells m (.slice A m.data.length c)) 27
  have b2 := BlkR.new (w.alloc (mObj m A c)) (mCells m (.slice A m.data.length c)) 27
  have b1' := b1.allocB (mObj m A c)
  rw [show (w.alloc (mObj m A c)).heap.size = w.heap.size + 1 by simp] at b2
  have B0 : Below w.heap.size w (boxes m A c w) := step_alloc (step_alloc (Below.refl _ w) _) _
  exact ⟨b1'.below B b1'.lt, b2.below B b2.lt, (hr.step B0).step B, step_trans B0 B⟩
/-- behind the lending: all that stands, later on -/
theorem puts_at (m : M) (A : Option Addr) (c : Nat) (w : World) (hr : BytesAt w w.heap.size A m.data) (w2 : World) (g : Nat) (B : Below (boxes m A c w).heap.size (boxes m A c w) w2) (hg : (boxes m A c w).heap.size ≤ g) (hb : BlkB w2 g (lent m.data)) (w3 : World)
    (B3 : Below (w2.setCell ⟨w.heap.size + 1, 11, none⟩ (.slice (some ⟨g, 0, none⟩) m.data.length (m.data.length + 3))).heap.size (w2.setCell ⟨w.heap.size + 1, 11, none⟩ (.slice (some ⟨g, 0, none⟩) m.data.length (m.data.length + 3))) w3) :
    MgAt w3 w.heap.size m A m.data.length c ∧ MgAt w3 (w.heap.size + 1) m (some ⟨g, 0, none⟩) m.data.length (m.data.length + 3) ∧ BytesAt w3 w3.heap.size A m.data ∧ BytesAt w3 w3.heap.size (some ⟨g, 0, none⟩) m.data ∧ BlkB w3 g (lent m.data) ∧ Below w.heap.size w w3 := by
  obtain ⟨h1, h2, h3, h4⟩ := boxes_at m A c w hr w2 B
  have hsz : (boxes m A c w).heap.size = w.heap.size + 1 + 1 := by simp
  have k2 := h2.set_ 11 (.slice (some ⟨g, 0, none⟩) m.data.length (m.data.length + 3))
  have hF : Frame (fun x => x = w.heap.size + 1) w2 (w2.setCell ⟨w.heap.size + 1, 11, none⟩ (.slice (some ⟨g, 0, none⟩) m.data.length (m.data.length + 3))) := (Frame.refl (fun x => x = w.heap.size + 1) w2).setAt ⟨w.heap.size + 1, 11, none⟩ _ rfl
  have k1 : BlkR 27 (w2.setCell ⟨w.heap.size + 1, 11, none⟩ (.slice (some ⟨g, 0, none⟩) m.data.length (m.data.length + 3))) w.heap.size (mCells m (.slice A m.data.length c)) := (hF.block _ h1.lt (by omega)).trans h1
  have kb : BlkB (w2.setCell ⟨w.heap.size + 1, 11, none⟩ (.slice (some ⟨g, 0, none⟩) m.data.length (m.data.length + 3))) g (lent m.data) := (hF.block _ hb.lt (by omega)).trans hb
  have BW : Below w.heap.size w (w2.setCell ⟨w.heap.size + 1, 11, none⟩ (.slice (some ⟨g, 0, none⟩) m.data.length (m.data.length + 3))) := h4.setCell (Nat.le_succ _) _
  have kb3 := kb.step B3
  exact ⟨mgAt (k1.below B3 k1.lt), mgAt (k2.below B3 k2.lt), (hr.step BW).step B3, kb3.bytes _ ⟨_, rfl⟩ kb3.lt, kb3, step_trans BW B3⟩
set_option maxRecDepth 100000 in
set_option maxHeartbeats 4000000 in
theorem puts_long (m : M) (A : Option Addr) (c : Nat) (w : World) (hr : BytesAt w w.heap.size A m.data) (h1 : (100 : Int) < (m.data.length : Int)) :
    Calls Try.prog 3 #[mVal m A c] w fun e w' => e = .returned (.bool true) ∧ Below w.heap.size w w' := by
  obtain ⟨⟨a0, a1, a2, a3, a4, a5, a6, a7, a8, a9, a10, a11⟩, _, _, _⟩ := back_at m A c [] none w hr bytes_nil _ (Below.refl _ _)
  clear hr
  go_enter Try.func3, Try.ntmps3
  go_wp2
  go_ret
  exact ⟨rfl, step_alloc (Below.refl _ w) _⟩
set_option maxRecDepth 100000 in
set_option maxHeartbeats 4000000 in
theorem puts_short (m : M) (A : Option Addr) (c : Nat) (w : World) (hwf : Wf m) (hr : BytesAt w w.heap.size A m.data) (h1 : ¬ (100 : Int) < (m.data.length : Int)) :
    Calls Try.prog 3 #[mVal m A c] w fun e w' => e = .returned (.bool true) ∧ Below w.heap.size w w' := by
  obtain ⟨xs, hxs⟩ : ∃ l, Mg.putB m = l := ⟨_, rfl⟩
  obtain ⟨E, hE⟩ : ∃ E, Mg.putE m = E := ⟨_, rfl⟩
  obtain ⟨k, hk⟩ : ∃ n, xs.length = n := ⟨_, rfl⟩
  have hl : m.data.length ≤ 140737488351232 := by omega
  have za := fun w h => lentBytes_any A m.data c w hl h
  unfold LentPost at za
  have zm := fun A' c' w h => putV m A' c' hwf xs E hxs hE k hk w h
  have zp := fun w h => refPut_v m A c hwf.2.2.2.2.2.2.2.2.2 xs E hxs hE k hk w h
  have zc := fun A' c' w h => checkV m A' c' hwf E hE w h
  have zr := fun w h => refCheck_any m A c w h
  rw [hE] at zr
  have zs := fun P q P' q' w h h' => same_yes P xs k q hk P' xs k q' hk w h h' rfl
  have zo := fun P q base w hc h hb => over_whole P xs k q base hk hc w h hb
  have zk := fun g w h h' => keptBytes_yes g m.data A c w hl h h'
  have e1 : (E == E) = true := beq_self_eq_true _
  have S0 := Lib.hid (boxes_at m A c w hr)
  have T0 := Lib.hid (fun w2 g B hg hb => puts_at m A c w hr w2 g B hg hb)
  have R0 := Lib.hid (hr.step (step_alloc (step_alloc (Below.refl _ w) (mObj m A c)) (mObj m A c)))
  obtain ⟨⟨x0, x1, x2, x3, x4, x5, x6, x7, x8, x9, x10, x11⟩, _, _, _⟩ := back_at m A c [] none w hr bytes_nil _ (Below.refl _ _)
  clear hr hwf hxs hE hk hl
  go_enter Try.func3, Try.ntmps3
  go_wp2_with (first
    | (go_at_call 5; refine (za _ R0.out).mono ?_; (rintro e w2 ⟨g, rfl, hg, hb, X⟩; have f11 := (S0.out w2 X).2.1.frozen 11; have y11 := (S0.out w2 X).2.1.cell (k := 11) rfl; have P0 := Lib.hid (T0.out w2 g X hg hb); clear X hg hb; obtain ⟨⟨a0, a1, a2, a3, a4, a5, a6, a7, a8, a9, a10, a11⟩, ⟨b0, b1, b2, b3, b4, b5, b6, b7, b8, b9, b10, b11⟩, _, _, _, _⟩ := P0.out _ (Below.refl _ _); have r2 := Lib.hid (P0.out _ (Below.refl _ _)).2.2.2.1))
    | (go_at_call 6; refine (zm _ _ _ r2.out).mono ?_; (rintro e w3 ⟨P3, q3, rfl, hc3, hd3, hW, X⟩; have W3 := Lib.hid hW; have Q3 := Lib.hid hd3; clear hW hc3 hd3; obtain ⟨⟨a0, a1, a2, a3, a4, a5, a6, a7, a8, a9, a10, a11⟩, ⟨b0, b1, b2, b3, b4, b5, b6, b7, b8, b9, b10, b11⟩, _, _, _, _⟩ := P0.out _ (X); have B3 := Lib.hid (X); have r3 := Lib.hid (P0.out _ X).2.2.1))
    | (go_at_call 7; refine (zp w3 r3.out).mono ?_; (rintro e w4 ⟨P4, q4, rfl, hp4, X4⟩; have O4 := Lib.hid hp4; have X := step_trans B3.out X4; have W4 := Lib.hid (W3.out.step X4); clear X4 hp4; obtain ⟨⟨a0, a1, a2, a3, a4, a5, a6, a7, a8, a9, a10, a11⟩, ⟨b0, b1, b2, b3, b4, b5, b6, b7, b8, b9, b10, b11⟩, _, _, _, _⟩ := P0.out _ (X); have B4 := Lib.hid (X))))
  have K0 : Below w4.heap.size w4 w4.drew := (Below.refl _ w4).drew
  have HK := Lib.hid (fun (w' : World) (Bk : Below w4.heap.size w4 w') => P0.out w' (step_trans B4.out Bk))
  have G0 := Lib.hid (P0.out w4 B4.out).2.2.2.1.drew
  clear y11 f11 x0 x1 x2 x3 x4 x5 x6 x7 x8 x9 x10 x11
  go_region_held3 (fun w' => (w'.cell? ⟨w.heap.size, 0, none⟩ = some (.int .i64 m.kind) ∧ w'.cell? ⟨w.heap.size, 1, none⟩ = some (.int .i64 m.src) ∧ w'.cell? ⟨w.heap.size, 2, none⟩ = some (.int .i64 m.term) ∧ w'.cell? ⟨w.heap.size, 3, none⟩ = some (.int .i64 m.seq) ∧ w'.cell? ⟨w.heap.size, 4, none⟩ = some (.int .i64 m.stamp) ∧ w'.cell? ⟨w.heap.size, 5, none⟩ = some (.int .i64 m.block) ∧ w'.cell? ⟨w.heap.size, 6, none⟩ = some (.bool m.ok) ∧ w'.cell? ⟨w.heap.size, 7, none⟩ = some (.int .i64 m.rt) ∧ w'.cell? ⟨w.heap.size, 8, none⟩ = some (.int .i64 m.rn) ∧ w'.cell? ⟨w.heap.size, 9, none⟩ = some (.int .i64 m.rs) ∧ w'.cell? ⟨w.heap.size, 10, none⟩ = some (.int .u64 (m.bits : Int)) ∧ w'.cell? ⟨w.heap.size, 11, none⟩ = some (.slice A m.data.length c)) ∧ (w'.cell? ⟨w.heap.size + 1, 0, none⟩ = some (.int .i64 m.kind) ∧ w'.cell? ⟨w.heap.size + 1, 1, none⟩ = some (.int .i64 m.src) ∧ w'.cell? ⟨w.heap.size + 1, 2, none⟩ = some (.int .i64 m.term) ∧ w'.cell? ⟨w.heap.size + 1, 3, none⟩ = some (.int .i64 m.seq) ∧ w'.cell? ⟨w.heap.size + 1, 4, none⟩ = some (.int .i64 m.stamp) ∧ w'.cell? ⟨w.heap.size + 1, 5, none⟩ = some (.int .i64 m.block) ∧ w'.cell? ⟨w.heap.size + 1, 6, none⟩ = some (.bool m.ok) ∧ w'.cell? ⟨w.heap.size + 1, 7, none⟩ = some (.int .i64 m.rt) ∧ w'.cell? ⟨w.heap.size + 1, 8, none⟩ = some (.int .i64 m.rn) ∧ w'.cell? ⟨w.heap.size + 1, 9, none⟩ = some (.int .i64 m.rs) ∧ w'.cell? ⟨w.heap.size + 1, 10, none⟩ = some (.int .u64 (m.bits : Int)) ∧ w'.cell? ⟨w.heap.size + 1, 11, none⟩ = some (.slice (some ⟨g, 0, none⟩) m.data.length (m.data.length + 3))) ∧ Below w4.heap.size w4 w') (first | assumption | exact ⟨(HK.out _ K0).1, (HK.out _ K0).2.1, K0⟩ | exact ⟨(HK.out _ K1).1, (HK.out _ K1).2.1, K1⟩ | exact ⟨(HK.out _ K2).1, (HK.out _ K2).2.1, K2⟩) (first
    | (go_at_call 8; refine (zc _ _ w4.drew G0.out).mono ?_; (rintro e w5 ⟨rfl, X5⟩; have K1 : Below w4.heap.size w4 w5 := undrew X5; have G1 := Lib.hid (HK.out _ K1).2.2.1; clear X5))
    | (go_at_call 9; refine (zr w5 G1.out).mono ?_; (rintro e w6 ⟨rfl, X6⟩; have K2 := step_trans K1 X6; have V6 := Lib.hid (W4.out.step K2); have U6 := Lib.hid (O4.out.step K2); clear X6))
    | (go_at_call 10; refine (zs P3 q3 P4 q4 w6 V6.out.bytes U6.out).mono ?_; (rintro e w7 ⟨rfl, rfl⟩)))
  go_wp2_with (first
    | (go_at_call 11; refine (zo P3 q3 _ w6 Q3.out V6.out (step_trans B4.out K2).size).mono ?_; (rintro e w8 ⟨rfl, X8, _⟩; have B8 := Lib.hid ((step_trans B4.out K2).trans X8); have Z8 := P0.out w8 B8.out; obtain ⟨⟨_, _, _, _, _, _, _, _, _, _, _, a11⟩, ⟨_, _, _, _, _, _, _, _, _, _, _, b11⟩, z1, _, z2, _⟩ := Z8; have Z1 := Lib.hid z1; have Z2 := Lib.hid z2; clear z1 z2 X8))
    | (go_at_call 12; refine (zk g w8 Z2.out Z1.out).mono ?_; (rintro e w9 ⟨rfl, X9⟩; have B9 := Lib.hid (step_trans B8.out X9)))
    | (go_at_call 13; refine (awake_any w9).mono ?_; (rintro e w10 ⟨rfl, X10⟩; have D10 := Lib.hid (P0.out w10 (step_trans B9.out X10)).2.2.2.2.2)))
  go_ret
  exact ⟨rfl, D10.out⟩
theorem puts_any (m : M) (A : Option Addr) (c : Nat) (w : World) (hwf : Wf m) (hr : BytesAt w w.heap.size A m.data) :
    Calls Try.prog 3 #[mVal m A c] w fun e w' => e = .returned (.bool true) ∧ Below w.heap.size w w' := by
  by_cases h1 : (100 : Int) < (m.data.length : Int)
  · exact puts_long m A c w hr h1
  · exact puts_short m A c w hwf hr h1
end Go.Proofs.Ytfiijnpabmocdaa
