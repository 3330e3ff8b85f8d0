/-
  The walk of MsgApart. Conditions: the bytes can be read.
-/
import Derived.Test.YtnnchcoeagigbaaMgLaw
namespace Go.Proofs.Ytnnchcoeagigbaa
open Go.RowKit Mg

abbrev two (m n : M) (A : Option Addr) (c : Nat) (A' : Option Addr) (c' : Nat) (w : World) : World := (w.alloc (mObj m A c)).alloc (mObj n A' c')
theorem two_at (m n : M) (A : Option Addr) (c : Nat) (A' : Option Addr) (c' : Nat) (w : World) (hr : BytesAt w w.heap.size A m.data) (hr' : BytesAt w w.heap.size A' n.data) (w1 : World) (B : Below (two m n A c A' c' w).heap.size (two m n A c A' c' w) w1) :
    MgAt w1 w.heap.size m A m.data.length c ∧ MgAt w1 (w.heap.size + 1) n A' n.data.length c' ∧ BytesAt w1 w1.heap.size A m.data ∧ BytesAt w1 w1.heap.size A' n.data ∧ Below w.heap.size w w1 := by
  have b1 := BlkR.new w (mCells m (.slice A m.data.length c)) 27
  have b2 := BlkR.new (w.alloc (mObj m A c)) (mCells n (.slice A' n.data.length c')) 27
  have b1' := b1.allocB (mObj n A' c')
  have e1 : (w.alloc (mObj m A c)).heap.size = w.heap.size + 1 := by simp
  rw [e1] at b2
  have B0 : Below w.heap.size w (two m n A c A' c' w) := step_alloc (step_alloc (Below.refl _ w) _) _
  exact ⟨mgAt (b1'.below B b1'.lt), mgAt (b2.below B b2.lt), (hr.step B0).step B, (hr'.step B0).step B, step_trans B0 B⟩

set_option maxRecDepth 100000 in
set_option maxHeartbeats 4000000 in
theorem apart_long (m n : M) (A : Option Addr) (c : Nat) (A' : Option Addr) (c' : Nat) (w : World) (_hwm : Wf m) (_hwn : Wf n) (hr : BytesAt w w.heap.size A m.data) (hr' : BytesAt w w.heap.size A' n.data) (h1 : (100 : Int) < (m.data.length : Int)) :
    Calls Try.prog 6 #[mVal m A c, mVal n A' c'] w fun e w' => e = .returned (.bool true) ∧ Below w.heap.size w w' := by
  have S0 := two_at m n A c A' c' w hr hr'
  have S0 := Lib.hid S0
  clear hr hr'
  go_enter Try.func6, Try.ntmps6
  go_wp2_with (first
    | (go_at_call 17; refine (awake_any _).mono ?_; (rintro e w1 ⟨rfl, B1⟩; have X1 := S0.out w1 B1; obtain ⟨⟨a0, a1, a2, a3, a4, a5, a6, a7, a8, a9, a10, a11⟩, ⟨b0, b1, b2, b3, b4, b5, b6, b7, b8, b9, b10, b11⟩, r1, s1, D1⟩ := X1; have r1 := Lib.hid r1; have s1 := Lib.hid s1; have D1 := Lib.hid D1; have B1 := Lib.hid B1)))
  go_ret
  exact ⟨rfl, D1.out⟩

set_option maxRecDepth 100000 in
set_option maxHeartbeats 4000000 in
theorem apart_long2 (m n : M) (A : Option Addr) (c : Nat) (A' : Option Addr) (c' : Nat) (w : World) (_hwm : Wf m) (_hwn : Wf n) (hr : BytesAt w w.heap.size A m.data) (hr' : BytesAt w w.heap.size A' n.data) (h1 : ¬ (100 : Int) < (m.data.length : Int)) (h2 : (100 : Int) < (n.data.length : Int)) :
    Calls Try.prog 6 #[mVal m A c, mVal n A' c'] w fun e w' => e = .returned (.bool true) ∧ Below w.heap.size w w' := by
  have S0 := two_at m n A c A' c' w hr hr'
  have S0 := Lib.hid S0
  clear hr hr'
  go_enter Try.func6, Try.ntmps6
  go_wp2_with (first
    | (go_at_call 17; refine (awake_any _).mono ?_; (rintro e w1 ⟨rfl, B1⟩; have X1 := S0.out w1 B1; obtain ⟨⟨a0, a1, a2, a3, a4, a5, a6, a7, a8, a9, a10, a11⟩, ⟨b0, b1, b2, b3, b4, b5, b6, b7, b8, b9, b10, b11⟩, r1, s1, D1⟩ := X1; have r1 := Lib.hid r1; have s1 := Lib.hid s1; have D1 := Lib.hid D1; have B1 := Lib.hid B1)))
  go_ret
  exact ⟨rfl, D1.out⟩

set_option maxRecDepth 100000 in
set_option maxHeartbeats 4000000 in
theorem apart_no (m n : M) (A : Option Addr) (c : Nat) (A' : Option Addr) (c' : Nat) (w : World) (hwm : Wf m) (hwn : Wf n) (hr : BytesAt w w.heap.size A m.data) (hr' : BytesAt w w.heap.size A' n.data) (h1 : ¬ (100 : Int) < (m.data.length : Int)) (h2 : ¬ (100 : Int) < (n.data.length : Int)) (hE : Mg.putE m = 2) :
    Calls Try.prog 6 #[mVal m A c, mVal n A' c'] w fun e w' => e = .returned (.bool true) ∧ Below w.heap.size w w' := by
  have S0 := two_at m n A c A' c' w hr hr'
  obtain ⟨l1, hl1⟩ : ∃ l, Mg.putB m = l := ⟨_, rfl⟩
  obtain ⟨l2, hl2⟩ : ∃ l, Mg.putB n = l := ⟨_, rfl⟩
  obtain ⟨E2, hE2'⟩ : ∃ E, Mg.putE n = E := ⟨_, rfl⟩
  have zm := fun w hr => putV m A c hwm l1 2 hl1 hE l1.length rfl w hr
  have zn := fun w hr => putV n A' c' hwn l2 E2 hl2 hE2' l2.length rfl w hr
  have S0 := Lib.hid S0
  clear hr hr' hwm hwn hl1 hl2 hE hE2'
  go_enter Try.func6, Try.ntmps6
  go_wp2_with (first
    | (go_at_call 17; refine (awake_any _).mono ?_; (rintro e w1 ⟨rfl, B1⟩; have X1 := S0.out w1 B1; obtain ⟨⟨a0, a1, a2, a3, a4, a5, a6, a7, a8, a9, a10, a11⟩, ⟨b0, b1, b2, b3, b4, b5, b6, b7, b8, b9, b10, b11⟩, r1, s1, D1⟩ := X1; have r1 := Lib.hid r1; have s1 := Lib.hid s1; have D1 := Lib.hid D1; have B1 := Lib.hid B1))
    | (go_at_call 10; (with_reducible refine (zm w1 r1.out).mono ?_); (rintro e w2 ⟨P2, q2, rfl, hc2, hd2, hW2, B⟩; have hW2 := Lib.hid hW2; have B := step_trans B1.out B; have X2 := S0.out w2 B; obtain ⟨⟨a0, a1, a2, a3, a4, a5, a6, a7, a8, a9, a10, a11⟩, ⟨b0, b1, b2, b3, b4, b5, b6, b7, b8, b9, b10, b11⟩, r2, s2, D2⟩ := X2; have r2 := Lib.hid r2; have s2 := Lib.hid s2; have D2 := Lib.hid D2; have B2 := Lib.hid B))
    | (go_at_call 10; (with_reducible refine (zn w2 s2.out).mono ?_); (rintro e w3 ⟨P3, q3, rfl, hc3, hd3, hW3, B⟩; have hW3 := Lib.hid hW3; have B := step_trans B2.out B; have X3 := S0.out w3 B; obtain ⟨⟨a0, a1, a2, a3, a4, a5, a6, a7, a8, a9, a10, a11⟩, ⟨b0, b1, b2, b3, b4, b5, b6, b7, b8, b9, b10, b11⟩, r3, s3, D3⟩ := X3; have r3 := Lib.hid r3; have s3 := Lib.hid s3; have D3 := Lib.hid D3; have B3 := Lib.hid B)))
  go_ret
  exact ⟨rfl, D3.out⟩

set_option maxRecDepth 100000 in
set_option maxHeartbeats 4000000 in
theorem apart_no2 (m n : M) (A : Option Addr) (c : Nat) (A' : Option Addr) (c' : Nat) (w : World) (hwm : Wf m) (hwn : Wf n) (hr : BytesAt w w.heap.size A m.data) (hr' : BytesAt w w.heap.size A' n.data) (h1 : ¬ (100 : Int) < (m.data.length : Int)) (h2 : ¬ (100 : Int) < (n.data.length : Int)) (hE : Mg.putE m = 0) (hE2 : Mg.putE n = 2) :
    Calls Try.prog 6 #[mVal m A c, mVal n A' c'] w fun e w' => e = .returned (.bool true) ∧ Below w.heap.size w w' := by
  have S0 := two_at m n A c A' c' w hr hr'
  obtain ⟨l1, hl1⟩ : ∃ l, Mg.putB m = l := ⟨_, rfl⟩
  obtain ⟨l2, hl2⟩ : ∃ l, Mg.putB n = l := ⟨_, rfl⟩
  obtain ⟨E2, hE2'⟩ : ∃ E, Mg.putE n = E := ⟨_, rfl⟩
  have zm := fun w hr => putV m A c hwm l1 0 hl1 hE l1.length rfl w hr
  have zn := fun w hr => putV n A' c' hwn l2 2 hl2 hE2 l2.length rfl w hr
  have S0 := Lib.hid S0
  clear hr hr' hwm hwn hl1 hl2 hE hE2' hE2
  go_enter Try.func6, Try.ntmps6
  go_wp2_with (first
    | (go_at_call 17; refine (awake_any _).mono ?_; (rintro e w1 ⟨rfl, B1⟩; have X1 := S0.out w1 B1; obtain ⟨⟨a0, a1, a2, a3, a4, a5, a6, a7, a8, a9, a10, a11⟩, ⟨b0, b1, b2, b3, b4, b5, b6, b7, b8, b9, b10, b11⟩, r1, s1, D1⟩ := X1; have r1 := Lib.hid r1; have s1 := Lib.hid s1; have D1 := Lib.hid D1; have B1 := Lib.hid B1))
    | (go_at_call 10; (with_reducible refine (zm w1 r1.out).mono ?_); (rintro e w2 ⟨P2, q2, rfl, hc2, hd2, hW2, B⟩; have hW2 := Lib.hid hW2; have B := step_trans B1.out B; have X2 := S0.out w2 B; obtain ⟨⟨a0, a1, a2, a3, a4, a5, a6, a7, a8, a9, a10, a11⟩, ⟨b0, b1, b2, b3, b4, b5, b6, b7, b8, b9, b10, b11⟩, r2, s2, D2⟩ := X2; have r2 := Lib.hid r2; have s2 := Lib.hid s2; have D2 := Lib.hid D2; have B2 := Lib.hid B))
    | (go_at_call 10; (with_reducible refine (zn w2 s2.out).mono ?_); (rintro e w3 ⟨P3, q3, rfl, hc3, hd3, hW3, B⟩; have hW3 := Lib.hid hW3; have B := step_trans B2.out B; have X3 := S0.out w3 B; obtain ⟨⟨a0, a1, a2, a3, a4, a5, a6, a7, a8, a9, a10, a11⟩, ⟨b0, b1, b2, b3, b4, b5, b6, b7, b8, b9, b10, b11⟩, r3, s3, D3⟩ := X3; have r3 := Lib.hid r3; have s3 := Lib.hid s3; have D3 := Lib.hid D3; have B3 := Lib.hid B)))
  go_ret
  exact ⟨rfl, D3.out⟩

set_option maxRecDepth 100000 in
set_option maxHeartbeats 4000000 in
theorem apart_yes_true (m n : M) (A : Option Addr) (c : Nat) (A' : Option Addr) (c' : Nat) (w : World) (hwm : Wf m) (hwn : Wf n) (hr : BytesAt w w.heap.size A m.data) (hr' : BytesAt w w.heap.size A' n.data) (h1 : ¬ (100 : Int) < (m.data.length : Int)) (h2 : ¬ (100 : Int) < (n.data.length : Int)) (l1 l2 : List UInt8) (hl1 : Mg.putB m = l1) (hl2 : Mg.putB n = l2) (hE : Mg.putE m = 0) (hE2 : Mg.putE n = 0) (hs : sameM m n = true) (hs2 : (l1 == l2) = true) :
    Calls Try.prog 6 #[mVal m A c, mVal n A' c'] w fun e w' => e = .returned (.bool true) ∧ Below w.heap.size w w' := by
  have S0 := two_at m n A c A' c' w hr hr'
  have zm := fun w hr => putV m A c hwm l1 0 hl1 hE l1.length rfl w hr
  have zn := fun w hr => putV n A' c' hwn l2 0 hl2 hE2 l2.length rfl w hr
  have zs := fun w hr hr' => sameV m n A c A' c' true hs w hr hr'
  have zb := fun P1 q1 P2 q2 w hr hr' => sameBytes_any P1 l1 l1.length q1 rfl P2 l2 l2.length q2 rfl w.heap.size w hr hr'
  rw [hs2] at zb
  have S0 := Lib.hid S0
  clear hr hr' hwm hwn hl1 hl2 hE hE2 hs hs2
  go_enter Try.func6, Try.ntmps6
  go_wp2_with (first
    | (go_at_call 17; refine (awake_any _).mono ?_; (rintro e w1 ⟨rfl, B1⟩; have X1 := S0.out w1 B1; obtain ⟨⟨a0, a1, a2, a3, a4, a5, a6, a7, a8, a9, a10, a11⟩, ⟨b0, b1, b2, b3, b4, b5, b6, b7, b8, b9, b10, b11⟩, r1, s1, D1⟩ := X1; have r1 := Lib.hid r1; have s1 := Lib.hid s1; have D1 := Lib.hid D1; have B1 := Lib.hid B1))
    | (go_at_call 10; (with_reducible refine (zm w1 r1.out).mono ?_); (rintro e w2 ⟨P2, q2, rfl, hc2, hd2, hW2, B⟩; have hW2 := Lib.hid hW2; have B := step_trans B1.out B; have X2 := S0.out w2 B; obtain ⟨⟨a0, a1, a2, a3, a4, a5, a6, a7, a8, a9, a10, a11⟩, ⟨b0, b1, b2, b3, b4, b5, b6, b7, b8, b9, b10, b11⟩, r2, s2, D2⟩ := X2; have r2 := Lib.hid r2; have s2 := Lib.hid s2; have D2 := Lib.hid D2; have B2 := Lib.hid B))
    | (go_at_call 10; (with_reducible refine (zn w2 s2.out).mono ?_); (rintro e w3 ⟨P3, q3, rfl, hc3, hd3, hW3, B⟩; have hW3 := Lib.hid hW3; have hZ3 := Lib.hid B; have B := step_trans B2.out B; have X3 := S0.out w3 B; obtain ⟨⟨a0, a1, a2, a3, a4, a5, a6, a7, a8, a9, a10, a11⟩, ⟨b0, b1, b2, b3, b4, b5, b6, b7, b8, b9, b10, b11⟩, r3, s3, D3⟩ := X3; have r3 := Lib.hid r3; have s3 := Lib.hid s3; have D3 := Lib.hid D3; have B3 := Lib.hid B)))
  have T2 : BytesAt w3.drew w3.drew.heap.size P2 l1 := (hW2.out.bytes.step hZ3.out).drew
  have T3 : BytesAt w3.drew w3.drew.heap.size P3 l2 := hW3.out.bytes.drew
  have R3 := r3.out.drew
  have S3 := s3.out.drew
  have HK := Lib.hid (fun (w' : World) (Bk : Below w3.heap.size w3 w') => S0.out w' (step_trans B3.out Bk))
  have T2 := Lib.hid T2
  have T3 := Lib.hid T3
  have R3 := Lib.hid R3
  have S3 := Lib.hid S3
  have K0 : Below w3.heap.size w3 w3.drew := (Below.refl _ w3).drew
  clear hc2 hd2 hW2 hc3 hd3 hW3 hZ3 B1 B2 D1 D2 r1 r2 s1 s2
  go_region_held3 (fun w' => (w'.cell? ⟨w.heap.size, 0, none⟩ = some (.int .i64 m.kind) ∧ w'.cell? ⟨w.heap.size, 1, none⟩ = some (.int .i64 m.src) ∧ w'.cell? ⟨w.heap.size, 2, none⟩ = some (.int .i64 m.term) ∧ w'.cell? ⟨w.heap.size, 3, none⟩ = some (.int .i64 m.seq) ∧ w'.cell? ⟨w.heap.size, 4, none⟩ = some (.int .i64 m.stamp) ∧ w'.cell? ⟨w.heap.size, 5, none⟩ = some (.int .i64 m.block) ∧ w'.cell? ⟨w.heap.size, 6, none⟩ = some (.bool m.ok) ∧ w'.cell? ⟨w.heap.size, 7, none⟩ = some (.int .i64 m.rt) ∧ w'.cell? ⟨w.heap.size, 8, none⟩ = some (.int .i64 m.rn) ∧ w'.cell? ⟨w.heap.size, 9, none⟩ = some (.int .i64 m.rs) ∧ w'.cell? ⟨w.heap.size, 10, none⟩ = some (.int .u64 (m.bits : Int)) ∧ w'.cell? ⟨w.heap.size, 11, none⟩ = some (.slice A m.data.length c)) ∧ (w'.cell? ⟨w.heap.size + 1, 0, none⟩ = some (.int .i64 n.kind) ∧ w'.cell? ⟨w.heap.size + 1, 1, none⟩ = some (.int .i64 n.src) ∧ w'.cell? ⟨w.heap.size + 1, 2, none⟩ = some (.int .i64 n.term) ∧ w'.cell? ⟨w.heap.size + 1, 3, none⟩ = some (.int .i64 n.seq) ∧ w'.cell? ⟨w.heap.size + 1, 4, none⟩ = some (.int .i64 n.stamp) ∧ w'.cell? ⟨w.heap.size + 1, 5, none⟩ = some (.int .i64 n.block) ∧ w'.cell? ⟨w.heap.size + 1, 6, none⟩ = some (.bool n.ok) ∧ w'.cell? ⟨w.heap.size + 1, 7, none⟩ = some (.int .i64 n.rt) ∧ w'.cell? ⟨w.heap.size + 1, 8, none⟩ = some (.int .i64 n.rn) ∧ w'.cell? ⟨w.heap.size + 1, 9, none⟩ = some (.int .i64 n.rs) ∧ w'.cell? ⟨w.heap.size + 1, 10, none⟩ = some (.int .u64 (n.bits : Int)) ∧ w'.cell? ⟨w.heap.size + 1, 11, none⟩ = some (.slice A' n.data.length c')) ∧ Below w3.heap.size w3 w') (first | assumption | exact ⟨(HK.out _ K0).1, (HK.out _ K0).2.1, K0⟩ | exact ⟨(HK.out _ K1).1, (HK.out _ K1).2.1, K1⟩) (first
    | (go_at_call 14; refine (zb P2 q2 P3 q3 w3.drew T2.out T3.out).mono ?_; (rintro e w4 ⟨rfl, rfl⟩))
    | (go_at_call 20; refine (zs w3.drew R3.out S3.out).mono ?_; (rintro e w5 ⟨rfl, B5⟩; have K1 : Below w3.heap.size w3 w5 := undrew B5)))
  go_wp2
  go_ret
  exact ⟨rfl, step_trans D3.out K1⟩

set_option maxRecDepth 100000 in
set_option maxHeartbeats 4000000 in
theorem apart_yes_false (m n : M) (A : Option Addr) (c : Nat) (A' : Option Addr) (c' : Nat) (w : World) (hwm : Wf m) (hwn : Wf n) (hr : BytesAt w w.heap.size A m.data) (hr' : BytesAt w w.heap.size A' n.data) (h1 : ¬ (100 : Int) < (m.data.length : Int)) (h2 : ¬ (100 : Int) < (n.data.length : Int)) (l1 l2 : List UInt8) (hl1 : Mg.putB m = l1) (hl2 : Mg.putB n = l2) (hE : Mg.putE m = 0) (hE2 : Mg.putE n = 0) (hs : sameM m n = false) (hs2 : (l1 == l2) = false) :
    Calls Try.prog 6 #[mVal m A c, mVal n A' c'] w fun e w' => e = .returned (.bool true) ∧ Below w.heap.size w w' := by
  have S0 := two_at m n A c A' c' w hr hr'
  have zm := fun w hr => putV m A c hwm l1 0 hl1 hE l1.length rfl w hr
  have zn := fun w hr => putV n A' c' hwn l2 0 hl2 hE2 l2.length rfl w hr
  have zs := fun w hr hr' => sameV m n A c A' c' false hs w hr hr'
  have zb := fun P1 q1 P2 q2 w hr hr' => sameBytes_any P1 l1 l1.length q1 rfl P2 l2 l2.length q2 rfl w.heap.size w hr hr'
  rw [hs2] at zb
  have S0 := Lib.hid S0
  clear hr hr' hwm hwn hl1 hl2 hE hE2 hs hs2
  go_enter Try.func6, Try.ntmps6
  go_wp2_with (first
    | (go_at_call 17; refine (awake_any _).mono ?_; (rintro e w1 ⟨rfl, B1⟩; have X1 := S0.out w1 B1; obtain ⟨⟨a0, a1, a2, a3, a4, a5, a6, a7, a8, a9, a10, a11⟩, ⟨b0, b1, b2, b3, b4, b5, b6, b7, b8, b9, b10, b11⟩, r1, s1, D1⟩ := X1; have r1 := Lib.hid r1; have s1 := Lib.hid s1; have D1 := Lib.hid D1; have B1 := Lib.hid B1))
    | (go_at_call 10; (with_reducible refine (zm w1 r1.out).mono ?_); (rintro e w2 ⟨P2, q2, rfl, hc2, hd2, hW2, B⟩; have hW2 := Lib.hid hW2; have B := step_trans B1.out B; have X2 := S0.out w2 B; obtain ⟨⟨a0, a1, a2, a3, a4, a5, a6, a7, a8, a9, a10, a11⟩, ⟨b0, b1, b2, b3, b4, b5, b6, b7, b8, b9, b10, b11⟩, r2, s2, D2⟩ := X2; have r2 := Lib.hid r2; have s2 := Lib.hid s2; have D2 := Lib.hid D2; have B2 := Lib.hid B))
    | (go_at_call 10; (with_reducible refine (zn w2 s2.out).mono ?_); (rintro e w3 ⟨P3, q3, rfl, hc3, hd3, hW3, B⟩; have hW3 := Lib.hid hW3; have hZ3 := Lib.hid B; have B := step_trans B2.out B; have X3 := S0.out w3 B; obtain ⟨⟨a0, a1, a2, a3, a4, a5, a6, a7, a8, a9, a10, a11⟩, ⟨b0, b1, b2, b3, b4, b5, b6, b7, b8, b9, b10, b11⟩, r3, s3, D3⟩ := X3; have r3 := Lib.hid r3; have s3 := Lib.hid s3; have D3 := Lib.hid D3; have B3 := Lib.hid B)))
  have T2 : BytesAt w3.drew w3.drew.heap.size P2 l1 := (hW2.out.bytes.step hZ3.out).drew
  have T3 : BytesAt w3.drew w3.drew.heap.size P3 l2 := hW3.out.bytes.drew
  have R3 := r3.out.drew
  have S3 := s3.out.drew
  have HK := Lib.hid (fun (w' : World) (Bk : Below w3.heap.size w3 w') => S0.out w' (step_trans B3.out Bk))
  have T2 := Lib.hid T2
  have T3 := Lib.hid T3
  have R3 := Lib.hid R3
  have S3 := Lib.hid S3
  have K0 : Below w3.heap.size w3 w3.drew := (Below.refl _ w3).drew
  clear hc2 hd2 hW2 hc3 hd3 hW3 hZ3 B1 B2 D1 D2 r1 r2 s1 s2
  go_region_held3 (fun w' => (w'.cell? ⟨w.heap.size, 0, none⟩ = some (.int .i64 m.kind) ∧ w'.cell? ⟨w.heap.size, 1, none⟩ = some (.int .i64 m.src) ∧ w'.cell? ⟨w.heap.size, 2, none⟩ = some (.int .i64 m.term) ∧ w'.cell? ⟨w.heap.size, 3, none⟩ = some (.int .i64 m.seq) ∧ w'.cell? ⟨w.heap.size, 4, none⟩ = some (.int .i64 m.stamp) ∧ w'.cell? ⟨w.heap.size, 5, none⟩ = some (.int .i64 m.block) ∧ w'.cell? ⟨w.heap.size, 6, none⟩ = some (.bool m.ok) ∧ w'.cell? ⟨w.heap.size, 7, none⟩ = some (.int .i64 m.rt) ∧ w'.cell? ⟨w.heap.size, 8, none⟩ = some (.int .i64 m.rn) ∧ w'.cell? ⟨w.heap.size, 9, none⟩ = some (.int .i64 m.rs) ∧ w'.cell? ⟨w.heap.size, 10, none⟩ = some (.int .u64 (m.bits : Int)) ∧ w'.cell? ⟨w.heap.size, 11, none⟩ = some (.slice A m.data.length c)) ∧ (w'.cell? ⟨w.heap.size + 1, 0, none⟩ = some (.int .i64 n.kind) ∧ w'.cell? ⟨w.heap.size + 1, 1, none⟩ = some (.int .i64 n.src) ∧ w'.cell? ⟨w.heap.size + 1, 2, none⟩ = some (.int .i64 n.term) ∧ w'.cell? ⟨w.heap.size + 1, 3, none⟩ = some (.int .i64 n.seq) ∧ w'.cell? ⟨w.heap.size + 1, 4, none⟩ = some (.int .i64 n.stamp) ∧ w'.cell? ⟨w.heap.size + 1, 5, none⟩ = some (.int .i64 n.block) ∧ w'.cell? ⟨w.heap.size + 1, 6, none⟩ = some (.bool n.ok) ∧ w'.cell? ⟨w.heap.size + 1, 7, none⟩ = some (.int .i64 n.rt) ∧ w'.cell? ⟨w.heap.size + 1, 8, none⟩ = some (.int .i64 n.rn) ∧ w'.cell? ⟨w.heap.size + 1, 9, none⟩ = some (.int .i64 n.rs) ∧ w'.cell? ⟨w.heap.size + 1, 10, none⟩ = some (.int .u64 (n.bits : Int)) ∧ w'.cell? ⟨w.heap.size + 1, 11, none⟩ = some (.slice A' n.data.length c')) ∧ Below w3.heap.size w3 w') (first | assumption | exact ⟨(HK.out _ K0).1, (HK.out _ K0).2.1, K0⟩ | exact ⟨(HK.out _ K1).1, (HK.out _ K1).2.1, K1⟩) (first
    | (go_at_call 14; refine (zb P2 q2 P3 q3 w3.drew T2.out T3.out).mono ?_; (rintro e w4 ⟨rfl, rfl⟩))
    | (go_at_call 20; refine (zs w3.drew R3.out S3.out).mono ?_; (rintro e w5 ⟨rfl, B5⟩; have K1 : Below w3.heap.size w3 w5 := undrew B5)))
  go_wp2
  go_ret
  exact ⟨rfl, step_trans D3.out K1⟩

theorem apart_any (m n : M) (A : Option Addr) (c : Nat) (A' : Option Addr) (c' : Nat) (w : World) (hwm : Wf m) (hwn : Wf n) (hr : BytesAt w w.heap.size A m.data) (hr' : BytesAt w w.heap.size A' n.data) :
    Calls Try.prog 6 #[mVal m A c, mVal n A' c'] w fun e w' => e = .returned (.bool true) ∧ Below w.heap.size w w' := by
  by_cases h1 : (100 : Int) < (m.data.length : Int)
  · exact apart_long m n A c A' c' w hwm hwn hr hr' h1
  by_cases h2 : (100 : Int) < (n.data.length : Int)
  · exact apart_long2 m n A c A' c' w hwm hwn hr hr' h1 h2
  rcases put_err (m := m) with ⟨_, _, hE⟩ | ⟨b1, p1, q1, hE⟩
  · exact apart_no m n A c A' c' w hwm hwn hr hr' h1 h2 hE
  rcases put_err (m := n) with ⟨_, _, hE2⟩ | ⟨b2, p2, q2, hE2⟩
  · exact apart_no2 m n A c A' c' w hwm hwn hr hr' h1 h2 hE hE2
  have hap := put_apart p1 p2 hwm.2.2.2.2.2.2.2.2.2 hwn.2.2.2.2.2.2.2.2.2
  by_cases he : m = n
  · exact apart_yes_true m n A c A' c' w hwm hwn hr hr' h1 h2 b1 b2 q1 q2 hE hE2 ((sameM_iff m n).2 he) (by simpa using hap.2 he)
  · refine apart_yes_false m n A c A' c' w hwm hwn hr hr' h1 h2 b1 b2 q1 q2 hE hE2 ?_ (by simpa using fun h => he (hap.1 h))
    cases hs : sameM m n with
    | false => rfl
    | true => exact absurd ((sameM_iff m n).1 hs) he
end Go.Proofs.Ytnnchcoeagigbaa
