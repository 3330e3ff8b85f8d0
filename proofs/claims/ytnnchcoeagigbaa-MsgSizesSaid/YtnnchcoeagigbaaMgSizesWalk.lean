/-
  The walk of MsgSizes. Conditions: the bytes can be read.
-/
import Derived.Test.YtnnchcoeagigbaaMgLaw
import Derived.Test.YtnnchcoeagigbaaMgFit
namespace Go.Proofs.Ytnnchcoeagigbaa
open Go.RowKit Mg

abbrev mv (m : M) (k s : Int) (A : Option Addr) (c : Nat) : Value := .agg #[.int .i64 k, .int .i64 m.src, .int .i64 m.term, .int .i64 s, .int .i64 m.stamp, .int .i64 m.block, .bool m.ok, .int .i64 m.rt, .int .i64 m.rn, .int .i64 m.rs, .int .u64 (m.bits : Int), .slice A m.data.length c]
abbrev mo (m : M) (k s : Int) (A : Option Addr) (c : Nat) : Obj := .cells #[.int .i64 k, .int .i64 m.src, .int .i64 m.term, .int .i64 s, .int .i64 m.stamp, .int .i64 m.block, .bool m.ok, .int .i64 m.rt, .int .i64 m.rn, .int .i64 m.rs, .int .u64 (m.bits : Int), .slice A m.data.length c] 27
abbrev szO : Obj := .cells #[.int .i64 0, .int .i64 27, .int .i64 28, .int .i64 14, .int .i64 15, .int .i64 21, .int .i64 22, .int .i64 53, .int .i64 21, .int .i64 8, .int .i64 23, .int .i64 16] 3
theorem sz_at (w w' : World) (k : Nat) (hk : k < 12) (B : Below (w.alloc szO).heap.size (w.alloc szO) w') : w'.cell? ⟨w.heap.size, k, none⟩ = some (.int .i64 ((szs.getD k 0 : Nat) : Int)) := by
  have b1 := BlkR.new w [.int .i64 0, .int .i64 27, .int .i64 28, .int .i64 14, .int .i64 15, .int .i64 21, .int .i64 22, .int .i64 53, .int .i64 21, .int .i64 8, .int .i64 23, .int .i64 16] 3
  have b2 := b1.below B b1.lt
  rcases (show k = 0 ∨ k = 1 ∨ k = 2 ∨ k = 3 ∨ k = 4 ∨ k = 5 ∨ k = 6 ∨ k = 7 ∨ k = 8 ∨ k = 9 ∨ k = 10 ∨ k = 11 by omega) with rfl | rfl | rfl | rfl | rfl | rfl | rfl | rfl | rfl | rfl | rfl | rfl <;> exact b2.cell rfl
theorem mo_at (w w' : World) (m : M) (k s : Int) (A : Option Addr) (c : Nat) (B : Below (w.alloc (mo m k s A c)).heap.size (w.alloc (mo m k s A c)) w') : w'.cell? ⟨w.heap.size, 0, none⟩ = some (.int .i64 k) := by
  have b1 := BlkR.new w (mCells { m with kind := k, seq := s } (.slice A m.data.length c)) 27
  exact (b1.below B b1.lt).cell rfl
theorem one_at (m : M) (k : Nat) (hk : m.kind = (k : Int)) (A : Option Addr) (c : Nat) (w : World) (hr : BytesAt w w.heap.size A m.data) (w1 : World) (B : Below (w.alloc (mObj m A c)).heap.size (w.alloc (mObj m A c)) w1) :
    MgAt w1 w.heap.size { m with kind := (k : Int) } A m.data.length c ∧ BytesAt w1 w1.heap.size A m.data ∧ Below w.heap.size w w1 := by
  have b1 := BlkR.new w (mCells m (.slice A m.data.length c)) 27
  have B0 : Below w.heap.size w (w.alloc (mObj m A c)) := step_alloc (Below.refl _ w) _
  have h := mgAt (b1.below B b1.lt)
  refine ⟨?_, (hr.step B0).step B, step_trans B0 B⟩
  rw [← hk]
  exact h
theorem and7 (x : Int) : ∃ r : Nat, r ≤ 7 ∧ bits .and .i64 x 7 = (r : Int) := by
  have h : (BitVec.ofInt 64 x &&& BitVec.ofInt 64 7).toNat ≤ 7 := by rw [BitVec.toNat_and]; exact Nat.and_le_right
  refine ⟨_, h, ?_⟩
  show IntKind.i64.wrap ((BitVec.ofInt 64 x &&& BitVec.ofInt 64 7).toNat : Int) = _
  exact IntWalk.i64_in _ (by omega)

theorem two_one (m : M) (A : Option Addr) (c : Nat) (w : World) (hr : BytesAt w w.heap.size A m.data) (w1 : World) (B : Below (w.alloc (mObj m A c)).heap.size (w.alloc (mObj m A c)) w1) :
    MgAt w1 w.heap.size m A m.data.length c ∧ BytesAt w1 w1.heap.size A m.data ∧ Below w.heap.size w w1 := by
  have b1 := BlkR.new w (mCells m (.slice A m.data.length c)) 27
  have B0 : Below w.heap.size w (w.alloc (mObj m A c)) := step_alloc (Below.refl _ w) _
  exact ⟨mgAt (b1.below B b1.lt), (hr.step B0).step B, step_trans B0 B⟩
set_option maxRecDepth 100000 in
set_option maxHeartbeats 4000000 in
theorem sizes_no (m : M) (x : Int) (A : Option Addr) (c : Nat) (w : World) (hwf : Wf m) (hr : BytesAt w w.heap.size A m.data) (hE : Mg.putE m = 2) :
    Calls Try.prog 7 #[mVal m A c, .int .i64 x] w fun e w' => e = .returned (.bool true) ∧ Below w.heap.size w w' := by
  have S0 := fun w1 B => two_one m A c w hr w1 B
  obtain ⟨l1, hl1⟩ : ∃ l, Mg.putB m = l := ⟨_, rfl⟩
  have zm := fun w hr => putV m A c hwf l1 2 hl1 hE l1.length rfl w hr
  have S0 := Lib.hid S0
  clear hr hwf hl1 hE
  go_enter Try.func7, Try.ntmps7
  go_wp2_with (first
    | (go_at_call 17; refine (awake_any _).mono ?_; (rintro e w1 ⟨rfl, B1⟩; have X1 := S0.out w1 B1; obtain ⟨⟨a0, a1, a2, a3, a4, a5, a6, a7, a8, a9, a10, a11⟩, r1, D1⟩ := X1; have r1 := Lib.hid r1; have D1 := Lib.hid D1; have B1 := Lib.hid B1; obtain ⟨⟨a0, a1, a2, a3, a4, a5, a6, a7, a8, a9, a10, a11⟩, _, _⟩ := S0.out (w1.alloc szO) (step_alloc B1.out _)))
    | (go_at_call 10; (with_reducible refine (zm (w1.alloc szO) (r1.out.stepA szO)).mono ?_); (rintro e w2 ⟨P2, q2, rfl, hc2, hd2, hW2, B⟩; have B := step_trans (step_alloc B1.out szO) B; have X2 := S0.out w2 B; obtain ⟨⟨a0, a1, a2, a3, a4, a5, a6, a7, a8, a9, a10, a11⟩, r2, D2⟩ := X2; have r2 := Lib.hid r2; have D2 := Lib.hid D2; have B2 := Lib.hid B)))
  go_ret
  exact ⟨rfl, D2.out⟩

set_option maxRecDepth 100000 in
set_option maxHeartbeats 4000000 in
theorem sizes_0_7 (m : M) (x : Int) (A : Option Addr) (c : Nat) (w : World) (hwf : Wf m) (hr : BytesAt w w.heap.size A m.data) (k r q j N J : Nat) (hk : m.kind = (k : Int)) (hN : szs.getD k 0 = N) (hJ : szs.getD j 0 = J)
    (e1 : bits .and .i64 x 7 = (r : Int)) (e2 : IntKind.i64.wrap ((k : Int) + (r : Int)) = (k : Int) + (r : Int)) (e3 : ((k : Int) + (r : Int)).tmod 11 = (q : Int)) (e4 : IntKind.i64.wrap (1 + (q : Int)) = (j : Int))
    (k1 : ¬ (k : Int) < 1) (k2 : ¬ (11 : Int) < (k : Int)) (k3 : k < 12) (j3 : j < 12) (h7 : ((k : Int) == 7) = true)
    (l1 l2 : List UInt8) (n2 : Nat) (hl1 : Mg.putB m = l1) (hn1 : l1.length = N) (hE : Mg.putE m = 0) (hl2 : Mg.putB { m with kind := (j : Int) } = l2) (hn2 : l2.length = n2) (hF : Mg.putE { m with kind := (j : Int) } = 2) (hS : Mg.putE { m with seq := 7 } = 0) :
    Calls Try.prog 7 #[mVal m A c, .int .i64 x] w fun e w' => e = .returned (.bool true) ∧ Below w.heap.size w w' := by
  have S0 := fun w1 B => one_at m k hk A c w hr w1 B
  have is0 : is64 7 ∧ is64 (j : Int) := by
    constructor
    · exact ⟨by decide, by decide⟩
    · exact ⟨by omega, by omega⟩
  have hwj : Wf { m with kind := (j : Int) } := ⟨is0.2, hwf.2⟩
  have hws : Wf { m with seq := 7 } := ⟨hwf.1, hwf.2.1, hwf.2.2.1, is0.1, hwf.2.2.2.2⟩
  have zm := fun w hr => putV m A c hwf l1 0 hl1 hE N hn1 w hr
  have zj : ∀ w, BytesAt w w.heap.size A m.data → _ := fun w hr => putV { m with kind := (j : Int) } A c hwj l2 2 hl2 hF n2 hn2 w hr
  have zs : ∀ w, BytesAt w w.heap.size A m.data → _ := fun w hr => checkV { m with seq := 7 } A c hws 0 hS w hr
  unfold mVal at zm zj zs
  simp only [hk] at zm zj zs
  have Z := Lib.hid (fun w1 w' (B : Below (w1.alloc szO).heap.size (w1.alloc szO) w') => (And.intro (hN ▸ sz_at w1 w' k k3 B) (hJ ▸ sz_at w1 w' j j3 B) : w'.cell? ⟨w1.heap.size, k, none⟩ = some (.int .i64 (N : Int)) ∧ w'.cell? ⟨w1.heap.size, j, none⟩ = some (.int .i64 (J : Int))))
  have S0 := Lib.hid S0
  clear hr hwf hl1 hE hl2 hF hS hws hwj is0 hk hN hJ hn1 hn2
  go_enter Try.func7, Try.ntmps7
  go_wp2_with (first
    | (go_at_call 17; refine (awake_any _).mono ?_; (rintro e w1 ⟨rfl, B1⟩; have X1 := S0.out w1 B1; obtain ⟨⟨a0, a1, a2, a3, a4, a5, a6, a7, a8, a9, a10, a11⟩, r1, D1⟩ := X1; have r1 := Lib.hid r1; have D1 := Lib.hid D1; have B1 := Lib.hid B1; obtain ⟨⟨a0, a1, a2, a3, a4, a5, a6, a7, a8, a9, a10, a11⟩, _, _⟩ := S0.out (w1.alloc szO) (step_alloc B1.out _)))
    | (go_at_call 10; first
      | ((with_reducible refine (zm (w1.alloc szO) (r1.out.stepA szO)).mono ?_); (rintro e w2 ⟨P2, q2, rfl, hc2, hd2, hW2, B⟩; have Z2 := Lib.hid B; obtain ⟨z1, z2⟩ := Z.out w1 w2 B; have B := step_trans (step_alloc B1.out szO) B; have X2 := S0.out w2 B; obtain ⟨⟨a0, a1, a2, a3, a4, a5, a6, a7, a8, a9, a10, a11⟩, r2, D2⟩ := X2; have r2 := Lib.hid r2; have D2 := Lib.hid D2; have B2 := Lib.hid B; obtain ⟨⟨a0, _, _, _, _, _, _, _, _, _, _, _⟩, _, _⟩ := S0.out (w2.alloc (mo m (k : Int) m.seq A c)) (step_alloc B2.out _)))
      | ((with_reducible refine (zj (w2.alloc (mo m (j : Int) m.seq A c)) (r2.out.stepA _)).mono ?_); (rintro e w3 ⟨P3, q3, rfl, hc3, hd3, hW3, B⟩; have y0 := mo_at w2 w3 m (j : Int) m.seq A c B; have B3' := step_trans (step_alloc Z2.out _) B; obtain ⟨z1, z2⟩ := Z.out w1 w3 B3'; have B := step_trans (step_alloc B2.out _) B; have X3 := S0.out w3 B; obtain ⟨⟨a0, a1, a2, a3, a4, a5, a6, a7, a8, a9, a10, a11⟩, r3, D3⟩ := X3; have r3 := Lib.hid r3; have D3 := Lib.hid D3; have B3 := Lib.hid B; obtain ⟨⟨a0, _, _, _, _, _, _, _, _, _, _, _⟩, _, _⟩ := S0.out (w3.alloc (mo m (k : Int) 7 A c)) (step_alloc B3.out _))))
    | (go_at_call 12; (with_reducible refine (zs (w3.alloc (mo m (k : Int) 7 A c)) (r3.out.stepA _)).mono ?_); (rintro e w4 ⟨rfl, B4⟩; have B4 := Lib.hid B4)))
  go_ret
  exact ⟨rfl, step_trans (step_alloc D3.out _) B4.out⟩

set_option maxRecDepth 100000 in
set_option maxHeartbeats 4000000 in
theorem sizes_0_8 (m : M) (x : Int) (A : Option Addr) (c : Nat) (w : World) (hwf : Wf m) (hr : BytesAt w w.heap.size A m.data) (k r q j N J : Nat) (hk : m.kind = (k : Int)) (hN : szs.getD k 0 = N) (hJ : szs.getD j 0 = J)
    (e1 : bits .and .i64 x 7 = (r : Int)) (e2 : IntKind.i64.wrap ((k : Int) + (r : Int)) = (k : Int) + (r : Int)) (e3 : ((k : Int) + (r : Int)).tmod 11 = (q : Int)) (e4 : IntKind.i64.wrap (1 + (q : Int)) = (j : Int))
    (k1 : ¬ (k : Int) < 1) (k2 : ¬ (11 : Int) < (k : Int)) (k3 : k < 12) (j3 : j < 12) (h7 : ((k : Int) == 7) = false) (h8 : ((k : Int) == 8) = true)
    (l1 l2 : List UInt8) (n2 : Nat) (hl1 : Mg.putB m = l1) (hn1 : l1.length = N) (hE : Mg.putE m = 0) (hl2 : Mg.putB { m with kind := (j : Int) } = l2) (hn2 : l2.length = n2) (hF : Mg.putE { m with kind := (j : Int) } = 2) (hS : Mg.putE { m with seq := 7 } = 0) :
    Calls Try.prog 7 #[mVal m A c, .int .i64 x] w fun e w' => e = .returned (.bool true) ∧ Below w.heap.size w w' := by
  have S0 := fun w1 B => one_at m k hk A c w hr w1 B
  have is0 : is64 7 ∧ is64 (j : Int) := by
    constructor
    · exact ⟨by decide, by decide⟩
    · exact ⟨by omega, by omega⟩
  have hwj : Wf { m with kind := (j : Int) } := ⟨is0.2, hwf.2⟩
  have hws : Wf { m with seq := 7 } := ⟨hwf.1, hwf.2.1, hwf.2.2.1, is0.1, hwf.2.2.2.2⟩
  have zm := fun w hr => putV m A c hwf l1 0 hl1 hE N hn1 w hr
  have zj : ∀ w, BytesAt w w.heap.size A m.data → _ := fun w hr => putV { m with kind := (j : Int) } A c hwj l2 2 hl2 hF n2 hn2 w hr
  have zs : ∀ w, BytesAt w w.heap.size A m.data → _ := fun w hr => checkV { m with seq := 7 } A c hws 0 hS w hr
  unfold mVal at zm zj zs
  simp only [hk] at zm zj zs
  have Z := Lib.hid (fun w1 w' (B : Below (w1.alloc szO).heap.size (w1.alloc szO) w') => (And.intro (hN ▸ sz_at w1 w' k k3 B) (hJ ▸ sz_at w1 w' j j3 B) : w'.cell? ⟨w1.heap.size, k, none⟩ = some (.int .i64 (N : Int)) ∧ w'.cell? ⟨w1.heap.size, j, none⟩ = some (.int .i64 (J : Int))))
  have S0 := Lib.hid S0
  clear hr hwf hl1 hE hl2 hF hS hws hwj is0 hk hN hJ hn1 hn2
  go_enter Try.func7, Try.ntmps7
  go_wp2_with (first
    | (go_at_call 17; refine (awake_any _).mono ?_; (rintro e w1 ⟨rfl, B1⟩; have X1 := S0.out w1 B1; obtain ⟨⟨a0, a1, a2, a3, a4, a5, a6, a7, a8, a9, a10, a11⟩, r1, D1⟩ := X1; have r1 := Lib.hid r1; have D1 := Lib.hid D1; have B1 := Lib.hid B1; obtain ⟨⟨a0, a1, a2, a3, a4, a5, a6, a7, a8, a9, a10, a11⟩, _, _⟩ := S0.out (w1.alloc szO) (step_alloc B1.out _)))
    | (go_at_call 10; first
      | ((with_reducible refine (zm (w1.alloc szO) (r1.out.stepA szO)).mono ?_); (rintro e w2 ⟨P2, q2, rfl, hc2, hd2, hW2, B⟩; have Z2 := Lib.hid B; obtain ⟨z1, z2⟩ := Z.out w1 w2 B; have B := step_trans (step_alloc B1.out szO) B; have X2 := S0.out w2 B; obtain ⟨⟨a0, a1, a2, a3, a4, a5, a6, a7, a8, a9, a10, a11⟩, r2, D2⟩ := X2; have r2 := Lib.hid r2; have D2 := Lib.hid D2; have B2 := Lib.hid B; obtain ⟨⟨a0, _, _, _, _, _, _, _, _, _, _, _⟩, _, _⟩ := S0.out (w2.alloc (mo m (k : Int) m.seq A c)) (step_alloc B2.out _)))
      | ((with_reducible refine (zj (w2.alloc (mo m (j : Int) m.seq A c)) (r2.out.stepA _)).mono ?_); (rintro e w3 ⟨P3, q3, rfl, hc3, hd3, hW3, B⟩; have y0 := mo_at w2 w3 m (j : Int) m.seq A c B; have B3' := step_trans (step_alloc Z2.out _) B; obtain ⟨z1, z2⟩ := Z.out w1 w3 B3'; have B := step_trans (step_alloc B2.out _) B; have X3 := S0.out w3 B; obtain ⟨⟨a0, a1, a2, a3, a4, a5, a6, a7, a8, a9, a10, a11⟩, r3, D3⟩ := X3; have r3 := Lib.hid r3; have D3 := Lib.hid D3; have B3 := Lib.hid B; obtain ⟨⟨a0, _, _, _, _, _, _, _, _, _, _, _⟩, _, _⟩ := S0.out (w3.alloc (mo m (k : Int) 7 A c)) (step_alloc B3.out _))))
    | (go_at_call 12; (with_reducible refine (zs (w3.alloc (mo m (k : Int) 7 A c)) (r3.out.stepA _)).mono ?_); (rintro e w4 ⟨rfl, B4⟩; have B4 := Lib.hid B4)))
  go_ret
  exact ⟨rfl, step_trans (step_alloc D3.out _) B4.out⟩

set_option maxRecDepth 100000 in
set_option maxHeartbeats 4000000 in
theorem sizes_0_0 (m : M) (x : Int) (A : Option Addr) (c : Nat) (w : World) (hwf : Wf m) (hr : BytesAt w w.heap.size A m.data) (k r q j N J : Nat) (hk : m.kind = (k : Int)) (hN : szs.getD k 0 = N) (hJ : szs.getD j 0 = J)
    (e1 : bits .and .i64 x 7 = (r : Int)) (e2 : IntKind.i64.wrap ((k : Int) + (r : Int)) = (k : Int) + (r : Int)) (e3 : ((k : Int) + (r : Int)).tmod 11 = (q : Int)) (e4 : IntKind.i64.wrap (1 + (q : Int)) = (j : Int))
    (k1 : ¬ (k : Int) < 1) (k2 : ¬ (11 : Int) < (k : Int)) (k3 : k < 12) (j3 : j < 12) (h7 : ((k : Int) == 7) = false) (h8 : ((k : Int) == 8) = false)
    (l1 l2 : List UInt8) (n2 : Nat) (hl1 : Mg.putB m = l1) (hn1 : l1.length = N) (hE : Mg.putE m = 0) (hl2 : Mg.putB { m with kind := (j : Int) } = l2) (hn2 : l2.length = n2) (hF : Mg.putE { m with kind := (j : Int) } = 2) (hS : Mg.putE { m with seq := 7 } = 2) :
    Calls Try.prog 7 #[mVal m A c, .int .i64 x] w fun e w' => e = .returned (.bool true) ∧ Below w.heap.size w w' := by
  have S0 := fun w1 B => one_at m k hk A c w hr w1 B
  have is0 : is64 7 ∧ is64 (j : Int) := by
    constructor
    · exact ⟨by decide, by decide⟩
    · exact ⟨by omega, by omega⟩
  have hwj : Wf { m with kind := (j : Int) } := ⟨is0.2, hwf.2⟩
  have hws : Wf { m with seq := 7 } := ⟨hwf.1, hwf.2.1, hwf.2.2.1, is0.1, hwf.2.2.2.2⟩
  have zm := fun w hr => putV m A c hwf l1 0 hl1 hE N hn1 w hr
  have zj : ∀ w, BytesAt w w.heap.size A m.data → _ := fun w hr => putV { m with kind := (j : Int) } A c hwj l2 2 hl2 hF n2 hn2 w hr
  have zs : ∀ w, BytesAt w w.heap.size A m.data → _ := fun w hr => checkV { m with seq := 7 } A c hws 2 hS w hr
  unfold mVal at zm zj zs
  simp only [hk] at zm zj zs
  have Z := Lib.hid (fun w1 w' (B : Below (w1.alloc szO).heap.size (w1.alloc szO) w') => (And.intro (hN ▸ sz_at w1 w' k k3 B) (hJ ▸ sz_at w1 w' j j3 B) : w'.cell? ⟨w1.heap.size, k, none⟩ = some (.int .i64 (N : Int)) ∧ w'.cell? ⟨w1.heap.size, j, none⟩ = some (.int .i64 (J : Int))))
  have S0 := Lib.hid S0
  clear hr hwf hl1 hE hl2 hF hS hws hwj is0 hk hN hJ hn1 hn2
  go_enter Try.func7, Try.ntmps7
  go_wp2_with (first
    | (go_at_call 17; refine (awake_any _).mono ?_; (rintro e w1 ⟨rfl, B1⟩; have X1 := S0.out w1 B1; obtain ⟨⟨a0, a1, a2, a3, a4, a5, a6, a7, a8, a9, a10, a11⟩, r1, D1⟩ := X1; have r1 := Lib.hid r1; have D1 := Lib.hid D1; have B1 := Lib.hid B1; obtain ⟨⟨a0, a1, a2, a3, a4, a5, a6, a7, a8, a9, a10, a11⟩, _, _⟩ := S0.out (w1.alloc szO) (step_alloc B1.out _)))
    | (go_at_call 10; first
      | ((with_reducible refine (zm (w1.alloc szO) (r1.out.stepA szO)).mono ?_); (rintro e w2 ⟨P2, q2, rfl, hc2, hd2, hW2, B⟩; have Z2 := Lib.hid B; obtain ⟨z1, z2⟩ := Z.out w1 w2 B; have B := step_trans (step_alloc B1.out szO) B; have X2 := S0.out w2 B; obtain ⟨⟨a0, a1, a2, a3, a4, a5, a6, a7, a8, a9, a10, a11⟩, r2, D2⟩ := X2; have r2 := Lib.hid r2; have D2 := Lib.hid D2; have B2 := Lib.hid B; obtain ⟨⟨a0, _, _, _, _, _, _, _, _, _, _, _⟩, _, _⟩ := S0.out (w2.alloc (mo m (k : Int) m.seq A c)) (step_alloc B2.out _)))
      | ((with_reducible refine (zj (w2.alloc (mo m (j : Int) m.seq A c)) (r2.out.stepA _)).mono ?_); (rintro e w3 ⟨P3, q3, rfl, hc3, hd3, hW3, B⟩; have y0 := mo_at w2 w3 m (j : Int) m.seq A c B; have B3' := step_trans (step_alloc Z2.out _) B; obtain ⟨z1, z2⟩ := Z.out w1 w3 B3'; have B := step_trans (step_alloc B2.out _) B; have X3 := S0.out w3 B; obtain ⟨⟨a0, a1, a2, a3, a4, a5, a6, a7, a8, a9, a10, a11⟩, r3, D3⟩ := X3; have r3 := Lib.hid r3; have D3 := Lib.hid D3; have B3 := Lib.hid B; obtain ⟨⟨a0, _, _, _, _, _, _, _, _, _, _, _⟩, _, _⟩ := S0.out (w3.alloc (mo m (k : Int) 7 A c)) (step_alloc B3.out _))))
    | (go_at_call 12; (with_reducible refine (zs (w3.alloc (mo m (k : Int) 7 A c)) (r3.out.stepA _)).mono ?_); (rintro e w4 ⟨rfl, B4⟩; have B4 := Lib.hid B4)))
  go_ret
  exact ⟨rfl, step_trans (step_alloc D3.out _) B4.out⟩

set_option maxRecDepth 100000 in
set_option maxHeartbeats 4000000 in
theorem sizes_1_7 (m : M) (x : Int) (A : Option Addr) (c : Nat) (w : World) (hwf : Wf m) (hr : BytesAt w w.heap.size A m.data) (k r q j N J : Nat) (hk : m.kind = (k : Int)) (hN : szs.getD k 0 = N) (hJ : szs.getD j 0 = J)
    (e1 : bits .and .i64 x 7 = (r : Int)) (e2 : IntKind.i64.wrap ((k : Int) + (r : Int)) = (k : Int) + (r : Int)) (e3 : ((k : Int) + (r : Int)).tmod 11 = (q : Int)) (e4 : IntKind.i64.wrap (1 + (q : Int)) = (j : Int))
    (k1 : ¬ (k : Int) < 1) (k2 : ¬ (11 : Int) < (k : Int)) (k3 : k < 12) (j3 : j < 12) (h7 : ((k : Int) == 7) = true)
    (l1 l2 : List UInt8) (hl1 : Mg.putB m = l1) (hn1 : l1.length = N) (hE : Mg.putE m = 0) (hl2 : Mg.putB { m with kind := (j : Int) } = l2) (hn2 : l2.length = J) (hF : Mg.putE { m with kind := (j : Int) } = 0) (hS : Mg.putE { m with seq := 7 } = 0) :
    Calls Try.prog 7 #[mVal m A c, .int .i64 x] w fun e w' => e = .returned (.bool true) ∧ Below w.heap.size w w' := by
  have S0 := fun w1 B => one_at m k hk A c w hr w1 B
  have is0 : is64 7 ∧ is64 (j : Int) := by
    constructor
    · exact ⟨by decide, by decide⟩
    · exact ⟨by omega, by omega⟩
  have hwj : Wf { m with kind := (j : Int) } := ⟨is0.2, hwf.2⟩
  have hws : Wf { m with seq := 7 } := ⟨hwf.1, hwf.2.1, hwf.2.2.1, is0.1, hwf.2.2.2.2⟩
  have zm := fun w hr => putV m A c hwf l1 0 hl1 hE N hn1 w hr
  have zj : ∀ w, BytesAt w w.heap.size A m.data → _ := fun w hr => putV { m with kind := (j : Int) } A c hwj l2 0 hl2 hF J hn2 w hr
  have zs : ∀ w, BytesAt w w.heap.size A m.data → _ := fun w hr => checkV { m with seq := 7 } A c hws 0 hS w hr
  unfold mVal at zm zj zs
  simp only [hk] at zm zj zs
  have Z := Lib.hid (fun w1 w' (B : Below (w1.alloc szO).heap.size (w1.alloc szO) w') => (And.intro (hN ▸ sz_at w1 w' k k3 B) (hJ ▸ sz_at w1 w' j j3 B) : w'.cell? ⟨w1.heap.size, k, none⟩ = some (.int .i64 (N : Int)) ∧ w'.cell? ⟨w1.heap.size, j, none⟩ = some (.int .i64 (J : Int))))
  have S0 := Lib.hid S0
  clear hr hwf hl1 hE hl2 hF hS hws hwj is0 hk hN hJ hn1 hn2
  go_enter Try.func7, Try.ntmps7
  go_wp2_with (first
    | (go_at_call 17; refine (awake_any _).mono ?_; (rintro e w1 ⟨rfl, B1⟩; have X1 := S0.out w1 B1; obtain ⟨⟨a0, a1, a2, a3, a4, a5, a6, a7, a8, a9, a10, a11⟩, r1, D1⟩ := X1; have r1 := Lib.hid r1; have D1 := Lib.hid D1; have B1 := Lib.hid B1; obtain ⟨⟨a0, a1, a2, a3, a4, a5, a6, a7, a8, a9, a10, a11⟩, _, _⟩ := S0.out (w1.alloc szO) (step_alloc B1.out _)))
    | (go_at_call 10; first
      | ((with_reducible refine (zm (w1.alloc szO) (r1.out.stepA szO)).mono ?_); (rintro e w2 ⟨P2, q2, rfl, hc2, hd2, hW2, B⟩; have Z2 := Lib.hid B; obtain ⟨z1, z2⟩ := Z.out w1 w2 B; have B := step_trans (step_alloc B1.out szO) B; have X2 := S0.out w2 B; obtain ⟨⟨a0, a1, a2, a3, a4, a5, a6, a7, a8, a9, a10, a11⟩, r2, D2⟩ := X2; have r2 := Lib.hid r2; have D2 := Lib.hid D2; have B2 := Lib.hid B; obtain ⟨⟨a0, _, _, _, _, _, _, _, _, _, _, _⟩, _, _⟩ := S0.out (w2.alloc (mo m (k : Int) m.seq A c)) (step_alloc B2.out _)))
      | ((with_reducible refine (zj (w2.alloc (mo m (j : Int) m.seq A c)) (r2.out.stepA _)).mono ?_); (rintro e w3 ⟨P3, q3, rfl, hc3, hd3, hW3, B⟩; have y0 := mo_at w2 w3 m (j : Int) m.seq A c B; have B3' := step_trans (step_alloc Z2.out _) B; obtain ⟨z1, z2⟩ := Z.out w1 w3 B3'; have B := step_trans (step_alloc B2.out _) B; have X3 := S0.out w3 B; obtain ⟨⟨a0, a1, a2, a3, a4, a5, a6, a7, a8, a9, a10, a11⟩, r3, D3⟩ := X3; have r3 := Lib.hid r3; have D3 := Lib.hid D3; have B3 := Lib.hid B; obtain ⟨⟨a0, _, _, _, _, _, _, _, _, _, _, _⟩, _, _⟩ := S0.out (w3.alloc (mo m (k : Int) 7 A c)) (step_alloc B3.out _))))
    | (go_at_call 12; (with_reducible refine (zs (w3.alloc (mo m (k : Int) 7 A c)) (r3.out.stepA _)).mono ?_); (rintro e w4 ⟨rfl, B4⟩; have B4 := Lib.hid B4)))
  go_ret
  exact ⟨rfl, step_trans (step_alloc D3.out _) B4.out⟩

set_option maxRecDepth 100000 in
set_option maxHeartbeats 4000000 in
theorem sizes_1_8 (m : M) (x : Int) (A : Option Addr) (c : Nat) (w : World) (hwf : Wf m) (hr : BytesAt w w.heap.size A m.data) (k r q j N J : Nat) (hk : m.kind = (k : Int)) (hN : szs.getD k 0 = N) (hJ : szs.getD j 0 = J)
    (e1 : bits .and .i64 x 7 = (r : Int)) (e2 : IntKind.i64.wrap ((k : Int) + (r : Int)) = (k : Int) + (r : Int)) (e3 : ((k : Int) + (r : Int)).tmod 11 = (q : Int)) (e4 : IntKind.i64.wrap (1 + (q : Int)) = (j : Int))
    (k1 : ¬ (k : Int) < 1) (k2 : ¬ (11 : Int) < (k : Int)) (k3 : k < 12) (j3 : j < 12) (h7 : ((k : Int) == 7) = false) (h8 : ((k : Int) == 8) = true)
    (l1 l2 : List UInt8) (hl1 : Mg.putB m = l1) (hn1 : l1.length = N) (hE : Mg.putE m = 0) (hl2 : Mg.putB { m with kind := (j : Int) } = l2) (hn2 : l2.length = J) (hF : Mg.putE { m with kind := (j : Int) } = 0) (hS : Mg.putE { m with seq := 7 } = 0) :
    Calls Try.prog 7 #[mVal m A c, .int .i64 x] w fun e w' => e = .returned (.bool true) ∧ Below w.heap.size w w' := by
  have S0 := fun w1 B => one_at m k hk A c w hr w1 B
  have is0 : is64 7 ∧ is64 (j : Int) := by
    constructor
    · exact ⟨by decide, by decide⟩
    · exact ⟨by omega, by omega⟩
  have hwj : Wf { m with kind := (j : Int) } := ⟨is0.2, hwf.2⟩
  have hws : Wf { m with seq := 7 } := ⟨hwf.1, hwf.2.1, hwf.2.2.1, is0.1, hwf.2.2.2.2⟩
  have zm := fun w hr => putV m A c hwf l1 0 hl1 hE N hn1 w hr
  have zj : ∀ w, BytesAt w w.heap.size A m.data → _ := fun w hr => putV { m with kind := (j : Int) } A c hwj l2 0 hl2 hF J hn2 w hr
  have zs : ∀ w, BytesAt w w.heap.size A m.data → _ := fun w hr => checkV { m with seq := 7 } A c hws 0 hS w hr
  unfold mVal at zm zj zs
  simp only [hk] at zm zj zs
  have Z := Lib.hid (fun w1 w' (B : Below (w1.alloc szO).heap.size (w1.alloc szO) w') => (And.intro (hN ▸ sz_at w1 w' k k3 B) (hJ ▸ sz_at w1 w' j j3 B) : w'.cell? ⟨w1.heap.size, k, none⟩ = some (.int .i64 (N : Int)) ∧ w'.cell? ⟨w1.heap.size, j, none⟩ = some (.int .i64 (J : Int))))
  have S0 := Lib.hid S0
  clear hr hwf hl1 hE hl2 hF hS hws hwj is0 hk hN hJ hn1 hn2
  go_enter Try.func7, Try.ntmps7
  go_wp2_with (first
    | (go_at_call 17; refine (awake_any _).mono ?_; (rintro e w1 ⟨rfl, B1⟩; have X1 := S0.out w1 B1; obtain ⟨⟨a0, a1, a2, a3, a4, a5, a6, a7, a8, a9, a10, a11⟩, r1, D1⟩ := X1; have r1 := Lib.hid r1; have D1 := Lib.hid D1; have B1 := Lib.hid B1; obtain ⟨⟨a0, a1, a2, a3, a4, a5, a6, a7, a8, a9, a10, a11⟩, _, _⟩ := S0.out (w1.alloc szO) (step_alloc B1.out _)))
    | (go_at_call 10; first
      | ((with_reducible refine (zm (w1.alloc szO) (r1.out.stepA szO)).mono ?_); (rintro e w2 ⟨P2, q2, rfl, hc2, hd2, hW2, B⟩; have Z2 := Lib.hid B; obtain ⟨z1, z2⟩ := Z.out w1 w2 B; have B := step_trans (step_alloc B1.out szO) B; have X2 := S0.out w2 B; obtain ⟨⟨a0, a1, a2, a3, a4, a5, a6, a7, a8, a9, a10, a11⟩, r2, D2⟩ := X2; have r2 := Lib.hid r2; have D2 := Lib.hid D2; have B2 := Lib.hid B; obtain ⟨⟨a0, _, _, _, _, _, _, _, _, _, _, _⟩, _, _⟩ := S0.out (w2.alloc (mo m (k : Int) m.seq A c)) (step_alloc B2.out _)))
      | ((with_reducible refine (zj (w2.alloc (mo m (j : Int) m.seq A c)) (r2.out.stepA _)).mono ?_); (rintro e w3 ⟨P3, q3, rfl, hc3, hd3, hW3, B⟩; have y0 := mo_at w2 w3 m (j : Int) m.seq A c B; have B3' := step_trans (step_alloc Z2.out _) B; obtain ⟨z1, z2⟩ := Z.out w1 w3 B3'; have B := step_trans (step_alloc B2.out _) B; have X3 := S0.out w3 B; obtain ⟨⟨a0, a1, a2, a3, a4, a5, a6, a7, a8, a9, a10, a11⟩, r3, D3⟩ := X3; have r3 := Lib.hid r3; have D3 := Lib.hid D3; have B3 := Lib.hid B; obtain ⟨⟨a0, _, _, _, _, _, _, _, _, _, _, _⟩, _, _⟩ := S0.out (w3.alloc (mo m (k : Int) 7 A c)) (step_alloc B3.out _))))
    | (go_at_call 12; (with_reducible refine (zs (w3.alloc (mo m (k : Int) 7 A c)) (r3.out.stepA _)).mono ?_); (rintro e w4 ⟨rfl, B4⟩; have B4 := Lib.hid B4)))
  go_ret
  exact ⟨rfl, step_trans (step_alloc D3.out _) B4.out⟩

set_option maxRecDepth 100000 in
set_option maxHeartbeats 4000000 in
theorem sizes_1_0 (m : M) (x : Int) (A : Option Addr) (c : Nat) (w : World) (hwf : Wf m) (hr : BytesAt w w.heap.size A m.data) (k r q j N J : Nat) (hk : m.kind = (k : Int)) (hN : szs.getD k 0 = N) (hJ : szs.getD j 0 = J)
    (e1 : bits .and .i64 x 7 = (r : Int)) (e2 : IntKind.i64.wrap ((k : Int) + (r : Int)) = (k : Int) + (r : Int)) (e3 : ((k : Int) + (r : Int)).tmod 11 = (q : Int)) (e4 : IntKind.i64.wrap (1 + (q : Int)) = (j : Int))
    (k1 : ¬ (k : Int) < 1) (k2 : ¬ (11 : Int) < (k : Int)) (k3 : k < 12) (j3 : j < 12) (h7 : ((k : Int) == 7) = false) (h8 : ((k : Int) == 8) = false)
    (l1 l2 : List UInt8) (hl1 : Mg.putB m = l1) (hn1 : l1.length = N) (hE : Mg.putE m = 0) (hl2 : Mg.putB { m with kind := (j : Int) } = l2) (hn2 : l2.length = J) (hF : Mg.putE { m with kind := (j : Int) } = 0) (hS : Mg.putE { m with seq := 7 } = 2) :
    Calls Try.prog 7 #[mVal m A c, .int .i64 x] w fun e w' => e = .returned (.bool true) ∧ Below w.heap.size w w' := by
  have S0 := fun w1 B => one_at m k hk A c w hr w1 B
  have is0 : is64 7 ∧ is64 (j : Int) := by
    constructor
    · exact ⟨by decide, by decide⟩
    · exact ⟨by omega, by omega⟩
  have hwj : Wf { m with kind := (j : Int) } := ⟨is0.2, hwf.2⟩
  have hws : Wf { m with seq := 7 } := ⟨hwf.1, hwf.2.1, hwf.2.2.1, is0.1, hwf.2.2.2.2⟩
  have zm := fun w hr => putV m A c hwf l1 0 hl1 hE N hn1 w hr
  have zj : ∀ w, BytesAt w w.heap.size A m.data → _ := fun w hr => putV { m with kind := (j : Int) } A c hwj l2 0 hl2 hF J hn2 w hr
  have zs : ∀ w, BytesAt w w.heap.size A m.data → _ := fun w hr => checkV { m with seq := 7 } A c hws 2 hS w hr
  unfold mVal at zm zj zs
  simp only [hk] at zm zj zs
  have Z := Lib.hid (fun w1 w' (B : Below (w1.alloc szO).heap.size (w1.alloc szO) w') => (And.intro (hN ▸ sz_at w1 w' k k3 B) (hJ ▸ sz_at w1 w' j j3 B) : w'.cell? ⟨w1.heap.size, k, none⟩ = some (.int .i64 (N : Int)) ∧ w'.cell? ⟨w1.heap.size, j, none⟩ = some (.int .i64 (J : Int))))
  have S0 := Lib.hid S0
  clear hr hwf hl1 hE hl2 hF hS hws hwj is0 hk hN hJ hn1 hn2
  go_enter Try.func7, Try.ntmps7
  go_wp2_with (first
    | (go_at_call 17; refine (awake_any _).mono ?_; (rintro e w1 ⟨rfl, B1⟩; have X1 := S0.out w1 B1; obtain ⟨⟨a0, a1, a2, a3, a4, a5, a6, a7, a8, a9, a10, a11⟩, r1, D1⟩ := X1; have r1 := Lib.hid r1; have D1 := Lib.hid D1; have B1 := Lib.hid B1; obtain ⟨⟨a0, a1, a2, a3, a4, a5, a6, a7, a8, a9, a10, a11⟩, _, _⟩ := S0.out (w1.alloc szO) (step_alloc B1.out _)))
    | (go_at_call 10; first
      | ((with_reducible refine (zm (w1.alloc szO) (r1.out.stepA szO)).mono ?_); (rintro e w2 ⟨P2, q2, rfl, hc2, hd2, hW2, B⟩; have Z2 := Lib.hid B; obtain ⟨z1, z2⟩ := Z.out w1 w2 B; have B := step_trans (step_alloc B1.out szO) B; have X2 := S0.out w2 B; obtain ⟨⟨a0, a1, a2, a3, a4, a5, a6, a7, a8, a9, a10, a11⟩, r2, D2⟩ := X2; have r2 := Lib.hid r2; have D2 := Lib.hid D2; have B2 := Lib.hid B; obtain ⟨⟨a0, _, _, _, _, _, _, _, _, _, _, _⟩, _, _⟩ := S0.out (w2.alloc (mo m (k : Int) m.seq A c)) (step_alloc B2.out _)))
      | ((with_reducible refine (zj (w2.alloc (mo m (j : Int) m.seq A c)) (r2.out.stepA _)).mono ?_); (rintro e w3 ⟨P3, q3, rfl, hc3, hd3, hW3, B⟩; have y0 := mo_at w2 w3 m (j : Int) m.seq A c B; have B3' := step_trans (step_alloc Z2.out _) B; obtain ⟨z1, z2⟩ := Z.out w1 w3 B3'; have B := step_trans (step_alloc B2.out _) B; have X3 := S0.out w3 B; obtain ⟨⟨a0, a1, a2, a3, a4, a5, a6, a7, a8, a9, a10, a11⟩, r3, D3⟩ := X3; have r3 := Lib.hid r3; have D3 := Lib.hid D3; have B3 := Lib.hid B; obtain ⟨⟨a0, _, _, _, _, _, _, _, _, _, _, _⟩, _, _⟩ := S0.out (w3.alloc (mo m (k : Int) 7 A c)) (step_alloc B3.out _))))
    | (go_at_call 12; (with_reducible refine (zs (w3.alloc (mo m (k : Int) 7 A c)) (r3.out.stepA _)).mono ?_); (rintro e w4 ⟨rfl, B4⟩; have B4 := Lib.hid B4)))
  go_ret
  exact ⟨rfl, step_trans (step_alloc D3.out _) B4.out⟩

end Go.Proofs.Ytnnchcoeagigbaa
