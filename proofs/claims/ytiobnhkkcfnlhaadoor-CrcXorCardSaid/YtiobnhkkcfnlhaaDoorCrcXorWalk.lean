/-
  The walk of CrcXor. Conditions: the table lies as the program's text lays it; the bytes can be read.
-/
import Derived.Test.YtiobnhkkcfnlhaaDoorCrcWalk
import Derived.Test.YtiobnhkkcfnlhaaDoorKitOwn
import Derived.Deep.RegionHeld3
namespace Go.Proofs.YtiobnhkkcfnlhaaDoor
open Go.RowKit

theorem min3_run (a b c m : Nat) (h1 : m ≤ a) (h2 : m ≤ b) (h3 : m ≤ c) (h4 : m = a ∨ m = b ∨ m = c) (t0 t1 t2 t : TypeId) (w : World) :
    (Builtin.min_ #[t0, t1, t2] t #[.int .i64 (a : Int), .int .i64 (b : Int), .int .i64 (c : Int)]).run Tryd.prog w = .ok (.int .i64 (m : Int)) w := by
  simp [Builtin.min_, Builtin.min2]
  repeat' split
  all_goals (congr 2; omega)

theorem xor_any (A0 A1 A2 : Option Addr) (l0 l1 l2 : List UInt8) (c0 c1 c2 : Nat) (w : World) (ht : TabAt w) (hm0 : l0.length ≤ c0) (hm1 : l1.length ≤ c1) (hm2 : l2.length ≤ c2) (hc0 : c0 ≤ maxLen) (_hc1 : c1 ≤ maxLen) (_hc2 : c2 ≤ maxLen)
    (hr0 : BytesAt w w.heap.size A0 l0) (hr1 : BytesAt w w.heap.size A1 l1) (hr2 : BytesAt w w.heap.size A2 l2) :
    Calls Tryd.prog 7 #[.slice A0 l0.length c0, .slice A1 l1.length c1, .slice A2 l2.length c2] w fun e w' => e = .returned (.bool true) ∧ Below w.heap.size w w' := by
  obtain ⟨m, h1, h2, h3, h4⟩ : ∃ m, m ≤ l0.length ∧ m ≤ l1.length ∧ m ≤ l2.length ∧ (m = l0.length ∨ m = l1.length ∨ m = l2.length) := by
    refine ⟨min (min l0.length l1.length) l2.length, ?_, ?_, ?_, ?_⟩ <;> omega
  have hmin := min3_run l0.length l1.length l2.length m h1 h2 h3 h4
  unfold maxLen at hc0 _hc1 _hc2
  clear h4
  by_cases hlong : 2000 < m
  · go_enter Tryd.func7, Tryd.ntmps7
    go_wp2_with (go_at_call 16; refine (awake_any _ ht).mono ?_; rintro e w1 ⟨rfl, hb1⟩)
    go_ret
    exact ⟨rfl, hb1⟩
  · go_enter Tryd.func7, Tryd.ntmps7
    go_wp2_with (go_at_call 16; refine (awake_any _ ht).mono ?_; rintro e w1 ⟨rfl, hb1⟩)
    have ht1 := ht.below hb1 (Nat.le_refl _)
    have hs0 : BytesAt w1 w1.heap.size A0 l0 := (hr0.below hb1).more hb1.size
    have hs1 : BytesAt w1 w1.heap.size A1 l1 := (hr1.below hb1).more hb1.size
    have hs2 : BytesAt w1 w1.heap.size A2 l2 := (hr2.below hb1).more hb1.size
    clear hr0 hr1 hr2 hmin
    go_loopw [9, 10] (fun x i wr => ∃ k : Nat, k ≤ m ∧ i = .int .i64 k ∧ OwnB wr w1.heap.size x (Crc.xor3l (l0.take k) (l1.take k) (l2.take k)) ∧ Below w1.heap.size w1 wr) (fun _ i _ => m - (intOf i).toNat)
    case atStart => exact ⟨0, Nat.zero_le _, rfl, OwnB.nil_, Below.refl _ _⟩
    case round =>
      obtain ⟨k, hk, rfl, hown, hbel⟩ := hrel
      by_cases hlt : k < m
      · obtain ⟨a0, rfl, hb0, hx0⟩ := (hs0.below hbel) (by rintro rfl; simp at h1; omega)
        obtain ⟨a1, rfl, hb1', hx1⟩ := (hs1.below hbel) (by rintro rfl; simp at h2; omega)
        obtain ⟨a2, rfl, hb2, hx2⟩ := (hs2.below hbel) (by rintro rfl; simp at h3; omega)
        have y0 := hx0 k (by omega)
        have y1 := hx1 k (by omega)
        have y2 := hx2 k (by omega)
        obtain ⟨x0, e0⟩ : ∃ x, x = l0.getD k 0 := ⟨_, rfl⟩
        obtain ⟨x1, e1⟩ : ∃ x, x = l1.getD k 0 := ⟨_, rfl⟩
        obtain ⟨x2, e2⟩ : ∃ x, x = l2.getD k 0 := ⟨_, rfl⟩
        rw [← e0] at y0
        rw [← e1] at y1
        rw [← e2] at y2
        have u0 := x0.toNat_lt
        have u1 := x1.toNat_lt
        have u2 := x2.toNat_lt
        obtain ⟨y, e3⟩ : ∃ y, y = x0 ^^^ x1 := ⟨_, rfl⟩
        obtain ⟨z, e4⟩ : ∃ z, z = y ^^^ x2 := ⟨_, rfl⟩
        have u3 := y.toNat_lt
        have q1 : bits .xor .u8 (x0.toNat : Int) (x1.toNat : Int) = (y.toNat : Int) := by rw [e3, UInt8.toNat_xor]; exact u8_xor_nat _ _ (by omega) (by omega)
        have q2 : bits .xor .u8 (y.toNat : Int) (x2.toNat : Int) = (z.toNat : Int) := by rw [e4, UInt8.toNat_xor]; exact u8_xor_nat _ _ (by omega) (by omega)
        have i0 : (0 : Int) ≤ (k : Int) := by omega
        have i1 : (k : Int) < (l0.length : Int) := by omega
        have i2 : (k : Int) < (l1.length : Int) := by omega
        have i3 : (k : Int) < (l2.length : Int) := by omega
        have HE : Hid (z = l0.getD k 0 ^^^ l1.getD k 0 ^^^ l2.getD k 0) := by rw [← e0, ← e1, ← e2, ← e3]; exact e4
        clear hx0 hx1 hx2 e0 e1 e2 e3 e4
        have hacc : (Crc.xor3l (l0.take k) (l1.take k) (l2.take k)).length = k := by
          rw [Crc.length_xor3 _ _ _ (by simp; omega) (by simp; omega), List.length_take]; omega
        obtain ⟨acc, hac⟩ : ∃ acc, acc = Crc.xor3l (l0.take k) (l1.take k) (l2.take k) := ⟨_, rfl⟩
        rw [← hac] at hown hacc
        have hal : acc.length ≤ 2000 := by omega
        have HA := Lib.hid (And.intro hac hacc)
        clear hac hacc
        have z0 : ∀ o, (wr.alloc o).drew.cell? (a0.add k) = some (.int .u8 (x0.toNat : Int)) := fun o => (World.cell?_alloc_lt wr o _ (by rw [block_add]; exact Nat.lt_of_lt_of_le hb0 hbel.size)).trans y0
        have z1 : ∀ o, (wr.alloc o).drew.cell? (a1.add k) = some (.int .u8 (x1.toNat : Int)) := fun o => (World.cell?_alloc_lt wr o _ (by rw [block_add]; exact Nat.lt_of_lt_of_le hb1' hbel.size)).trans y1
        have z2 : ∀ o, (wr.alloc o).drew.cell? (a2.add k) = some (.int .u8 (x2.toNat : Int)) := fun o => (World.cell?_alloc_lt wr o _ (by rw [block_add]; exact Nat.lt_of_lt_of_le hb2 hbel.size)).trans y2
        have hn := bytes_new wr [z] 5 (0, 0)
        go_wp2
        go_region_held3 (fun w' => w'.cell? (a0.add k) = some (.int .u8 (x0.toNat : Int)) ∧ w'.cell? (a1.add k) = some (.int .u8 (x1.toNat : Int)) ∧ w'.cell? (a2.add k) = some (.int .u8 (x2.toNat : Int))) (first | exact ⟨k0, k1, k2⟩ | exact ⟨y0, y1, y2⟩ | exact ⟨z0 _, z1 _, z2 _⟩ | assumption | go_keep) (first
          | (refine step_appendB rfl (.tmp 27) (.tmp 42) 22 rfl rfl w1.heap.size _ acc rfl ((hown.alloc _).drewN 1) (some ⟨wr.heap.size, 0, none⟩) [z] 1 1 (wr.heap.size + 1) rfl rfl (hn.drewN 1) (by simp; omega) (by simp; have := hbel.size; omega) ?_; intro v' w' ho hg hat; (have k0 := (grown_cell ((hown.alloc _).drewN 1) hg (p := a0.add k) (by rw [block_add]; exact hb0) (by simp; have := hbel.size; omega)).trans (z0 _)); (have k1 := (grown_cell ((hown.alloc _).drewN 1) hg (p := a1.add k) (by rw [block_add]; exact hb1') (by simp; have := hbel.size; omega)).trans (z1 _)); (have k2 := (grown_cell ((hown.alloc _).drewN 1) hg (p := a2.add k) (by rw [block_add]; exact hb2) (by simp; have := hbel.size; omega)).trans (z2 _))))
        go_wp2
        go_roundw
        case rel =>
          refine ⟨k + 1, by omega, by go_num, ?_, ?_⟩
          · rw [Crc.xor3l_snoc l0 l1 l2 k (by omega) (by omega) (by omega), ← HE.out, ← HA.out.1]
            exact ho
          · exact (belowN (hbel.alloc hbel.size _) 1).grown hg (by simp; have := hbel.size; omega) (fun j hj => (hown.lt j hj).1)
        case measure => simp [intOf]; omega
      · obtain rfl : k = m := by omega
        have ht2 := ht1.below hbel (Nat.le_refl _)
        have r0 := (hs0.below hbel).take k
        have r1 := (hs1.below hbel).take k
        have r2 := (hs2.below hbel).take k
        obtain ⟨AX, cX, rfl, _⟩ := hown.form
        have rX := hown.bytes
        have hlX : (Crc.xor3l (l0.take k) (l1.take k) (l2.take k)).length = k := by
          rw [Crc.length_xor3 _ _ _ (by simp; omega) (by simp; omega), List.length_take]; omega
        have z0 := fun n => sum_n A0 (l0.take k) k c0 (by simp; omega) _ (wr.drewN n) (ht2.drewN n) (by simp; omega) (r0.drewN n)
        have z1 := fun n => sum_n A1 (l1.take k) k c1 (by simp; omega) _ (wr.drewN n) (ht2.drewN n) (by simp; omega) (r1.drewN n)
        have z2 := fun n => sum_n A2 (l2.take k) k c2 (by simp; omega) _ (wr.drewN n) (ht2.drewN n) (by simp; omega) (r2.drewN n)
        have zX := fun n => sum_any AX (Crc.xor3l (l0.take k) (l1.take k) (l2.take k)) cX _ (wr.drewN n) (ht2.drewN n) (by omega) (rX.drewN n)
        rw [Crc.sum_xor3 _ _ _ (by simp; omega) (by simp; omega)] at zX
        obtain ⟨s0, es0⟩ : ∃ s, s = Crc.sum (l0.take k) := ⟨_, rfl⟩
        obtain ⟨s1, es1⟩ : ∃ s, s = Crc.sum (l1.take k) := ⟨_, rfl⟩
        obtain ⟨s2, es2⟩ : ∃ s, s = Crc.sum (l2.take k) := ⟨_, rfl⟩
        have b0 : s0 < 4294967296 := by rw [es0]; exact Crc.sum_lt _
        have b1 : s1 < 4294967296 := by rw [es1]; exact Crc.sum_lt _
        have b2 : s2 < 4294967296 := by rw [es2]; exact Crc.sum_lt _
        rw [← es0] at z0 zX
        rw [← es1] at z1 zX
        rw [← es2] at z2 zX
        obtain ⟨t, et⟩ : ∃ t, t = s0 ^^^ s1 := ⟨_, rfl⟩
        obtain ⟨u, eu⟩ : ∃ u, u = t ^^^ s2 := ⟨_, rfl⟩
        have b3 : t < 4294967296 := by rw [et]; exact Crc.x32 b0 b1
        have q1 : bits .xor .u32 (s0 : Int) (s1 : Int) = (t : Int) := by rw [et]; exact u32_xor_nat _ _ b0 b1
        have q2 : bits .xor .u32 (t : Int) (s2 : Int) = (u : Int) := by rw [eu]; exact u32_xor_nat _ _ b3 b2
        rw [← et, ← eu] at zX
        have p0 := cut_to A0 l0.length c0 k (by omega)
        have p1 := cut_to A1 l1.length c1 k (by omega)
        have p2 := cut_to A2 l2.length c2 k (by omega)
        clear es0 es1 es2 et eu hlX
        go_wp2
        go_quiet ((go_at_call 11; with_reducible first | exact quietN (z0 _) | exact quietA (z0 _) | exact quietN (z1 _) | exact quietA (z1 _) | exact quietN (z2 _) | exact quietA (z2 _) | exact quietN (zX _) | exact quietA (zX _)))
        go_wp2
        go_ret
        exact ⟨rfl, hb1.trans ((belowN hbel _).mono hb1.size)⟩
end Go.Proofs.YtiobnhkkcfnlhaaDoor
