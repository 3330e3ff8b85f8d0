/-
  slices.Insert at the end, and slices.Delete, of datagrams. Conditions: the row is the net's own; the places are within it.
-/
import Derived.Test.YtplfhlmipdlmnaaNtSmall
namespace Go.Proofs.Ytplfhlmipdlmnaa
open Go.RowKit Nt

theorem cut3_from (A : Option Addr) (n c k : Nat) (hk : k ≤ n) (W : World) :
    (Instr.slice 26 (.slice A n c) (some (.int .i64 (k : Int))) none none).run Try.prog W = .ok (.slice (if c = k then A else A.map (·.add (k * 3))) (n - k) (c - k)) W := by
  rw [run_slice_l W 26 A n c (by kernel_rfl) .i64 (k : Int) (by omega) (by omega), show (sizeOf (Try.prog.elem 26)).run Try.prog W = .ok 3 W by kernel_rfl]
  simp only [Result.andThen, sliced, Int.toNat_natCast]
theorem cut3_to (A : Option Addr) (n c k : Nat) (hk : k ≤ c) (W : World) :
    (Instr.slice 26 (.slice A n c) none (some (.int .i64 (k : Int))) none).run Try.prog W = .ok (.slice A k c) W := by
  rw [run_slice_h W 26 A n c (by kernel_rfl) .i64 (k : Int) (by omega) (by omega), show (sizeOf (Try.prog.elem 26)).run Try.prog W = .ok 3 W by kernel_rfl]
  have e0 : ∀ a : Addr, a.add 0 = a := add_zero
  simp only [Result.andThen, sliced, Int.toNat_natCast, Nat.zero_mul, Nat.sub_zero]
  congr 2
  split
  · rfl
  · cases A <;> simp [e0]
theorem cut3_mid (A : Option Addr) (n c k l : Nat) (hk : k ≤ l) (hl : l ≤ c) (W : World) :
    (Instr.slice 26 (.slice A n c) (some (.int .i64 (k : Int))) (some (.int .i64 (l : Int))) none).run Try.prog W = .ok (.slice (if c = k then A else A.map (·.add (k * 3))) (l - k) (c - k)) W := by
  rw [run_slice_lh W 26 A n c (by kernel_rfl) .i64 .i64 (k : Int) (l : Int) (by omega) (by omega) (by omega), show (sizeOf (Try.prog.elem 26)).run Try.prog W = .ok 3 W by kernel_rfl]
  simp only [Result.andThen, sliced, Int.toNat_natCast]
theorem cut3_lhm (A : Option Addr) (n c k l m : Nat) (hk : k ≤ l) (hl : l ≤ m) (hm : m ≤ c) (W : World) :
    (Instr.slice 26 (.slice A n c) (some (.int .i64 (k : Int))) (some (.int .i64 (l : Int))) (some (.int .i64 (m : Int)))).run Try.prog W = .ok (.slice (if m = k then A else A.map (·.add (k * 3))) (l - k) (m - k)) W := by
  rw [run_slice_lhm W 26 A n c (by kernel_rfl) .i64 .i64 .i64 (k : Int) (l : Int) (m : Int) (by omega) (by omega) (by omega) (by omega), show (sizeOf (Try.prog.elem 26)).run Try.prog W = .ok 3 W by kernel_rfl]
  simp only [Result.andThen, sliced, Int.toNat_natCast]
set_option maxRecDepth 100000 in
set_option maxHeartbeats 1000000 in
theorem insert_end (w : World) (A : Option Addr) (n c : Nat) (xs ys : List Value) (hown : OwnK 48 3 w 0 (.slice A n c) n xs) (hn : n ≤ 5000) (g : Nat) (hg : BlkR 48 w g ys) (hy : ys.length = 3) (h1 : ∀ v ∈ ys, v.oneCell' = true) :
    Calls Try.prog 48 #[.slice A n c, .int .i64 (n : Int), .slice (some ⟨g, 0, none⟩) 1 1] w fun e w' => ∃ v', e = .returned v' ∧ OwnK 48 3 w' 0 v' (n + 1) (xs ++ ys) ∧ w.grownBy w' (Value.slice A n c).ownBlock ∧ (v'.ownBlock = (Value.slice A n c).ownBlock ∨ v'.ownBlock = some w.heap.size) := by
  have q1 := cut3_from A n c n (Nat.le_refl _)
  obtain ⟨X, hX⟩ : ∃ X, X = (if c = n then A else A.map (·.add (n * 3))) := ⟨_, rfl⟩
  rw [← hX] at q1
  have hr : ∀ j u, ys[j]? = some u → w.cell? ((⟨g, 0, none⟩ : Addr).add j) = some u := fun j u hu => by rw [addr_zero_add]; exact hg.cell hu
  have HH := Lib.hid (And.intro hown (And.intro hy (And.intro hr (And.intro h1 hn))))
  clear hX hown hy hr h1 hn hg
  go_enter Try.func48, Try.ntmps48
  go_wp2_with (at_builtin; refine wpList_appendK rfl (.tmp 23) (.tmp 24) elPk rfl (.slice A n c) n xs ys 1 0 rfl HH.out.1 ⟨g, 0, none⟩ 1 rfl (by rw [HH.out.2.1]) HH.out.2.2.1 HH.out.2.2.2.1 (by have := HH.out.2.2.2.2; unfold maxLen; omega) (by have := HH.out.2.2.2.2; omega) (Nat.zero_le _) ?_; (intro v' w' k1 k2 k3; have H1 := Lib.hid (And.intro k1 (And.intro k2 k3)); clear k1 k2 k3))
  go_ret
  exact ⟨_, rfl, H1.out.1, H1.out.2.1, H1.out.2.2⟩
/-- what is left when the elements from i to j are gone -/
def del (xs : List Value) (i j : Nat) : List Value := xs.take (i * 3) ++ xs.drop (j * 3)
theorem zeros3 (n : Nat) : ∃ zs : List Value, (Builtin.zeroCells (Value.agg #[.int .i64 0, .int .i64 0, .slice none 0 0]).cells n).toList = zs ∧ zs.length = n * 3 ∧ ∀ v ∈ zs, v.oneCell' = true := by
  refine ⟨_, rfl, by simp [Builtin.zeroCells, Value.cells], fun v hv => ?_⟩
  simp only [Builtin.zeroCells, Value.cells] at hv
  simp at hv
  obtain ⟨k, _, rfl⟩ := hv
  have : k % 3 = 0 ∨ k % 3 = 1 ∨ k % 3 = 2 := by omega
  rcases this with e | e | e <;> simp [e] <;> rfl
set_option maxRecDepth 100000 in
set_option maxHeartbeats 4000000 in
theorem delete_any (w : World) (A : Option Addr) (n c i j : Nat) (xs : List Value) (hown : OwnK 48 3 w 0 (.slice A n c) n xs) (h1 : ∀ v ∈ xs, v.oneCell' = true) (hc : n ≤ c) (hc2 : c ≤ maxLen) (hij : i ≤ j) (hj : j ≤ n) :
    Calls Try.prog 49 #[.slice A n c, .int .i64 (i : Int), .int .i64 (j : Int)] w fun e w' => e = .returned (.slice A (n - (j - i)) c) ∧ OwnK 48 3 w' 0 (.slice A (n - (j - i)) c) (n - (j - i)) (del xs i j) ∧ Frame (fun k => (Value.slice A n c).ownBlock = some k) w w' := by
  have q0 := cut3_lhm A n c i j n hij hj hc
  obtain ⟨X, hX⟩ : ∃ X, X = (if n = i then A else A.map (·.add (i * 3))) := ⟨_, rfl⟩
  rw [← hX] at q0
  clear hX
  by_cases heq : i = j
  · subst heq
    have e : del xs i i = xs := by unfold del; exact List.take_append_drop _ _
    rw [e, show n - (i - i) = n by omega]
    have HH := Lib.hid hown
    clear hown h1 hc hc2 hij hj e
    go_enter Try.func49, Try.ntmps49
    go_wp2
    go_ret
    exact ⟨rfl, HH.out, Frame.refl _ _⟩
  · have hlt : i < j := by omega
    obtain ⟨g, cur, rfl, _, hg, _, _, hb, hcl, hct⟩ := hown.cells_ (by omega)
    have hxl : xs.length = n * 3 := hown.len
    obtain ⟨news, hnews⟩ : ∃ news, news = xs.drop (j * 3) := ⟨_, rfl⟩
    have hnl : news.length = (n - j) * 3 := by rw [hnews, List.length_drop, hxl]; omega
    have hget : ∀ t u, news[t]? = some u → w.drew.cell? ⟨g, j * 3 + t, none⟩ = some u := fun t u hu => by
      rw [hnews, List.getElem?_drop, ← hct, List.getElem?_take] at hu
      split at hu
      · exact hb.cell hu
      · cases hu
    have q2 := cut3_to (some ⟨g, 0, none⟩) n c i (by omega)
    have q3 := cut3_from (some ⟨g, 0, none⟩) n c j hj
    obtain ⟨Aj, hAj, hsrc⟩ : ∃ Aj : Addr, (if c = j then some (⟨g, 0, none⟩ : Addr) else (some (⟨g, 0, none⟩ : Addr)).map (·.add (j * 3))) = some Aj ∧ (∀ t u, news[t]? = some u → w.drew.cell? (Aj.add t) = some u) := by
      by_cases h : c = j
      · refine ⟨⟨g, 0, none⟩, by simp [h], fun t u hu => ?_⟩
        have h0 : news.length = 0 := by rw [hnl]; omega
        rw [List.length_eq_zero_iff.1 h0] at hu
        simp at hu
      · refine ⟨⟨g, j * 3, none⟩, by simp [h, addr_zero_add], fun t u hu => ?_⟩
        rw [Addr.add_mid]
        exact hget t u hu
    rw [hAj] at q3
    have q4 := cut3_mid (some ⟨g, 0, none⟩) (i + (n - j)) c (i + (n - j)) n (by omega) hc
    rw [if_neg (by omega)] at q4
    simp only [Option.map_some, addr_zero_add] at q4
    obtain ⟨W1, hW1⟩ : ∃ W1, W1 = w.drew.setCells g (0 + i * 3) news := ⟨_, rfl⟩
    have b1 := setCells_at news w.drew (0 + i * 3) cur hb (by rw [hnl, hcl]; omega)
    rw [← hW1, Nat.zero_add] at b1
    obtain ⟨cur1, hcur1⟩ : ∃ x, x = cur.take (i * 3) ++ news ++ cur.drop (i * 3 + news.length) := ⟨_, rfl⟩
    rw [← hcur1] at b1
    have hc1 : cur1.length = c * 3 := by rw [hcur1, List.length_append, List.length_append, List.length_take, List.length_drop, hnl, hcl]; omega
    obtain ⟨zs, hzs, hzl, hz1⟩ := zeros3 (j - i)
    have b2 := setCells_at zs W1 ((i + (n - j)) * 3) cur1 b1 (by rw [hzl, hc1]; omega)
    obtain ⟨f1, f2, f3, f4⟩ := setCells_frame news w.drew g (0 + i * 3)
    obtain ⟨g1, g2, g3, g4⟩ := setCells_frame zs W1 g ((i + (n - j)) * 3)
    rw [← hW1] at f1 f2 f3 f4
    have hcell : ∀ ty, (Builtin.clear_ #[26] ty #[.slice (some ⟨g, (i + (n - j)) * 3, none⟩) (n - (i + (n - j))) (c - (i + (n - j)))]).run Try.prog W1 = .ok (.tuple #[]) (W1.setCells g ((i + (n - j)) * 3) zs) :=
      fun ty => run_clearK W1 _ _ ty (.agg #[.int .i64 0, .int .i64 0, .slice none 0 0]) zs Try.underlying26 (fun w => by kernel_rfl) g ((i + (n - j)) * 3) _ _ (by omega) (by rw [show n - (i + (n - j)) = j - i by omega]; exact hzs) hz1
        (fun t ht => by rw [b1.cell (List.getElem?_eq_getElem (show (i + (n - j)) * 3 + t < cur1.length by rw [hc1]; omega))]; rfl) (fun t ht => b1.frozen _)
    have hpost : OwnK 48 3 (W1.setCells g ((i + (n - j)) * 3) zs) 0 (.slice (some ⟨g, 0, none⟩) (n - (j - i)) c) (n - (j - i)) (del xs i j) := by
      refine OwnK.of_blk b2 (Nat.zero_le _) (by omega) hc2 ?_ ?_
      · rw [List.length_append, List.length_append, List.length_take, List.length_drop, hzl, hc1]; omega
      · have e1 : (i * 3 + news.length) = (i + (n - j)) * 3 := by rw [hnl]; omega
        rw [List.append_assoc, List.take_append_of_le_length (by rw [List.length_take, hc1]; omega), List.take_take, Nat.min_eq_left (by omega), hcur1, List.take_append_of_le_length (by rw [List.length_append, List.length_take, hcl]; omega), List.take_of_length_le (by rw [List.length_append, List.length_take, hcl]; omega)]
        unfold del
        rw [← hnews, ← hct, List.take_take, Nat.min_eq_left (by omega)]
    have hfr : Frame (fun k => (Value.slice (some ⟨g, 0, none⟩) n c).ownBlock = some k) w (W1.setCells g ((i + (n - j)) * 3) zs) := by
      refine ⟨g1.trans f1, g2.trans f2, g3.trans f3, Nat.le_of_eq (by rw [g4, f4]; rfl), fun k hk hn => ?_⟩
      have hne : k ≠ g := fun e => hn (by rw [e]; rfl)
      rw [setCells_keep zs W1 g _ k hne, hW1, setCells_keep news w.drew g _ k hne]
      rfl
    have hspare : ∀ t, t < news.length → (w.drew.cell? ⟨g, 0 + i * 3 + t, none⟩).isSome = true ∧ w.drew.frozen? ⟨g, 0 + i * 3 + t, none⟩ = false := fun t ht => by
      rw [Nat.zero_add]
      exact ⟨by rw [show w.drew.cell? ⟨g, i * 3 + t, none⟩ = w.cell? ⟨g, i * 3 + t, none⟩ from rfl, hb.cell (List.getElem?_eq_getElem (show i * 3 + t < cur.length by rw [hcl]; omega))]; rfl, hb.frozen _⟩
    have h1n : ∀ u ∈ news, u.oneCell' = true := fun u hu => h1 u (by rw [hnews] at hu; exact List.mem_of_mem_drop hu)
    have HH := Lib.hid (And.intro hnl (And.intro hsrc (And.intro h1n hspare)))
    have HP := Lib.hid (And.intro hpost hfr)
    have HW := Lib.hid hW1
    obtain ⟨i0, z0, hi0, hz0, hi3, _, _⟩ := elPk.info
    have hroom : i + (n - j) ≤ c := by omega
    clear hnl hsrc h1n hspare hpost hfr hW1 hown h1 hg hb hcl hct hxl hnews hget hAj b1 hcur1 hc1 hzs hzl hz1 b2 f1 f2 f3 f4 g1 g2 g3 g4
    go_enter Try.func49, Try.ntmps49
    go_wp2_with fail
    go_region_law (refine step_append_room rfl (.tmp 22) (.tmp 25) 26 rfl 48 i0 3 Try.underlying26 hi0 hi3 g 0 i c (by simp [Act.eval, Act.put]) Aj (n - j) (c - j) news (by simp [Act.eval, Act.put]) HH.out.1 HH.out.2.1 HH.out.2.2.1 hroom HH.out.2.2.2 ?_; rw [← HW.out])
    go_wp2
    go_ret
    refine ⟨?_, HP.out.1, HP.out.2⟩
    rw [show n - (j - i) = i + (n - j) by omega]
    rfl
end Go.Proofs.Ytplfhlmipdlmnaa
