/-
  The program's own disk: Clone. Conditions: none.
-/
import Derived.Test.YtmkibkafccgmgaaDmNew
import Derived.Test.YtmkibkafccgmgaaDmLay
import Derived.Deep.RegionHeld3
import Derived.Deep.CutRange
namespace Go.Proofs.Ytmkibkafccgmgaa
open Go.RowKit Go.Maps

/-- the cells of n sectors -/
def sectorCells (f : Nat → List UInt8) (n : Nat) : List Value := (List.range (n * 64)).map fun k => .int .u8 (((f (k / 64)).getD (k % 64) 0).toNat : Int)
theorem sectorCells_at (f : Nat → List UInt8) (n i j : Nat) (hi : i < n) (hj : j < 64) : (sectorCells f n)[i * 64 + j]? = some (.int .u8 (((f i).getD j 0).toNat : Int)) := by
  unfold sectorCells
  rw [List.getElem?_map, List.getElem?_range (by omega)]
  simp only [Option.map_some]
  rw [show (i * 64 + j) / 64 = i by omega, show (i * 64 + j) % 64 = j by omega]
/-- what slices.Clone tells -/
def SClonePost (f : Nat → List UInt8) (n : Nat) (w : World) (e : Ending) (w' : World) : Prop :=
  ∃ g c, e = .returned (.slice (some ⟨g, 0, none⟩) n c) ∧ n ≤ c ∧ w.heap.size ≤ g ∧ g < w'.heap.size ∧ (∀ i, i < n → w'.rangeAt g (i * 64) (cellsOfBytes (f i))) ∧ w'.there g 0 (n * 64) ∧ Below w.heap.size w w'
set_option maxRecDepth 100000 in
theorem some_neqD (g n c : Nat) (w : World) : (binOp .eql 42 (.slice (some ⟨g, 0, none⟩) n c) (.slice none 0 0)).run Try.prog w = .ok (.bool false) w := by kernel_rfl
set_option maxRecDepth 100000 in
theorem sclone (f : Nat → List UInt8) (g n c : Nat) (w : World) (h1 : 1 ≤ n) (h2 : n ≤ 1024) (hf : ∀ i, i < n → (f i).length = 64) (hr : ∀ i, i < n → w.rangeAt g (i * 64) (cellsOfBytes (f i))) :
    Calls Try.prog 32 #[.slice (some ⟨g, 0, none⟩) n c] w (SClonePost f n w) := by
  have hq := some_neqD g n c
  have hg : g < w.heap.size := by
    have h0 := hr 0 (by omega)
    rw [Nat.zero_mul] at h0
    have := h0 0 _ (cellsOfBytes_get (f 0) 0 (by rw [hf 0 (by omega)]; decide))
    exact World.block_lt_of_cell? w _ this
  have hB0 : Below w.heap.size w (w.alloc (.cells #[] 79)) := (Below.refl _ _).alloc (Nat.le_refl _) _
  have hrun : ∃ v' w', (∀ ty, (Builtin.append_ #[42, 42] ty #[.slice (some ⟨w.heap.size, 0, none⟩) 0 0, .slice (some ⟨g, 0, none⟩) n c]).run Try.prog (w.alloc (.cells #[] 79)) = .ok v' w') ∧ w'.ownsRow w.heap.size 79 64 v' n (sectorCells f n) ∧ (w.alloc (.cells #[] 79)).grownBy w' (some w.heap.size) := by
    have hsrc : ∀ j u, (sectorCells f n)[j]? = some u → (w.alloc (.cells #[] 79)).cell? ((⟨g, 0, none⟩ : Addr).add j) = some u := by
      intro j u hu
      have hj : j < n * 64 := by
        have := (List.getElem?_eq_some_iff.1 hu).1
        simpa [sectorCells] using this
      have hi : j / 64 < n := by omega
      have hm : j % 64 < 64 := Nat.mod_lt _ (by decide)
      have e := sectorCells_at f n (j / 64) (j % 64) hi hm
      rw [show j / 64 * 64 + j % 64 = j by omega] at e
      rw [e] at hu
      rw [← Option.some.inj hu, addr_zero_add, hB0.cell (p := ⟨g, j, none⟩) hg]
      have := hr (j / 64) hi (j % 64) _ (cellsOfBytes_get (f (j / 64)) (j % 64) (by rw [hf _ hi]; exact hm))
      rwa [show j / 64 * 64 + j % 64 = j by omega] at this
    have hone : ∀ u ∈ sectorCells f n, u.oneCell' = true := by
      intro u hu
      simp only [sectorCells, List.mem_map] at hu
      obtain ⟨k, _, rfl⟩ := hu
      rfl
    obtain ⟨i, i1, i2, i3, i4⟩ := infoC
    have hown : (w.alloc (.cells #[] 79)).ownsRow w.heap.size 79 64 (.slice (some ⟨w.heap.size, 0, none⟩) 0 0) 0 [] := ⟨rfl, .inr ⟨w.heap.size, 0, #[], rfl, Nat.le_refl _, heap_alloc_new w _, Nat.le_refl _, Nat.zero_le _, rfl, rfl⟩⟩
    obtain ⟨v', w', hrun, g1, g2, _, _⟩ := run_append_own_at (P := Try.prog) (w.alloc (.cells #[] 79)) w.heap.size 42 0 79 i (arr zs) 64 64 Try.underlying42 i1 i2 i3 i4 (by show (cellsOfBytes zs).toArray.size = 64; rw [List.size_toArray, cellsOfBytes_length, List.length_replicate]) (by decide)
      (.slice (some ⟨w.heap.size, 0, none⟩) 0 0) 0 [] hown ⟨g, 0, none⟩ n c (sectorCells f n) (by simp [sectorCells]) hsrc hone (by unfold maxLen; omega) (by omega) (by simp)
    refine ⟨v', w', fun ty => ?_, by rw [Nat.zero_add, List.nil_append] at g1; exact g1, g2⟩
    rw [← hrun]
    rfl
  obtain ⟨v', w', hrun, ho, hg2⟩ := hrun
  have hB : Below w.heap.size w w' := hB0.grown hg2 (by simp) (fun k hk => Nat.le_of_eq (Option.some.inj hk))
  have HO := Lib.hid (And.intro ho (And.intro hB (And.intro h1 hf)))
  clear ho hg2 hB hr hg hB0 h1 h2 hf
  go_enter Try.func32, Try.ntmps32
  go_wp2_with (refine wpList_append_runR rfl _ _ 42 rfl rfl rfl (hrun _) ?_)
  go_ret
  obtain ⟨ho, hB, h1, hf⟩ := HO.out
  have hform := World.ownsRow.form ho (by omega)
  obtain ⟨g', cap, hv, hg', hlt⟩ := hform
  subst hv
  have hblk : ∃ cur, w'.heap[g']? = some (.cells cur 79 (0, 0)) ∧ n ≤ cap ∧ cur.size = cap * 64 := by
    rcases ho.2 with ⟨h, _⟩ | ⟨g2, cap2, cur, h, _, hc, hn, _, hs, _⟩
    · cases h
    · injection h with e1 e2 e3
      injection e1 with e1
      injection e1 with e1
      subst e1 e3
      exact ⟨cur, hc, hn, hs⟩
  obtain ⟨cur, hc, hn, hs⟩ := hblk
  refine ⟨g', cap, rfl, hn, hg', hlt, fun i hi j v hv => ?_, fun j hj => ?_, hB⟩
  · have hj : j < 64 := by
      have := (List.getElem?_eq_some_iff.1 hv).1
      rwa [cellsOfBytes_length, hf i hi] at this
    have h := World.ownsRow.cells ho (g := g') rfl (i * 64 + j) _ (sectorCells_at f n i j hi hj)
    rw [addr_zero_add] at h
    rw [h, ← hv, cellsOfBytes_get (f i) j (by rw [hf i hi]; exact hj)]
  · rw [Nat.zero_add]
    have hj2 : j < cur.size := by
      rw [hs]
      have : n * 64 ≤ cap * 64 := Nat.mul_le_mul_right 64 hn
      omega
    exact ⟨by rw [cell_of_row w' _ _ cur _ _ hc, Array.getElem?_eq_getElem hj2]; rfl, by simp [World.frozen?, hc]⟩

/-- a disk half made: all but itself, and its changes -/
def HalfAt (w wx : World) (S : DS) (D : DU) (nn B : Nat) : Prop :=
  ∃ g c m, wx.heap[B]? = some (.cells #[.pointer none, .slice (some ⟨g, 0, none⟩) S.n c, .map (some m), .int .i64 0, .int .i64 S.fuseI, .bool S.out] 50 (0, 0)) ∧ S.n ≤ c ∧
    w.heap.size ≤ g ∧ g < wx.heap.size ∧ w.heap.size ≤ m ∧ m < wx.heap.size ∧ w.heap.size ≤ B ∧ B < wx.heap.size ∧ B ≠ g ∧ B ≠ m ∧ g ≠ m ∧
    (∀ i, i < S.n → wx.rangeAt g (i * 64) (cellsOfBytes (S.firm i))) ∧ wx.there g 0 (S.n * 64) ∧ wx.ownsMap Try.prog 3 elemR m nn D ∧ Below w.heap.size w wx
def DClonePost (S : DS) (w : World) (e : Ending) (w' : World) : Prop :=
  ∃ b' F', e = .returned (.pointer (some ⟨b', 0, none⟩)) ∧ DiskAt w' b' F' S ∧ (∀ k, F' k → w.heap.size ≤ k) ∧ Below w.heap.size w w'
set_option maxRecDepth 100000 in
theorem dClone (w : World) (b : Nat) (F : Nat → Prop) (S : DS) (h : DiskAt w b F S) : Calls Try.prog 13 #[.pointer (some ⟨b, 0, none⟩)] w (DClonePost S w) := by
  obtain ⟨g, c, m, nn, D, h⟩ := h
  have zm := made_yes w b h.cell0
  have hS : ∀ w', Below w.heap.size w w' → w'.cell? ⟨b, 1, none⟩ = some (.slice (some ⟨g, 0, none⟩) S.n c) ∧ w'.cell? ⟨b, 2, none⟩ = some (.map (some m)) ∧ w'.cell? ⟨b, 4, none⟩ = some (.int .i64 S.fuseI) ∧ w'.cell? ⟨b, 5, none⟩ = some (.bool S.out) := fun w' hB => by
    have h' := h.step hB
    exact ⟨h'.cell1, h'.cell2, h'.cell4, h'.cell5⟩
  have z1 : ∀ w', Below w.heap.size w w' → Calls Try.prog 32 #[.slice (some ⟨g, 0, none⟩) S.n c] w' (SClonePost S.firm S.n w') := fun w' hB => sclone S.firm g S.n c w' h.ok.n1 h.ok.n2 h.ok.firm ((h.step hB).rows)
  have z2 : ∀ w', Below w.heap.size w w' → Calls Try.prog 33 #[.map (some m)] w' fun e w'' => e = .returned (.map (some w'.heap.size)) ∧ w''.ownsMap Try.prog 3 elemR w'.heap.size nn D ∧ w''.ownsMap Try.prog 3 elemR m nn D ∧ Below w'.heap.size w' w'' := fun w' hB => AnyW.maps_Clone_owns cloneD 3 elemR m nn D w' (h.step hB).map
  have z3 : ∀ w', Below w.heap.size w w' → Calls Try.prog 35 #[.pointer (some ⟨b, 3, none⟩)] w' fun e w'' => e = .returned (.int .i64 (S.ops : Int)) ∧ w' = w'' := fun w' hB => atomLoad w' b _ (h.step hB).cell3
  have hlt := Lib.hid (h.lt b h.Fb)
  have HL := Lib.hid h
  obtain ⟨n, hn⟩ : ∃ n, n = S.n := ⟨_, rfl⟩
  obtain ⟨fu, hfu⟩ : ∃ x, x = S.fuseI := ⟨_, rfl⟩
  obtain ⟨ou, hou⟩ : ∃ x, x = S.out := ⟨_, rfl⟩
  rw [← hn, ← hfu, ← hou] at hS
  rw [← hn] at z1
  replace hS := Lib.hid hS
  replace hn := Lib.hid hn
  replace hfu := Lib.hid hfu
  replace hou := Lib.hid hou
  clear h
  go_enter Try.func13, Try.ntmps13
  go_wp2_with (go_at_call 31; refine zm.mono ?_; (rintro e w2 ⟨rfl, rfl⟩))
  have hB0 : Below w.heap.size w w.drew := (Below.refl _ _).drew
  go_cut [3] from 7 to 26 (fun p wx => ∃ B, p = .pointer (some ⟨B, 0, none⟩) ∧ HalfAt w wx S D nn B)
  case first =>
    go_region_held3 (fun w' => w'.cell? ⟨b, 1, none⟩ = some (.slice (some ⟨g, 0, none⟩) n c) ∧ w'.cell? ⟨b, 2, none⟩ = some (.map (some m)) ∧ w'.cell? ⟨b, 4, none⟩ = some (.int .i64 fu) ∧ w'.cell? ⟨b, 5, none⟩ = some (.bool ou)) (first | exact hS.out _ (by assumption) | exact hS.out _ (step_alloc (by assumption) _)) (first
      | (go_at_call 32; refine (z1 _ (by assumption)).mono ?_; (rintro e w5 ⟨g5, c5, rfl, hc5, hg5, hl5, hr5, ht5, hB5⟩; have hB5w : Below w.heap.size w w5 := step_trans (by assumption) hB5; have H5 := Lib.hid (And.intro hc5 (And.intro hg5 (And.intro hl5 (And.intro hr5 (And.intro ht5 hB5))))); clear hc5 hg5 hl5 hr5 ht5 hB5))
      | (go_at_call 33; refine (z2 _ (by assumption)).mono ?_; (rintro e w6 ⟨rfl, ho6, _, hB6⟩; have hB6w : Below w.heap.size w w6 := step_trans (by assumption) hB6; have H6 := Lib.hid (And.intro ho6 hB6); clear ho6 hB6)))
    all_goals (go_wp2_with fail; go_meet)
    obtain ⟨hc5, hg5, hl5, hr5, ht5, hB5⟩ := H5.out
    obtain ⟨ho6, hB6⟩ := H6.out
    have hm6 := ho6.lt
    have hs5 : w.heap.size ≤ w5.heap.size := hB5.size
    have hBx : Below w6.heap.size w6 (w6.alloc (.cells #[.pointer none, .slice (some ⟨g5, 0, none⟩) n c5, .map (some w5.heap.size), .int .i64 0, .int .i64 fu, .bool ou] 50)) := (Below.refl _ _).alloc (Nat.le_refl _) _
    have hsx : (w6.alloc (.cells #[.pointer none, .slice (some ⟨g5, 0, none⟩) n c5, .map (some w5.heap.size), .int .i64 0, .int .i64 fu, .bool ou] 50)).heap.size = w6.heap.size + 1 := by simp
    have hg5' : w.heap.size ≤ g5 := hg5
    refine ⟨w6.heap.size, rfl, g5, c5, w5.heap.size, by rw [← hn.out, ← hfu.out, ← hou.out]; exact heap_alloc_new w6 _, by rw [← hn.out]; exact hc5, hg5', by omega, hs5, by omega, by omega, by omega, by omega, by omega, by omega, fun i hi => ?_, ?_, ownsMap_keep ho6 (hBx.block _ hm6), step_trans hB6w hBx⟩
    · rw [← hn.out] at hi
      exact rangeAt_keep (rangeAt_keep (hr5 i hi) (hB6.block g5 hl5)) (hBx.block g5 (by omega))
    · rw [← hn.out]
      exact there_keep (there_keep ht5 (hB6.block g5 hl5)) (hBx.block g5 (by omega))
  case rest =>
    obtain ⟨B, rfl, g', c', m', hh, hcc, hg1, hg2, hm1, hm2, hb1, hb2, hbg, hbm, hgm, hrr, htt, hoo, hBB⟩ := hcut
    have hhead : BlkR 50 wc B [.pointer none, .slice (some ⟨g', 0, none⟩) S.n c', .map (some m'), .int .i64 0, .int .i64 S.fuseI, .bool S.out] := hh
    have y0 := hhead.cell (k := 0) rfl
    have f0 := hhead.frozen 0
    have h1 := hhead.set_ 0 (.pointer (some ⟨B, 0, none⟩))
    have B1 : Below w.heap.size w (wc.setCell ⟨B, 0, none⟩ (.pointer (some ⟨B, 0, none⟩))) := hBB.setCell (p := ⟨B, 0, none⟩) hb1 _
    have B1d := B1.drew
    have y3 : (wc.setCell ⟨B, 0, none⟩ (.pointer (some ⟨B, 0, none⟩))).drew.cell? ⟨B, 3, none⟩ = some (.int .i64 0) := h1.cell (k := 3) rfl
    have f3 : (wc.setCell ⟨B, 0, none⟩ (.pointer (some ⟨B, 0, none⟩))).drew.frozen? ⟨B, 3, none⟩ = false := h1.frozen 3
    have z4 := atomStore _ B 0 (S.ops : Int) y3 f3
    have hc3 : ∀ w', Below w.heap.size w w' → w'.cell? ⟨b, 3, none⟩ = some (.int .i64 (S.ops : Int)) := fun w' hB => (HL.out.step hB).cell3
    obtain ⟨op, hop⟩ : ∃ x, x = S.ops := ⟨_, rfl⟩
    rw [← hop] at z4 hc3 z3
    have hb2' := hb2
    have HC := Lib.hid (And.intro hcc (And.intro hg1 (And.intro hg2 (And.intro hm1 (And.intro hm2 (And.intro hb1 (And.intro hb2 (And.intro hbg (And.intro hbm (And.intro hgm (And.intro hrr (And.intro htt (And.intro hoo (And.intro hBB (And.intro h1 hop)))))))))))))))
    replace hc3 := Lib.hid hc3
    have hb1' := Lib.hid hb1
    clear hh hhead hcc hg1 hg2 hm1 hm2 hb1 hb2 hbg hbm hgm hrr htt hoo hBB h1 B1 hop z1 z2 zm hS
    go_wp2
    go_region_held3 (fun w' => w'.cell? ⟨b, 3, none⟩ = some (.int .i64 (op : Int))) (first | exact hc3.out _ (by assumption) | exact hc3.out _ (B1d.setCell (p := ⟨B, 3, none⟩) hb1'.out _)) (first
      | (go_at_call 35; refine (z3 _ B1d).mono ?_; (rintro e w8 ⟨rfl, rfl⟩))
      | (go_at_call 34; refine z4.mono ?_; (rintro e w8 ⟨rfl, rfl⟩)))
    go_wp2
    go_ret
    obtain ⟨hcc, hg1, hg2, hm1, hm2, hb1, hb2, hbg, hbm, hgm, hrr, htt, hoo, hBB, h1, rfl⟩ := HC.out
    have h3 : BlkR 50 ((wc.setCell ⟨B, 0, none⟩ (.pointer (some ⟨B, 0, none⟩))).setCell ⟨B, 3, none⟩ (.int .i64 (S.ops : Int))).drew B [.pointer (some ⟨B, 0, none⟩), .slice (some ⟨g', 0, none⟩) S.n c', .map (some m'), .int .i64 (S.ops : Int), .int .i64 S.fuseI, .bool S.out] := h1.set_ 3 (.int .i64 (S.ops : Int))
    have ko : ∀ j, j ≠ B → ((wc.setCell ⟨B, 0, none⟩ (.pointer (some ⟨B, 0, none⟩))).setCell ⟨B, 3, none⟩ (.int .i64 (S.ops : Int))).drew.heap[j]? = wc.heap[j]? := fun j hj =>
      (Below.heap_setCell _ ⟨B, 3, none⟩ _ j hj).trans (Below.heap_setCell wc ⟨B, 0, none⟩ _ j hj)
    have ks : ((wc.setCell ⟨B, 0, none⟩ (.pointer (some ⟨B, 0, none⟩))).setCell ⟨B, 3, none⟩ (.int .i64 (S.ops : Int))).drew.heap.size = wc.heap.size := by simp [World.setCell]
    exact ⟨B, fun k => k = B ∨ k = g' ∨ k = m', rfl, ⟨g', c', m', nn, D, HL.out.ok, HL.out.left, h3, hcc, .inl rfl, .inr (.inl rfl), .inr (.inr rfl), hbg, hbm, hgm, fun k hk => by rw [ks]; rcases hk with rfl | rfl | rfl <;> assumption, fun i hi => rangeAt_keep (hrr i hi) (ko g' hbg.symm), there_keep htt (ko g' hbg.symm), ownsMap_keep hoo (ko m' hbm.symm), HL.out.few, HL.out.loose⟩, fun k hk => by rcases hk with rfl | rfl | rfl <;> assumption, ((hBB.setCell (p := ⟨B, 0, none⟩) hb1 _).setCell (p := ⟨B, 3, none⟩) hb1 _).drew⟩
end Go.Proofs.Ytmkibkafccgmgaa
