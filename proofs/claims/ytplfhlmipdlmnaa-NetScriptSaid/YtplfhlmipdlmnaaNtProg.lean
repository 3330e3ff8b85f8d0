/-
  A net's calls that turn it. Conditions: the net was made; how many were lost is a number far from the greatest.
-/
import Derived.Test.YtplfhlmipdlmnaaNtLib
import Derived.Test.YtplfhlmipdlmnaaRegTail
import Derived.Deep.CutRange
namespace Go.Proofs.Ytplfhlmipdlmnaa
open Go.RowKit Nt

/-- what a call leaves: the net is s now; of what is not its own all stays -/
def Turned (w : World) (b : Nat) (F : Nat → Prop) (s : N) (w' : World) : Prop := ∃ F', NetAt w' b F' s ∧ (∀ j, F' j → F j ∨ w.heap.size ≤ j) ∧ Frame (fun j => j = b ∨ F j) w w'
theorem flat_one (ms : List PkM) : ∀ v ∈ ms.flatMap pkCells, v.oneCell' = true := flk_one pk_one ms
section
variable {w : World} {b : Nat} {F : Nat → Prop} {s : N}
set_option maxRecDepth 100000 in
set_option maxHeartbeats 2000000 in
theorem join_any (h : NetAt w b F s) (hf : s.way.length ≤ 4999) (m : PkM) (hp : m.p.Ok) (hf2 : s.way.length ≠ 4096) (hA : BytesAt w w.heap.size m.A m.p.b) (hc : m.p.b.length ≤ m.c) (hfar : ∀ ad, m.A = some ad → m.p.b ≠ [] → ad.block ≠ b ∧ ¬ F ad.block) :
    Calls Try.prog 40 #[.pointer (some ⟨b, 0, none⟩), .agg (pkCells m).toArray] w fun e w' => e = .returned (.tuple #[]) ∧ ∃ F', NetAt w' b F' (s.push m.p) ∧ (∀ j, F' j → F j ∨ (∃ ad, m.A = some ad ∧ m.p.b ≠ [] ∧ ad.block = j) ∨ w.heap.size ≤ j) ∧ Frame (fun j => j = b ∨ F j) w w' := by
  obtain ⟨v, ms, r, hw, hms⟩ := h.mem
  have hb := h.blt
  have hok := h.ok
  have hlt := h.lt
  have hin := h.in_
  obtain ⟨A, c, rfl, hnc, hcm⟩ := way_form hw
  have hml : ms.length = s.way.length := by rw [← hms, List.length_map]
  obtain ⟨n, hn⟩ : ∃ n, n = ms.length := ⟨_, rfl⟩
  -- the box, and the world that the region draws
  obtain ⟨w1, hw1⟩ : ∃ w1, w1 = w.alloc (.cells (pkCells m).toArray 48) := ⟨_, rfl⟩
  have B1 : Below w.heap.size w w1 := by rw [hw1]; exact step_alloc (Below.refl _ w) _
  have s1 : w1.heap.size = w.heap.size + 1 := by rw [hw1]; simp
  obtain ⟨wd, hwd⟩ : ∃ wd, wd = w1.drew := ⟨_, rfl⟩
  have D1 : Below w.heap.size w wd := by rw [hwd]; exact B1.drew
  have sd : wd.heap.size = w.heap.size + 1 := by rw [hwd]; exact s1
  have bx : BlkR 48 wd w.heap.size (pkCells m) := by rw [hwd, hw1]; exact BlkR.new w _ _
  have rd : BlkR 45 wd b (ntCells b s.down (.slice A ms.length c) s.lost) := r.below D1 hb
  obtain ⟨c0, c1, c2, _⟩ := net_cells rd
  rw [← hn] at c1
  -- the slice that is handed in
  obtain ⟨w2, hw2⟩ : ∃ w2, w2 = wd.alloc (.cells (pkCells m).toArray 48) := ⟨_, rfl⟩
  have D2 : Below w.heap.size w w2 := by rw [hw2]; exact step_alloc D1 _
  have s2 : w2.heap.size = w.heap.size + 2 := by rw [hw2]; simp; omega
  have b2 : BlkR 48 w2 wd.heap.size (pkCells m) := by rw [hw2]; exact BlkR.new wd _ _
  have hw2a : WayAt F w2 (.slice A ms.length c) ms := hw.frame (X := fun _ => False) (Frame.of_below D2) fun _ _ e => e
  have zi := insert_end w2 A n c (ms.flatMap pkCells) (pkCells m) (by rw [hn]; exact hw2a.own) (by omega) wd.heap.size b2 rfl (pk_one m)
  have r2 : BlkR 45 w2 b (ntCells b s.down (.slice A ms.length c) s.lost) := r.below D2 hb
  have bx2 : BlkR 48 w2 w.heap.size (pkCells m) := bx.below (by rw [hw2]; exact step_alloc (Below.refl _ wd) _) bx.lt
  have POST : Hid (∀ v' w3, OwnK 48 3 w3 0 v' (n + 1) (ms.flatMap pkCells ++ pkCells m) → w2.grownBy w3 (Value.slice A n c).ownBlock → (v'.ownBlock = (Value.slice A n c).ownBlock ∨ v'.ownBlock = some w2.heap.size) →
      w3.frozen? ⟨b, 10, none⟩ = false ∧ (w3.cell? ⟨b, 10, none⟩ = some (.slice A n c) ∧ w3.cell? ⟨w.heap.size, 0, none⟩ = some (.int .i64 (m.p.fr : Int)) ∧ w3.cell? ⟨w.heap.size, 1, none⟩ = some (.int .i64 (m.p.to : Int)) ∧ w3.cell? ⟨w.heap.size, 2, none⟩ = some (.slice m.A m.p.b.length m.c)) ∧ ∃ F', NetAt (w3.setCell ⟨b, 10, none⟩ v') b F' (s.push m.p) ∧ (∀ j, F' j → F j ∨ (∃ ad, m.A = some ad ∧ m.p.b ≠ [] ∧ ad.block = j) ∨ w.heap.size ≤ j) ∧ Frame (fun j => j = b ∨ F j) w (w3.setCell ⟨b, 10, none⟩ v')) := Lib.hid fun v' w3 k1 k2 k3 => by
    have hbrow : ∀ j, (Value.slice A n c).ownBlock = some j → F j := fun j hj => hw.row j (by rw [← hn]; exact hj)
    have fr3 : Frame F w2 w3 := ⟨k2.os, k2.tape, k2.output, k2.size, fun k hk hkF => k2.block k hk fun e => hkF (hbrow k e.symm)⟩
    have fr : Frame F w w3 := (Frame.of_below (F := F) D2).trans fr3 fun j e => .inl e
    have r3 : BlkR 45 w3 b (ntCells b s.down (.slice A ms.length c) s.lost) := (fr.block b hb hin).trans r
    have hv1 : v'.ownBlock ≠ some b := fun e => by
      rcases k3 with k3 | k3
      · exact hin (hbrow b (by rw [← k3]; exact e))
      · rw [k3] at e; injection e with e; omega
    have r4 : BlkR 45 (w3.setCell ⟨b, 10, none⟩ v') b (ntCells b s.down v' s.lost) := by
      have := r3.set_ 10 v'
      have e : (ntCells b s.down (.slice A ms.length c) s.lost).set 10 v' = ntCells b s.down v' s.lost := by
        unfold ntCells
        rw [List.set_cons_succ, List.set_append_right _ _ (by rw [dnC_len]; decide), dnC_len]; rfl
      rwa [e] at this
    have bx3 : BlkR 48 w3 w.heap.size (pkCells m) := (fr3.block _ (by omega) fun e => by have := hlt _ e; omega).trans bx2
    refine ⟨r3.frozen 10, ⟨by rw [hn]; exact (net_cells r3).2.1, bx3.cell (k := 0) rfl, bx3.cell (k := 1) rfl, bx3.cell (k := 2) rfl⟩, fun j => F j ∨ (∃ ad, m.A = some ad ∧ m.p.b ≠ [] ∧ ad.block = j) ∨ (w.heap.size ≤ j ∧ j < w3.heap.size), ⟨⟨v', ms ++ [m], r4, ⟨?_, fun j hj => ?_, fun q hq => ?_⟩, by rw [List.map_append, hms]; rfl⟩, ?_, fun j hj => ?_, push_ok hok hp hf2⟩, fun j hj => hj.imp id (Or.imp id fun x => x.1), ?_⟩
    · rw [List.length_append, List.flatMap_append, List.length_singleton, ← hn]
      refine OwnK.frame (w := w3) (by simpa using k1) fun j hj => ?_
      exact Below.heap_setCell w3 ⟨b, 10, none⟩ v' j fun e => hv1 (by rw [hj, e])
    · rcases k3 with k3 | k3
      · exact .inl (hbrow j (by rw [← k3]; exact hj))
      · rw [k3] at hj; injection hj with hj
        have := (k1.lt j (by rw [k3, hj])).2
        exact .inr (.inr ⟨by omega, this⟩)
    · -- the bytes
      have key : BytesAt w w.heap.size q.A q.p.b ∧ q.p.b.length ≤ q.c ∧ (∀ ad, q.A = some ad → q.p.b ≠ [] → ad.block ≠ b ∧ (F ad.block ∨ (∃ ad', m.A = some ad' ∧ m.p.b ≠ [] ∧ ad'.block = ad.block)) ∧ (Value.slice A n c).ownBlock ≠ some ad.block) := by
        rcases List.mem_append.1 hq with hq | hq
        · obtain ⟨g1, g2, g3⟩ := hw.byt q hq
          exact ⟨g1, g2, fun ad e hne => ⟨fun e2 => hin (e2 ▸ (g3 ad e hne).1), .inl (g3 ad e hne).1, by rw [hn]; exact (g3 ad e hne).2⟩⟩
        · rw [List.mem_singleton.1 hq]
          exact ⟨hA, hc, fun ad e hne => ⟨(hfar ad e hne).1, .inr ⟨ad, e, hne, rfl⟩, fun e2 => (hfar ad e hne).2 (hbrow _ e2)⟩⟩
      obtain ⟨g1, g2, g3⟩ := key
      have fx : Frame (fun j => j = b ∨ (Value.slice A n c).ownBlock = some j) w (w3.setCell ⟨b, 10, none⟩ v') := by
        have f3 : Frame (fun j => j = b ∨ (Value.slice A n c).ownBlock = some j) w2 w3 := ⟨k2.os, k2.tape, k2.output, k2.size, fun k hk hkF => k2.block k hk fun e => hkF (.inr e.symm)⟩
        exact ((Frame.of_below (F := fun j => j = b ∨ (Value.slice A n c).ownBlock = some j) D2).trans f3 fun j e => .inl e).setAt ⟨b, 10, none⟩ v' (.inl rfl)
      refine ⟨?_, g2, fun ad e hne => ⟨(g3 ad e hne).2.1.imp id fun x => .inl x, fun e2 => ?_⟩⟩
      · by_cases hne : q.p.b = []
        · rw [hne]; exact bytes_nil
        · exact fx.bytes g1 fun ad e x => x.elim (g3 ad e hne).1 (g3 ad e hne).2.2
      · rcases k3 with k3 | k3
        · exact (g3 ad e hne).2.2 (by rw [← k3]; exact e2)
        · rw [k3] at e2; injection e2 with e2
          obtain ⟨ad', e', hl', _⟩ := g1 hne
          rw [e] at e'; cases e'
          omega
    · intro hx
      rcases hx with hx | ⟨ad, e, hne, hx⟩ | hx
      · exact hin hx
      · exact (hfar ad e hne).1 hx
      · omega
    · have hz : (w3.setCell ⟨b, 10, none⟩ v').heap.size = w3.heap.size := by simp [World.setCell]
      have h3 := fr.size
      rw [hz]
      rcases hj with hj | ⟨ad, e, hne, hj⟩ | hj
      · have := hlt j hj; omega
      · obtain ⟨ad', e', hl', _⟩ := hA hne
        rw [e] at e'; cases e'
        omega
      · exact hj.2
    · exact (fr.mono fun j e => Or.inr e).setAt ⟨b, 10, none⟩ v' (.inl rfl)
  have x0 := bx.cell (k := 0) rfl
  have x1 := bx.cell (k := 1) rfl
  have x2 := bx.cell (k := 2) rfl
  clear hw2a r2 b2 bx bx2 rd r hw hms hb hok hlt hin hnc hcm hml hn B1 D1 D2 s1 s2 h hA hc hfar hp hf hf2
  rw [show wd.heap.size = w1.heap.size by rw [hwd]; rfl] at zi
  have t1 : w2.cell? ⟨b, 10, none⟩ = some (.slice A n c) := by rw [hw2]; exact (World.cell?_alloc_some wd _ _ (by rw [c1]; rfl)).trans c1
  obtain ⟨FIN, hFIN⟩ : ∃ X : Option Addr → Nat → World → Prop, X = fun A' c' w3 => ∃ F', NetAt (w3.setCell ⟨b, 10, none⟩ (.slice A' (n + 1) c')) b F' (s.push m.p) ∧ (∀ j, F' j → F j ∨ (∃ ad, m.A = some ad ∧ m.p.b ≠ [] ∧ ad.block = j) ∨ w.heap.size ≤ j) ∧ Frame (fun j => j = b ∨ F j) w (w3.setCell ⟨b, 10, none⟩ (.slice A' (n + 1) c')) := ⟨_, rfl⟩
  obtain ⟨W2, hW2⟩ : ∃ W2, W2 = (w1.alloc (.cells #[.int .i64 (m.p.fr : Int), .int .i64 (m.p.to : Int), .slice m.A m.p.b.length m.c] 48)).drew := ⟨_, rfl⟩
  have eW : w2 = W2 := by rw [hw2, hwd, hW2]; rfl
  have zj : Calls Try.prog 48 #[.slice A n c, .int .i64 (n : Int), .slice (some ⟨w1.heap.size, 0, none⟩) 1 1] W2 fun e w3 => ∃ A' c', e = .returned (.slice A' (n + 1) c') ∧ w3.frozen? ⟨b, 10, none⟩ = false ∧ w3.cell? ⟨b, 10, none⟩ = some (.slice A n c) ∧ FIN A' c' w3 := by
    rw [← eW]
    refine zi.mono ?_
    rintro e w3 ⟨v', rfl, k1, k2, k3⟩
    obtain ⟨A', c', rfl, _⟩ := k1.form
    obtain ⟨q1, ⟨z1, _⟩, q3⟩ := POST.out _ w3 k1 k2 k3
    exact ⟨A', c', rfl, q1, z1, by rw [hFIN]; exact q3⟩
  have u1 : w1.cell? ⟨b, 10, none⟩ = some (.slice A n c) := by rw [hwd] at c1; exact c1
  have u2 : w1.cell? ⟨w.heap.size, 0, none⟩ = some (.int .i64 (m.p.fr : Int)) := by rw [hwd] at x0; exact x0
  have u3 : w1.cell? ⟨w.heap.size, 1, none⟩ = some (.int .i64 (m.p.to : Int)) := by rw [hwd] at x1; exact x1
  have u4 : w1.cell? ⟨w.heap.size, 2, none⟩ = some (.slice m.A m.p.b.length m.c) := by rw [hwd] at x2; exact x2
  rw [eW, hW2] at t1
  rw [hW2] at zj
  have HF := Lib.hid hFIN
  clear POST zi c0 c1 c2 x0 x1 x2 hW2 eW hw2 hFIN hwd sd
  go_enter Try.func40, Try.ntmps40
  go_wp2
  rw [← hw1]
  clear hw1
  go_region_with (go_at_call 48; (with_reducible refine zj.mono ?_); (rintro e w3 ⟨A', c', rfl, q1, z1, q3⟩))
  all_goals (go_wp2; go_end0)
  all_goals exact ⟨rfl, by rw [HF.out] at q3; exact q3⟩
end
end Go.Proofs.Ytplfhlmipdlmnaa
