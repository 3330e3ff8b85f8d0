/-
  The document's own net: Look, Deliver, Drop. Conditions: how many were lost is a number far from the greatest.
-/
import Derived.Test.YtplfhlmipdlmnaaNtRef
namespace Go.Proofs.Ytplfhlmipdlmnaa
open Go.RowKit Nt

section
variable {w w' w7 : World} {b : Nat} {F G : Nat → Prop} {s s2 : N} {v : Value} {ms : List PkM} {m : PkM}
/-- the net's row is another one now -/
theorem RfAt.setRow (h : RfAt w b F s) (fr : Frame F w w7) {v7 : Value} {ms' : List PkM} (own : OwnK 48 3 w7 0 v7 ms'.length (ms'.flatMap pkCells)) (hrow : ∀ j, v7.ownBlock = some j → F j ∨ w.heap.size ≤ j)
    (hbyt : ∀ m ∈ ms', BytesAt w7 w7.heap.size m.A m.p.b ∧ m.p.b.length ≤ m.c ∧ ∀ ad, m.A = some ad → m.p.b ≠ [] → (F ad.block ∨ w.heap.size ≤ ad.block) ∧ v7.ownBlock ≠ some ad.block) (ok : s2.Ok) (hs2 : { s with way := ms'.map (·.p) } = s2) : RfTo w b F s2 (w7.setCell ⟨b, 0, none⟩ v7) := by
  obtain ⟨v, ms, r, hw, hms⟩ := h.mem
  have hb := h.blt
  have hin := h.in_
  subst hs2
  have hz : (w7.setCell ⟨b, 0, none⟩ v7).heap.size = w7.heap.size := by simp [World.setCell]
  have r3 : BlkR 30 w7 b (rfCells s.down v s.lost) := (fr.block b hb hin).trans r
  have r4 := r3.set_ 0 v7
  rw [rf_set0] at r4
  have hv1 : v7.ownBlock ≠ some b := fun e => (hrow b e).elim hin fun x => by omega
  have fb : Frame (fun j => j = b) w7 (w7.setCell ⟨b, 0, none⟩ v7) := (Frame.refl _ w7).setAt ⟨b, 0, none⟩ _ rfl
  refine ⟨fun j => F j ∨ (w.heap.size ≤ j ∧ j < w7.heap.size), ⟨⟨v7, ms', r4, ⟨?_, fun j hj => ?_, fun q hq => ?_⟩, rfl⟩, ?_, fun j hj => ?_, ok⟩, fun j hj => hj.imp id And.left, (fr.mono fun j e => Or.inr e).setAt ⟨b, 0, none⟩ _ (.inl rfl)⟩
  · exact own.frame fun j hj => Below.heap_setCell w7 ⟨b, 0, none⟩ v7 j fun e => hv1 (by rw [hj, e])
  · exact (hrow j hj).imp id fun x => ⟨x, (own.lt j hj).2⟩
  · obtain ⟨g1, g2, g3⟩ := hbyt q hq
    refine ⟨?_, g2, fun ad e hne => ⟨(g3 ad e hne).1.imp id fun x => ⟨x, ?_⟩, (g3 ad e hne).2⟩⟩
    · by_cases hne : q.p.b = []
      · rw [hne]; exact bytes_nil
      · exact fb.bytes g1 fun ad e x => by
          rcases (g3 ad e hne).1 with y | y
          · exact hin (x ▸ y)
          · omega
    · obtain ⟨ad', e', hl', _⟩ := g1 hne
      rw [e] at e'; cases e'
      exact hl'
  · exact fun e => e.elim hin fun x => by omega
  · rw [hz]
    have := fr.size
    rcases hj with hj | hj
    · have := h.lt j hj; omega
    · exact hj.2
/-- what Look tells: a datagram, its bytes the net's own -/
def RfTell (F : Nat → Prop) (p : Pk) (E : Int) (X : World → Prop) (e : Ending) (w' : World) : Prop :=
  ∃ A c, e = .returned (.tuple #[.agg (pkCells ⟨p, A, c⟩).toArray, .int .i64 E]) ∧ BytesAt w' w'.heap.size A p.b ∧ p.b.length ≤ c ∧ (∀ ad, A = some ad → p.b ≠ [] → F ad.block) ∧ X w'
/-- a block of the net's, and not its row's -/
def RfFar (w : World) (b : Nat) (F : Nat → Prop) (j : Nat) : Prop := F j ∧ ∀ v, w.cell? ⟨b, 0, none⟩ = some v → v.ownBlock ≠ some j
set_option maxRecDepth 100000 in
theorem rfLook_no (h : RfAt w b F s) (i : Int) (hi : s.has i = false) : Calls Try.prog 30 #[.pointer (some ⟨b, 0, none⟩), .int .i64 i] w fun e w' => e = .returned (.tuple #[.agg pkZ.toArray, .int .i64 5]) ∧ Below w.heap.size w w' := by
  obtain ⟨⟨A, c, c0, _⟩, _⟩ := h.cells
  have hb := h.blt
  have hno : ¬ (0 ≤ i ∧ i < s.way.length) := fun x => by rw [has_iff.2 x] at hi; cases hi
  obtain ⟨n, hn⟩ : ∃ n, n = s.way.length := ⟨_, rfl⟩
  rw [← hn] at c0 hno
  have K := Lib.hid fun w1 (B : Below w.heap.size w w1) => (B.cell (p := ⟨b, 0, none⟩) hb).trans c0
  clear h hi hn hb
  by_cases h0 : i < 0
  · clear hno c0
    go_enter Try.func30, Try.ntmps30
    go_wp2_with (first
      | ((with_reducible refine atWorld w ?_); refine wpList_allocRow (w := w) info_pk rfl rfl ?_; (intro w1 b1 B1 s1; have b1 := Lib.hid b1; replace s1 := Lib.hid s1))
      | ((with_reducible refine atWorld w1 ?_); refine wpList_storeRow (w := w1) info_pk rfl (.tmp 4) (.tmp 17) rfl w.heap.size pkZ pkZ rfl rfl rfl rfl pkZ_one b1.out ?_; (intro w9 b9 B9 s9 k9; have b9 := Lib.hid b9; replace s9 := Lib.hid s9)))
    have b9 := b9.out
    exact bodyPost_ret (w := w9) (results_cell2 Try.results30 _ _ _ _ _ _ rfl rfl (loadRow info_pk (by rfl) b9)) rfl ⟨rfl, B1.trans B9⟩
  · have h1 : ¬ i < (n : Int) := fun x => hno ⟨by omega, x⟩
    have h2 : (n : Int) ≤ i := by omega
    clear hno c0
    go_enter Try.func30, Try.ntmps30
    go_wp2_with (first
      | ((with_reducible refine atWorld w ?_); refine wpList_allocRow (w := w) info_pk rfl rfl ?_; (intro w1 b1 B1 s1; have x1 := K.out w1 B1; have b1 := Lib.hid b1; replace s1 := Lib.hid s1))
      | ((with_reducible refine atWorld w1 ?_); refine wpList_storeRow (w := w1) info_pk rfl (.tmp 4) (.tmp 17) rfl w.heap.size pkZ pkZ rfl rfl rfl rfl pkZ_one b1.out ?_; (intro w9 b9 B9 s9 k9; have b9 := Lib.hid b9; replace s9 := Lib.hid s9)))
    have b9 := b9.out
    exact bodyPost_ret (w := w9) (results_cell2 Try.results30 _ _ _ _ _ _ rfl rfl (loadRow info_pk (by rfl) b9)) rfl ⟨rfl, B1.trans B9⟩
theorem rf_at (h : RfAt w b F s) {k : Nat} {p : Pk} (hk : s.way[k]? = some p) : ∃ ms m g c, ms[k]? = some m ∧ m.p = p ∧ BlkR 30 w b (rfCells s.down (.slice (some ⟨g, 0, none⟩) ms.length c) s.lost) ∧ WayAt F w (.slice (some ⟨g, 0, none⟩) ms.length c) ms ∧ ms.map (·.p) = s.way ∧ w.rangeAt g (k * 3) (pkCells m) ∧ F g ∧ ms.length = s.way.length ∧ ms.length ≤ c := by
  obtain ⟨v, ms, r, hw, hms⟩ := h.mem
  have hml : ms.length = s.way.length := by rw [← hms, List.length_map]
  obtain ⟨m, hm, hp⟩ : ∃ m, ms[k]? = some m ∧ m.p = p := by
    rw [← hms, List.getElem?_map] at hk
    cases hx : ms[k]? with
    | none => rw [hx] at hk; cases hk
    | some m => rw [hx] at hk; exact ⟨m, rfl, by simpa using hk⟩
  obtain ⟨g, c, rfl, hr, hg⟩ := way_at hw hm
  obtain ⟨A, c', e, hc, _⟩ := way_form hw
  cases e
  exact ⟨ms, m, g, c, hm, hp, r, hw, hms, hr, hg, hml, hc⟩
set_option maxRecDepth 100000 in
set_option maxHeartbeats 1000000 in
theorem rfLook_yes (h : RfAt w b F s) (k : Nat) (p : Pk) (hk : s.way[k]? = some p) : Calls Try.prog 30 #[.pointer (some ⟨b, 0, none⟩), .int .i64 (k : Int)] w (RfTell (RfFar w b F) p 0 (Below w.heap.size w)) := by
  have hklt := (List.getElem?_eq_some_iff.1 hk).1
  obtain ⟨ms, m, g, c, hm, hp, r, hw, hms, hr, hg, hml, hnc⟩ := rf_at h hk
  subst hp
  obtain ⟨gb1, gb2, gb3⟩ := hw.byt m (List.mem_of_getElem? hm)
  have hglt := h.lt g hg
  obtain ⟨c1, _, _⟩ := rf_cells r
  have HB := Lib.hid (And.intro gb1 (And.intro gb2 fun ad e hne => (show RfFar w b F ad.block from ⟨(gb3 ad e hne).1, fun v hv => by rw [c1] at hv; cases hv; exact (gb3 ad e hne).2⟩)))
  have hb := h.blt
  have K1 := Lib.hid (fun w1 (B : Below w.heap.size w w1) => show w1.cell? ⟨b, 0, none⟩ = some (.slice (some ⟨g, 0, none⟩) ms.length c) ∧ w1.rangeAt g (k * 3) (pkCells m) from
    ⟨(B.cell (p := ⟨b, 0, none⟩) hb).trans c1, fun j v hv => (B.cell (p := ⟨g, k * 3 + j, none⟩) hglt).trans (hr j v hv)⟩)
  obtain ⟨n, hn⟩ : ∃ n, n = ms.length := ⟨_, rfl⟩
  rw [← hn] at K1 hnc
  have hkn : k < n := by omega
  have g0 : ¬ (k : Int) < 0 := by omega
  have g1 : ¬ (n : Int) ≤ (k : Int) := by omega
  unfold RfTell
  unfold pkCells at K1 ⊢
  dsimp only
  obtain ⟨M, hM⟩ : ∃ M, M = m.p.b.length := ⟨_, rfl⟩
  rw [← hM] at K1 ⊢
  have HM := Lib.hid hM
  clear hn hml hms hm hk hw hr hb hglt hg c1 r gb1 gb2 gb3 hklt h hM
  go_enter Try.func30, Try.ntmps30
  go_wp2_with (first
    | ((with_reducible refine atWorld w ?_); refine wpList_allocRow (w := w) info_pk rfl rfl ?_; (intro w1 b1 B1 s1; obtain ⟨x1, x2⟩ := K1.out w1 B1; have x2 := Lib.hid x2; have b1 := Lib.hid b1; replace s1 := Lib.hid s1))
    | ((with_reducible refine atWorld w1 ?_); refine wpList_loadRow (w := w1) info_pk rfl (.tmp 23) rfl g (k * 3) [.int .i64 (m.p.fr : Int), .int .i64 (m.p.to : Int), .slice m.A M m.c] rfl rfl x2.out ?_)
    | ((with_reducible refine atWorld w1 ?_); refine wpList_storeRow (w := w1) info_pk rfl (.tmp 4) (.tmp 24) rfl w.heap.size [.int .i64 (m.p.fr : Int), .int .i64 (m.p.to : Int), .slice m.A M m.c] pkZ rfl rfl rfl rfl (pk3_one _ _ _ _ _) b1.out ?_; (intro w9 b9 B9 s9 k9; have b9 := Lib.hid b9; replace s9 := Lib.hid s9)))
  have b9 := b9.out
  exact bodyPost_ret (w := w9) (results_cell2 Try.results30 _ _ _ _ _ _ rfl rfl (loadRow info_pk (by rfl) b9)) rfl ⟨m.A, m.c, rfl, HB.out.1.step (B1.trans B9), by rw [HM.out]; exact HB.out.2.1, HB.out.2.2, B1.trans B9⟩
set_option maxRecDepth 100000 in
set_option maxHeartbeats 1000000 in
theorem rfDeliver_no (h : RfAt w b F s) (i : Int) (hi : s.has i = false) : Calls Try.prog 31 #[.pointer (some ⟨b, 0, none⟩), .int .i64 i] w fun e w' => e = .returned (.tuple #[.agg pkZ.toArray, .int .i64 5]) ∧ Below w.heap.size w w' := by
  have zl := Lib.hid fun w1 (B : Below w.heap.size w w1) => rfLook_no (h.step B) i hi
  clear h hi
  go_enter Try.func31, Try.ntmps31
  go_wp2_with (first
    | ((with_reducible refine atWorld w ?_); refine wpList_allocRow (w := w) info_pk rfl rfl ?_; (intro w1 b1 B1 s1; have z1 := zl.out w1 B1; have b1 := Lib.hid b1; replace s1 := Lib.hid s1))
    | (go_at_call 30; (with_reducible refine z1.mono ?_); (rintro e w2 ⟨rfl, B2⟩))
    | ((with_reducible refine atWorld w2 ?_); refine wpList_allocRow (w := w2) info_pk rfl rfl ?_; (intro w3 b3 B3 s3; have b3 := Lib.hid b3; replace s3 := Lib.hid s3))
    | ((with_reducible refine atWorld w3 ?_); refine wpList_storeRow (w := w3) info_pk rfl (.tmp 6) (.tmp 13) rfl w2.heap.size pkZ pkZ rfl rfl rfl rfl pkZ_one b3.out ?_; (intro w4 b4 B4 s4 k4; have C4 : Below w1.heap.size w1 w4 := step_trans B2 (B3.trans B4); have b0 := Lib.hid (b1.out.below C4 b1.out.lt); have b4 := Lib.hid b4; replace s4 := Lib.hid s4; clear k4))
    | ((with_reducible refine atWorld w4 ?_); refine wpList_loadRow (w := w4) info_pk rfl (.tmp 6) rfl w2.heap.size 0 pkZ rfl rfl (rangeOf b4.out) ?_)
    | ((with_reducible refine atWorld w4 ?_); refine wpList_storeRow (w := w4) info_pk rfl (.tmp 4) (.tmp 17) rfl w.heap.size pkZ pkZ rfl rfl rfl rfl pkZ_one b0.out ?_; (intro w9 b9 B9 s9 k9; have b9 := Lib.hid b9; replace s9 := Lib.hid s9)))
  have b9 := b9.out
  exact bodyPost_ret (w := w9) (results_cell2 Try.results31 _ _ _ _ _ _ rfl rfl (loadRow info_pk (by rfl) b9)) rfl ⟨rfl, (step_trans B1 C4).trans B9⟩
end
end Go.Proofs.Ytplfhlmipdlmnaa
