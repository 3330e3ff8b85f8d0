/-
  The document's own disk (tandemref04): Clone. Conditions: none.
-/
import Derived.Test.YtmkibkafccgmgaaMirNew
import Derived.Deep.RegionHeld3
import Derived.Deep.CutRange
namespace Go.Proofs.Ytmkibkafccgmgaa
open Go.RowKit

def MClonePost (S : DS) (w : World) (e : Ending) (w' : World) : Prop :=
  ∃ b' F', e = .returned (.pointer (some ⟨b', 0, none⟩)) ∧ Mir w' b' F' S ∧ (∀ k, F' k → w.heap.size ≤ k) ∧ Below w.heap.size w w'
theorem RowP.of_own {w : World} {b base : Nat} {v0 v1 v : Value} {l : List UInt8} (ho : OwnB w base v l) (hl : l.length = 64) (hb : b < base) (h0 : ∀ k, v0.ownBlock = some k → k < base) (h1 : ∀ k, v1.ownBlock = some k → k < base) : RowP w b v0 v1 v l := by
  obtain ⟨g, cap, hv, hg, hlt⟩ := World.ownsRow.form ho (by omega)
  obtain ⟨A', c', hv', hle⟩ := ho.form
  subst hv
  have hcc : 64 ≤ cap := by
    injection hv' with _ _ e
    omega
  clear hv'
  rw [hl] at ho ⊢
  exact ⟨g, cap, rfl, ⟨by omega, hcc⟩, hlt, fun e => by have := h0 _ e; omega, fun e => by have := h1 _ e; omega, ho.bytes⟩
set_option maxHeartbeats 4000000 in
set_option maxRecDepth 100000 in
theorem mClone (w : World) (b : Nat) (F : Nat → Prop) (S : DS) (h : Mir w b F S) : Calls Try.prog 14 #[.pointer (some ⟨b, 0, none⟩)] w (MClonePost S w) := by
  obtain ⟨g0, g1, c0, c1, us, vs, hM⟩ := h
  have x2 := hM.cell2
  have x3 := hM.cell3
  have x4 := hM.cell4
  have hc : ∀ w', Below w.heap.size w w' → w'.cell? ⟨b, 2, none⟩ = some (.bool S.out) ∧ w'.cell? ⟨b, 3, none⟩ = some (.int .i64 S.leftI) ∧ w'.cell? ⟨b, 4, none⟩ = some (.int .i64 (S.ops : Int)) := fun w' hB => by
    have h' := hM.step hB
    exact ⟨h'.cell2, h'.cell3, h'.cell4⟩
  have HM := Lib.hid hM
  obtain ⟨ou, hou⟩ : ∃ x, x = S.out := ⟨_, rfl⟩
  obtain ⟨le, hle⟩ : ∃ x, x = S.leftI := ⟨_, rfl⟩
  obtain ⟨op, hop⟩ : ∃ x, x = S.ops := ⟨_, rfl⟩
  rw [← hou, ← hle, ← hop] at hc
  rw [← hou] at x2
  rw [← hle] at x3
  rw [← hop] at x4
  have HE := Lib.hid (And.intro hou (And.intro hle hop))
  have HC := Lib.hid hc
  obtain ⟨n, hn⟩ : ∃ n, n = S.n := ⟨_, rfl⟩
  have hn2 : n ≤ 1024 := Nat.le_trans (Nat.le_of_eq hn) hM.ok.n2
  have HN := Lib.hid hn
  have hB0 : Below w.heap.size w w.drew := (Below.refl _ _).drew
  clear hM hc hou hle hop hn
  have q1 := nil_neq
  have q2 := some_neq
  go_enter Try.func14, Try.ntmps14
  go_wp2
  go_region_held3 (fun w' => w'.cell? ⟨b, 2, none⟩ = some (.bool ou) ∧ w'.cell? ⟨b, 3, none⟩ = some (.int .i64 le) ∧ w'.cell? ⟨b, 4, none⟩ = some (.int .i64 (op : Int))) (first | exact HC.out _ (by assumption) | exact HC.out _ (step_alloc (by assumption) _)) (fail)
  go_wp2
  go_loopw [4] (fun ix wr => ∃ i v0 v1 xs ys, i ≤ n ∧ ix = .int .i64 ((i : Nat) : Int) ∧ Part wr w.heap.size S i i v0 v1 xs ys ∧ Below w.heap.size w wr) (fun ix _ => n - (intOf ix).toNat)
  case atStart =>
    refine ⟨0, .slice none 0 0, .slice none 0 0, [], [], Nat.zero_le _, rfl, ⟨?_, OwnR.nil_, OwnR.nil_, rfl, rfl, fun k hk => by (cases hk), fun j hj => by omega, fun j hj => by omega, fun j l hj => by omega⟩, ((Below.refl _ _).alloc (Nat.le_refl _) _).drew⟩
    rw [← HE.out.1, ← HE.out.2.1, ← HE.out.2.2]
    exact BlkR.new w _ _
  case round =>
    obtain ⟨i, v0, v1, xs, ys, hi, rfl, hp, hB⟩ := hrel
    by_cases hlt : i < n
    · have hin : i < S.n := by rw [← HN.out]; exact hlt
      have hm := HM.out.step hB
      have y0 := hm.cell0
      have y1 := hm.cell1
      rw [← HN.out] at y0 y1
      obtain ⟨u, hu, gf, cf, rfl, hgf, _, _, _, hbf⟩ := hm.fr i hin
      have hzf := hm.firm.cell hu
      have hf64 := hm.ok.firm i hin
      have hbw : w.heap.size < wr.heap.size := hp.head.lt
      have e0 : wr.cell? ⟨w.heap.size, 0, none⟩ = some v0 := hp.head.cell rfl
      have hl0 := hp.l0
      have hl1 := hp.l1
      have cd : Below wr.heap.size wr (wr.drew.alloc (.cells #[] 5)) := (Below.refl _ _).drew.alloc (Nat.le_refl _) _
      have h0b : OwnB (wr.drew.alloc (.cells #[] 5)) wr.heap.size (.slice (some ⟨wr.heap.size, 0, none⟩) 0 0) [] := noBytes wr.drew
      have hrf : BytesAt (wr.drew.alloc (.cells #[] 5)) wr.heap.size (some ⟨gf, 0, none⟩) (S.firm i) := hbf.below cd
      have ky : ∀ w', Below wr.heap.size wr w' → w'.cell? ⟨b, 0, none⟩ = some (.slice (some ⟨g0, 0, none⟩) n c0) ∧ w'.cell? ⟨g0, i, none⟩ = some (.slice (some ⟨gf, 0, none⟩) 64 cf) ∧ w'.cell? ⟨w.heap.size, 0, none⟩ = some v0 := fun w' hB' => ⟨(hB'.cell (hm.lt b hm.Fb)).trans y0, (hB'.cell (hm.lt g0 hm.F0)).trans hzf, (hB'.cell hbw).trans e0⟩
      obtain ⟨ka1, ka2, ka3⟩ := ky _ (Below.refl _ wr).drew
      obtain ⟨kb1, kb2, kb3⟩ := ky _ ((Below.refl wr.heap.size wr).alloc (Nat.le_refl _) (.cells #[] 5))
      obtain ⟨fl, hfl⟩ : ∃ fl, fl = S.firm i := ⟨_, rfl⟩
      rw [← hfl] at hrf hf64
      have HP := Lib.hid (And.intro hp (And.intro hB hfl))
      have HKY := Lib.hid ky
      have H64 := Lib.hid (And.intro hf64 hl0)
      have hbw' := Lib.hid hbw
      clear hbf hfl hf64 ky hgf hu hbw hp hB hl0 hl1 hm
      go_wp2
      go_cut [] from 29 to 46 (fun wx => ∃ v0' xs', Part wx w.heap.size S (i + 1) i v0' v1 xs' ys ∧ Below w.heap.size w wx)
      case first =>
        go_region_law (first
          | (refine step_appendB rfl (.tmp 34) (.tmp 41) 36 rfl rfl wr.heap.size _ [] (by simp [Act.eval]) h0b (some ⟨gf, 0, none⟩) fl 64 cf wr.heap.size (by simp [Act.eval]) H64.out.1 hrf (by simp; have := H64.out.1; omega) (by simp) ?_; (intro v4 w4 ho4 hg4 hat4; rw [List.nil_append] at ho4; obtain ⟨g4, c4, rfl, _, _⟩ := ho4.g64 H64.out.1; have cc4 : Below wr.heap.size wr w4 := cd.grown hg4 (by simp) (fun j hj => (h0b.lt j hj).1); obtain ⟨kc1, kc2, kc3⟩ := HKY.out _ cc4; obtain ⟨kd1, kd2, kd3⟩ := HKY.out _ (cc4.alloc cc4.size (.cells #[Value.slice (some ⟨g4, 0, none⟩) 64 c4] 36)); have hrow4 := RowP.of_own (b := w.heap.size) (v0 := v0) (v1 := v1) ho4 H64.out.1 hbw'.out (fun k hk => (HP.out.1.o0.lt k hk).2) (fun k hk => (HP.out.1.o1.lt k hk).2); have c4' := cc4.alloc cc4.size (.cells #[Value.slice (some ⟨g4, 0, none⟩) 64 c4] 36); have hp4 := HP.out.1.step c4'; have hown4 := hp4.o0; have hat5 := (BlkR.new w4 [Value.slice (some ⟨g4, 0, none⟩) 64 c4] 36).row (ys := [.slice (some ⟨g4, 0, none⟩) 64 c4]) ⟨[], rfl⟩ (Nat.lt_succ_self _); have hrow5 : RowP (w4.alloc (.cells #[Value.slice (some ⟨g4, 0, none⟩) 64 c4] 36)) w.heap.size v0 v1 (.slice (some ⟨g4, 0, none⟩) 64 c4) fl := hrow4.kept (by simp) (fun gx h1 h2 h3 h4 => ⟨((Below.refl w4.heap.size w4).alloc (Nat.le_refl _) (.cells #[Value.slice (some ⟨g4, 0, none⟩) 64 c4] 36)).block gx h2, h3, h4⟩); have hbase5 : w.heap.size + 1 ≤ (w4.alloc (.cells #[Value.slice (some ⟨g4, 0, none⟩) 64 c4] 36)).heap.size := (by have := c4'.size; have := hbw'.out; omega); have e9 : (xs ++ [Value.slice (some ⟨g4, 0, none⟩) 64 c4]).length = i + 1 := (by rw [List.length_append, H64.out.2]; rfl); have H5 := Lib.hid (And.intro hp4 (And.intro hrow5 c4')); clear hrow4 hrow5 hp4 hg4 hat4 ho4 c4'))
          | (refine step_appendR rfl (.tmp 33) (.tmp 43) elRows rfl (w.heap.size + 1) v0 xs (by simp [Act.eval]) hown4 (some ⟨w4.heap.size, 0, none⟩) [.slice (some ⟨g4, 0, none⟩) 64 c4] 1 1 _ (by simp [Act.eval]) rfl hat5 (one_slice _ _ _) (by rw [H64.out.2]; unfold maxLen; simp; omega) (by rw [H64.out.2]; simp; omega) hbase5 ?_; (intro v' w' ho hg hat'; have hp6 := H5.out.1.push0 hg ho hat' (by rw [← HP.out.2.2]; exact H5.out.2.1); obtain ⟨k6, f6, _⟩ := H5.out.1.head0 hg; have hB6 := grown_belowR (step_trans HP.out.2.1 H5.out.2.2) hg (Nat.le_trans (Nat.le_succ _) hbase5) hown4 (Nat.le_succ _); obtain ⟨A', c', rfl, _⟩ := ho.form; rw [e9] at hp6; have H6 := Lib.hid (And.intro hp6 hB6); clear hp6 hB6 ho hg hat')))
        all_goals (go_wp2_with fail; go_meet)
        all_goals exact ⟨_, _, H6.out.1.step (Below.refl _ _), H6.out.2.setCell (p := ⟨w.heap.size, 0, none⟩) (Nat.le_refl _) _⟩
      case rest =>
        obtain ⟨v0', xs', hq, hBq⟩ := hcut
        have hm2 := HM.out.step hBq
        have y1c := hm2.cell1
        rw [← HN.out] at y1c
        have hl1 := hq.l1
        cases hl : S.loose i with
        | none =>
          have hz := hm2.last.cell (hm2.ln i hin hl)
          have e8 : (ys ++ [Value.slice none 0 0]).length = i + 1 := by rw [List.length_append, hl1]; rfl
          have k1 : wc.cell? ⟨w.heap.size, 1, none⟩ = some v1 := hq.head.cell rfl
          have cd9 : Below wc.heap.size wc (wc.alloc (.cells #[Value.slice none 0 0] 36)) := (Below.refl _ _).alloc (Nat.le_refl _) _
          have hq4 := hq.step cd9
          have hr4 := (BlkR.new wc [Value.slice none 0 0] 36).row (ys := [Value.slice none 0 0]) ⟨[], rfl⟩ (Nat.lt_succ_self _)
          have hb4 := hq4.head.lt
          have ho4 := hq4.o1
          have hB4 := Lib.hid (step_trans hBq cd9)
          have hv4 := Lib.hid (show (S.loose i = none ∧ (Value.slice none 0 0 : Value) = .slice none 0 0) ∨ ∃ l, S.loose i = some l ∧ RowP (wc.alloc (.cells #[Value.slice none 0 0] 36)) w.heap.size v0' v1 (Value.slice none 0 0) l from .inl ⟨hl, rfl⟩)
          have hq4 := Lib.hid hq4
          clear hl hm2 hq cd9 hBq
          go_wp2_with (at_builtin; refine wpList_appendR rfl (.tmp 68) (.tmp 70) elRows rfl (w.heap.size + 1) v1 ys rfl ho4 _ [Value.slice none 0 0] 1 1 _ rfl rfl hr4 (one_slice _ _ _) (by rw [hl1]; unfold maxLen; simp; omega) (by rw [hl1]; simp; omega) hb4 ?_; (intro v2 w2 ho2 hg2 hat2; have hp5 := hq4.out.push1 hg2 ho2 hat2 hv4.out; obtain ⟨k5, f5⟩ := hq4.out.head1 hg2; have hB5 := grown_belowR hB4.out hg2 (Nat.le_trans (Nat.le_succ _) hb4) ho4 (Nat.le_succ _); obtain ⟨A2, c2, rfl, _⟩ := ho2.form; rw [e8] at hp5; have hp5 := Lib.hid (And.intro hp5 hB5); clear ho2 hg2 hat2 hB5))
          go_roundw
          case rel => exact ⟨i + 1, _, _, _, _, by omega, by go_num, hp5.out.1, hp5.out.2.setCell (p := ⟨w.heap.size, 1, none⟩) (Nat.le_refl _) _⟩
          case measure => simp [intOf]; omega
        | some l =>
          obtain ⟨v, hv, gl, cl, rfl, hgl, _, _, _, hbl⟩ := hm2.ls i l hl
          have hz := hm2.last.cell hv
          have hl64 := (hm2.ok.loose i l hl).2
          have h0c : OwnB (wc.alloc (.cells #[] 5)) wc.heap.size (.slice (some ⟨wc.heap.size, 0, none⟩) 0 0) [] := noBytes wc
          have cdc : Below wc.heap.size wc (wc.alloc (.cells #[] 5)) := (Below.refl _ _).alloc (Nat.le_refl _) _
          have hrl : BytesAt (wc.alloc (.cells #[] 5)) wc.heap.size (some ⟨gl, 0, none⟩) l := hbl.below cdc
          have kl : ∀ w', Below wc.heap.size wc w' → w'.cell? ⟨b, 1, none⟩ = some (.slice (some ⟨g1, 0, none⟩) n c1) ∧ w'.cell? ⟨g1, i, none⟩ = some (.slice (some ⟨gl, 0, none⟩) 64 cl) := fun w' hB' => ⟨(hB'.cell (hm2.lt b hm2.Fb)).trans y1c, (hB'.cell (hm2.lt g1 hm2.F1)).trans hz⟩
          obtain ⟨kl1, kl2⟩ := kl _ cdc
          have HQ := Lib.hid (And.intro hq hBq)
          have HL := Lib.hid (And.intro hl hl64)
          clear hm2 hv hbl hgl kl hl hl64 hq hBq
          go_wp2_with (first
            | (at_builtin; refine wpList_appendB rfl (.tmp 55) (.tmp 62) 36 rfl rfl wc.heap.size _ [] rfl h0c (some ⟨gl, 0, none⟩) l 64 cl wc.heap.size rfl HL.out.2 hrl (by simp; have := HL.out.2; omega) (by simp) ?_; (intro v5 w5 ho5 hg5 hat5; rw [List.nil_append] at ho5; obtain ⟨g5, c5, rfl, _, _⟩ := ho5.g64 HL.out.2; have cw5 : Below wc.heap.size wc w5 := cdc.grown hg5 (by simp) (fun j hj => (h0c.lt j hj).1); have hq := HQ.out.1.step cw5; have hBq := step_trans HQ.out.2 cw5; have hrow5 := RowP.of_own (b := w.heap.size) (v0 := v0') (v1 := v1) ho5 HL.out.2 HQ.out.1.head.lt (fun k hk => (HQ.out.1.o0.lt k hk).2) (fun k hk => (HQ.out.1.o1.lt k hk).2); have hrow6 : RowP (w5.alloc (.cells #[Value.slice (some ⟨g5, 0, none⟩) 64 c5] 36)) w.heap.size v0' v1 (.slice (some ⟨g5, 0, none⟩) 64 c5) l := hrow5.kept (by simp) (fun gx h1 h2 h3 h4 => ⟨((Below.refl w5.heap.size w5).alloc (Nat.le_refl _) (.cells #[Value.slice (some ⟨g5, 0, none⟩) 64 c5] 36)).block gx h2, h3, h4⟩); have e8 : (ys ++ [Value.slice (some ⟨g5, 0, none⟩) 64 c5]).length = i + 1 := (by rw [List.length_append, hl1]; rfl); have k1 : w5.cell? ⟨w.heap.size, 1, none⟩ = some v1 := hq.head.cell rfl; have cd9 : Below w5.heap.size w5 (w5.alloc (.cells #[Value.slice (some ⟨g5, 0, none⟩) 64 c5] 36)) := (Below.refl _ _).alloc (Nat.le_refl _) _; have hq4 := hq.step cd9; have hr4 := (BlkR.new w5 [Value.slice (some ⟨g5, 0, none⟩) 64 c5] 36).row (ys := [Value.slice (some ⟨g5, 0, none⟩) 64 c5]) ⟨[], rfl⟩ (Nat.lt_succ_self _); have hb4 := hq4.head.lt; have ho4 := hq4.o1; have hB4 := Lib.hid (step_trans hBq cd9); have hv4 := Lib.hid (show (S.loose i = none ∧ (Value.slice (some ⟨g5, 0, none⟩) 64 c5 : Value) = .slice none 0 0) ∨ ∃ l, S.loose i = some l ∧ RowP (w5.alloc (.cells #[Value.slice (some ⟨g5, 0, none⟩) 64 c5] 36)) w.heap.size v0' v1 (Value.slice (some ⟨g5, 0, none⟩) 64 c5) l from .inr ⟨l, HL.out.1, hrow6⟩); have hq4 := Lib.hid hq4; clear hq cd9 hBq hrow5 hrow6 hg5 hat5 ho5 cw5))
            | (at_builtin; refine wpList_appendR rfl (.tmp 68) (.tmp 70) elRows rfl (w.heap.size + 1) v1 ys rfl ho4 _ [Value.slice (some ⟨g5, 0, none⟩) 64 c5] 1 1 _ rfl rfl hr4 (one_slice _ _ _) (by rw [hl1]; unfold maxLen; simp; omega) (by rw [hl1]; simp; omega) hb4 ?_; (intro v2 w2 ho2 hg2 hat2; have hp5 := hq4.out.push1 hg2 ho2 hat2 hv4.out; obtain ⟨k5, f5⟩ := hq4.out.head1 hg2; have hB5 := grown_belowR hB4.out hg2 (Nat.le_trans (Nat.le_succ _) hb4) ho4 (Nat.le_succ _); obtain ⟨A2, c2, rfl, _⟩ := ho2.form; rw [e8] at hp5; have hp5 := Lib.hid (And.intro hp5 hB5); clear ho2 hg2 hat2 hB5)))
          go_roundw
          case rel => exact ⟨i + 1, _, _, _, _, by omega, by go_num, hp5.out.1, hp5.out.2.setCell (p := ⟨w.heap.size, 1, none⟩) (Nat.le_refl _) _⟩
          case measure => simp [intOf]; omega
    · obtain rfl : i = n := by omega
      clear hlt
      have y0 := (HM.out.step hB).cell0
      rw [← HN.out] at y0
      go_wp2
      go_ret
      rw [HN.out] at hp
      exact ⟨_, _, rfl, hp.mir HM.out.ok HM.out.left, fun k hk => hk.1, hB⟩
end Go.Proofs.Ytmkibkafccgmgaa
