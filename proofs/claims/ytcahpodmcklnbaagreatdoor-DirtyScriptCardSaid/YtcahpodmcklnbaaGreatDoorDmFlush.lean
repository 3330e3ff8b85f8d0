/-
  The program's own disk: Flush. Conditions: none.
-/
import Derived.Test.YtcahpodmcklnbaaGreatDoorDa
import Derived.MapKept
import Derived.ChangeMaps5
namespace Go.Proofs.YtcahpodmcklnbaaGreatDoor
open Go.RowKit Go.Maps

/-- clear(m) -/
theorem wpList_clear_own {w : World} {ops : Array Oper} {rest : List Oper} {o : Oper} {a : Act} {Q : Exit → Act → World → Prop} {m nn : Nat} {D : DU} (hgd : o.guard = none) (x : Operand)
    (ho : o.op = .call { callee := .builtin .clear, args := #[x], argTypes := #[59] }) (hx : a.eval x = .map (some m)) (hm : w.ownsMap Tryz.prog 3 elemR m nn D)
    (h : ∀ w', w'.ownsMap Tryz.prog 3 elemR m 0 (.map []) → w.grownBy w' (some m) → wpList Tryz.prog ops Q rest (a.put o.dst (.tuple #[])) w') : wpList Tryz.prog ops Q (o :: rest) a w := by
  refine wpList_plain hgd fun K hK => ?_
  obtain ⟨es, clock, hb, F, hs, rfl⟩ := hm
  have hrun : (Builtin.clear_ #[59] o.type #[.map (some m)]).run Tryz.prog w = .ok (.tuple #[]) (ChangeMaps.setBlock w m (.map #[] clock)) := by
    simp [Builtin.clear_, run_underlying Tryz.underlying59, MapKept.run_getObj_map hb, MapKept.run_setObj_map _ hb, Result.andThen, ChangeMaps.setBlock]
  unfold Oper.wp execOp
  simp only [ho, resolve, invoke, builtin, Sem.run_bind, Sem.run_pure, Result.andThen_ok, List.map_toArray, List.map_cons, List.map_nil, hx, hrun]
  exact hK _ _ (h _ ⟨#[], clock, ChangeMaps.heap_setBlock_same hb _, ⟨by simp, MapKept.stamped_empty clock, by simp⟩, Nat.le_refl _, rfl⟩ ⟨rfl, rfl, rfl, by simp [ChangeMaps.setBlock], fun i _ hi => ChangeMaps.heap_setBlock_other hb _ (fun e => hi (by rw [e]))⟩)

namespace DS
/-- what of a disk is firm while it is flushed: what is left to come is as it was -/
def part (S : DS) (left : Lit → Bool) : DS := { S with firm := fun i => if left (.int .i64 (i : Int)) = true then S.firm i else S.last i }
theorem part_start {S : DS} {D : DU} (h : LooseD D S.loose) : S.part (Maps.has D) = S := by
  unfold part
  congr 1
  funext i
  rw [h.has]
  unfold last
  cases hl : S.loose i <;> simp [hl]
theorem part_end {S : DS} {left : Lit → Bool} (h : ∀ kl, left kl = false) : S.part left = { S with firm := S.last } := by
  unfold part
  congr 1
  funext i
  simp [h]
theorem part_step {S : DS} {left : Lit → Bool} {i : Nat} {l : List UInt8} (hl : S.loose i = some l) :
    S.part (fun z => left z && !z.sameKey (.int .i64 (i : Int))) = { S.part left with firm := upd (S.part left).firm i l } := by
  unfold part upd
  simp only
  congr 1
  funext j
  by_cases e : j = i
  · subst e
    simp [Lit.sameKey, last, hl]
  · have e2 : (Lit.int .i64 (j : Int)).sameKey (.int .i64 (i : Int)) = false := by simp [Lit.sameKey]; omega
    simp [e, e2]
end DS
theorem arr_inj {l m : List UInt8} (h : arr l = arr m) : l = m := by
  unfold arr at h
  have h1 : cellsOfBytes l = cellsOfBytes m := by simpa using h
  have h2 := mapM_bytes l
  rw [h1, mapM_bytes m] at h2
  exact (Option.some.inj h2).symm
/-- which entry comes -/
theorem entry_is {D : DU} {L : Nat → Option (List UInt8)} (h : LooseD D L) {x : Int} {c : List UInt8} {kl : Lit} {y : DU × List MemPlace} (hk : keyOf Tryz.prog 3 (.int .i64 x) = some kl) (hv : elemR (arr c) = some y) (hat : ∀ zd, D.atKey kl zd = y.1) :
    ∃ i : Nat, x = (i : Int) ∧ kl = .int .i64 (i : Int) ∧ L i = some c := by
  obtain ⟨x', e1, rfl, _⟩ := Maps.keyOf_int_inv Tryz.underlying3 hk
  cases e1
  have h1 := Maps.has_true_of_atKey hat
  rw [h.has] at h1
  simp only [Bool.and_eq_true, decide_eq_true_eq, Option.isSome_iff_exists] at h1
  obtain ⟨h0, l, hl⟩ := h1
  have e2 : x = ((x.toNat : Nat) : Int) := by omega
  refine ⟨x.toNat, e2, by rw [← e2], ?_⟩
  have h2 := h.at_ x.toNat l hl (.map [])
  rw [← e2] at h2
  obtain ⟨l', _, e3, e4⟩ := elemR_inv hv
  have h3 := hat (.map [])
  rw [h2, e4] at h3
  have e5 : l = l' := by simpa using h3
  rw [hl, e5, arr_inj e3]
theorem grown_of_below {w w' : World} (h : Below w.heap.size w w') : w.grownBy w' none := ⟨h.os, h.tape, h.output, h.size, fun i hi _ => h.block i hi⟩
theorem grown_setCells (w : World) (g o : Nat) (vs : List Value) : w.grownBy (w.setCells g o vs) (some g) := by
  have h := frameCells (F := fun k => k = g) w g o vs rfl
  exact ⟨h.os, h.tape, h.output, h.size, fun i hi hne => h.block i hi (fun e => hne (by rw [e]))⟩

theorem there_mid {w : World} {g o k n : Nat} (h : w.there g 0 n) (hk : o + k ≤ n) : w.there g o k := fun j hj => by
  have := h (o + j) (by omega)
  rwa [Nat.zero_add] at this
set_option maxRecDepth 100000 in
theorem dFlush (w : World) (b : Nat) (F : Nat → Prop) (S : DS) (h : DiskAt w b F S) (hops : S.ops ≤ 1000000) :
    Calls Tryz.prog 45 #[.pointer (some ⟨b, 0, none⟩)] w (DPost S.flush.2 S.flush.1 b F w) := by
  have hM := Lib.hid h
  obtain ⟨g, c, m, nn, D, h⟩ := h
  have zm := made_yes w b h.cell0
  have x5 := h.cell5
  have hF := Lib.hid (And.intro h.Fb (And.intro h.Fg h.Fm))
  cases ho : S.out with
  | true =>
    rw [show S.flush = (S, 10) by simp [DS.flush, ho]]
    rw [ho] at x5
    clear h ho
    go_enter Tryz.func45, Tryz.ntmps45
    go_wp2_with (go_at_call 62; refine zm.mono ?_; (rintro e w2 ⟨rfl, rfl⟩))
    go_ret
    exact ⟨F, rfl, hM.out, fun k hk => .inl hk, Frame.refl _ _⟩
  | false =>
    rw [ho] at x5
    have zc := dChange w b F S g c m nn D h hops
    cases hc : S.chg with
    | none =>
      rw [hc] at zc
      rw [show S.flush = ({ S with out := true }, 10) by simp [DS.flush, ho, hc]]
      clear h ho hc
      go_enter Tryz.func45, Tryz.ntmps45
      go_wp2_with (first
        | (go_at_call 62; refine zm.mono ?_; (rintro e w2 ⟨rfl, rfl⟩))
        | (go_at_call 74; refine zc.mono ?_; (rintro e w2 ⟨rfl, hM2, hFr2⟩)))
      go_ret
      exact ⟨F, rfl, ⟨g, c, m, nn, D, hM2⟩, fun k hk => .inl hk, hFr2.mono fun k e => e ▸ hF.out.1⟩
    | some T =>
      rw [hc] at zc
      rw [show S.flush = (T.settle, 0) by simp [DS.flush, ho, hc]]
      have hun := underC
      clear h ho hc hM hops
      go_enter Tryz.func45, Tryz.ntmps45
      go_wp2_with (first
        | (go_at_call 62; refine zm.mono ?_; (rintro e w2 ⟨rfl, rfl⟩))
        | (go_at_call 74; refine zc.mono ?_; (rintro e w2 ⟨rfl, hL, hFr2⟩; change DskL w2 b F T g c m nn D at hL; replace hFr2 := hFr2.mono (G := F) (fun k e => e ▸ hF.out.1); have y2 := hL.cell2; have hL := Lib.hid hL; have hFr2 := Lib.hid hFr2))
        | (at_range; refine wpList_range_own _ rfl _ 59 rfl 3 126 (int_keyed Tryz.underlying3) Tryz.underlying59 _ m nn D rfl hL.out.map ?_; (intro w3 hrg3 hg3 hs3)))
      go_frame
      have hL3 : DskL w3 b F T g c m nn D := hL.out.kept hg3.size fun k hk => hg3.block k (hL.out.lt k hk) (by simp)
      have hL3 := Lib.hid hL3
      go_loopw [3, 4] (fun _ _ wr => ∃ (left : Lit → Bool) (cnt : Nat), wr.ranges Tryz.prog 3 elemR m w2.heap.size nn D left cnt ∧ DskL wr b F (T.part left) g c m nn D ∧ Frame F w2 wr) (fun _ _ wr => wr.rangeLeft m w2.heap.size)
      case atStart =>
        refine ⟨_, _, hrg3, by rw [DS.part_start hL.out.loose]; exact hL3.out, ⟨hg3.os, hg3.tape, hg3.output, hg3.size, fun k hk _ => hg3.block k hk (by simp)⟩⟩
      case round =>
        obtain ⟨left, cnt, hrg, hLr, hFr⟩ := hrel
        have hrg := Lib.hid hrg
        have hLr := Lib.hid hLr
        have hFr := Lib.hid hFr
        go_wp2_with (at_next; refine wpList_next_ranges _ rfl _ rfl 3 (int_keyed Tryz.underlying3) elemR (Value.int .i64) arr (fun key kl hkey => by obtain ⟨x, rfl, _⟩ := Maps.keyOf_int_inv Tryz.underlying3 hkey; exact ⟨x, rfl⟩) (fun v y hv => by obtain ⟨l, _, rfl, _⟩ := elemR_inv hv; exact ⟨l, rfl⟩) m w2.heap.size nn D left cnt rfl hrg.out ?_ ?_)
        · intro hc0 hl0
          rw [DS.part_end hl0] at hLr
          have y2r := hLr.out.cell2
          have hmr := Lib.hid hrg.out.owns
          clear hrg hg3 hs3 hrg3 hL3 x5 zc zm
          go_wp2_with (refine wpList_clear_own rfl _ rfl rfl hmr.out ?_; (intro w5 ho5 hg5; have ho5 := Lib.hid ho5; have hg5 := Lib.hid hg5))
          go_ret
          refine ⟨F, rfl, ⟨g, c, m, 0, _, hLr.out.map_set (L := fun _ => none) hg5.out ho5.out LooseD.none_ (Nat.zero_le _) rfl (fun i l hi => by cases hi)⟩, fun k hk => .inl hk, ?_⟩
          exact (hFr2.out.trans hFr.out (fun k hk => .inl hk)).trans (frameGrown hg5.out hF.out.2.2) (fun k hk => .inl hk)
        · intro x cc kl ya yb w4 cnt4 hkey hlk hv hat hrg4 hlt4 hg4 hs4 hen4
          obtain ⟨i, rfl, rfl, hl⟩ := entry_is (y := (ya, yb)) hL.out.loose hkey hv hat
          obtain ⟨hi, hl64⟩ := hL.out.ok.loose i cc hl
          have hstep := Lib.hid (DS.part_step (S := T) (left := left) hl)
          have hg := hrg.out.ne
          have hL4 : DskL w4 b F (T.part left) g c m nn D := hLr.out.kept hg4.size fun k hk => hg4.block k (hLr.out.lt k hk) (fun e => Nat.ne_of_lt (hL.out.lt k hk) (Option.some.inj e))
          have hsz : (Tryz.prog.info? 126).map (·.size) = some (cellsOfBytes cc).length := by rw [cellsOfBytes_length, hl64]; exact sizeC
          have hk64 : (cellsOfBytes cc).length = 64 := by rw [cellsOfBytes_length, hl64]
          have hone := one_bytes cc
          have HL4 := Lib.hid hL4
          have hG4 := Lib.hid (And.intro hrg4 (And.intro hg4 hlt4))
          have H64 := Lib.hid hl64
          have hiT := Lib.hid hi
          obtain ⟨n, hn⟩ : ∃ n, n = T.n := ⟨_, rfl⟩
          have hin : (i : Int) < (n : Int) := by omega
          replace hn := Lib.hid hn
          clear hL4 hrg4 hg4 hlt4 hl64 hlk hv hat hl hg hi x5 zc zm hrg3 hg3 hs3 hkey hs4
          go_wp2_with (first
            | (refine wpList_allocC rfl rfl ?_)
            | (refine wpList_storeN rfl _ _ rfl w4.heap.size cc zs rfl rfl H64.out (by simp) (BlkR.new w4 (cellsOfBytes zs) 126) ?_; (intro w5 hb5 hB5 hs5; have c5 : Below w4.heap.size w4 w5 := ((Below.refl _ _).alloc (Nat.le_refl _) _).trans hB5; have hL5 := HL4.out.step c5; have y1 := hL5.cell1; change w5.cell? ⟨b, 1, none⟩ = some (.slice (some ⟨g, 0, none⟩) T.n c) at y1; rw [← hn.out] at y1; have r5 := hb5.range; have t5 : w5.there g (i * 64) 64 := (there_mid hL5.room (by have := hiT.out; show i * 64 + 64 ≤ T.n * 64; omega)); have y1d : w5.drew.cell? ⟨b, 1, none⟩ = some (.slice (some ⟨g, 0, none⟩) n c) := y1; have r5d : w5.drew.rangeAt w4.heap.size 0 (cellsOfBytes cc) := r5; have t5d : w5.drew.there g (i * 64) 64 := t5; have hfr := grown_setCells w5.drew g (i * 64) (cellsOfBytes cc); have hbl : b < w5.drew.heap.size := hL5.lt b hF.out.1; have hrl : w4.heap.size < w5.drew.heap.size := blk_lt r5d H64.out; have hgr : g < w4.heap.size := HL4.out.lt g hF.out.2.1; have y1s : (w5.drew.setCells g (i * 64) (cellsOfBytes cc)).cell? ⟨b, 1, none⟩ = some (.slice (some ⟨g, 0, none⟩) n c) := (World.cell?_of_block (w := w5.drew) (a := ⟨b, 1, none⟩) (hfr.block b hbl (fun e => hL5.nbg (Option.some.inj e)))).trans y1d; have r5s : (w5.drew.setCells g (i * 64) (cellsOfBytes cc)).rangeAt w4.heap.size 0 (cellsOfBytes cc) := rangeAt_keep r5d (hfr.block w4.heap.size hrl (fun e => Nat.ne_of_gt hgr (Option.some.inj e))); have t5s := World.there_setCells t5d g (i * 64) (cellsOfBytes cc); have hfr := Lib.hid hfr; have hL5 := Lib.hid hL5; have c5 := Lib.hid c5; clear hB5 hb5 hs5 hbl hrl hgr)))
          go_region_held3 (fun w' => w'.cell? ⟨b, 1, none⟩ = some (.slice (some ⟨g, 0, none⟩) n c) ∧ w'.rangeAt w4.heap.size 0 (cellsOfBytes cc) ∧ w'.there g (i * 64) 64) (first | exact ⟨y1d, r5d, t5d⟩ | exact ⟨y1s, r5s, t5s⟩) (fail)
          go_wp2
          go_roundw
          case rel =>
            obtain ⟨hrg4, hg4, hlt4⟩ := hG4.out
            have hrg5 : w5.drew.ranges Tryz.prog 3 elemR m w2.heap.size nn D (fun z => left z && !z.sameKey (.int .i64 (i : Int))) cnt4 := hrg4.kept (grown_of_below c5.out.drew) (by simp) (by simp)
            refine ⟨_, cnt4, hrg5.kept hfr.out (fun e => hL5.out.ngm (Option.some.inj e).symm) (fun e => Nat.ne_of_gt (hL.out.lt g hF.out.2.1) (Option.some.inj e)), ?_, ?_⟩
            · rw [hstep.out]
              exact (hL5.out.kept (w' := w5.drew) (Nat.le_refl _) fun _ _ => rfl).row_set i hiT.out H64.out
            · have f4 : Frame F w2 w4 := ⟨hg4.os.trans hFr.out.os, hg4.tape.trans hFr.out.tape, hg4.output.trans hFr.out.output, Nat.le_trans hFr.out.size hg4.size, fun k hk hn => (hg4.block k (Nat.lt_of_lt_of_le hk hFr.out.size) (fun e => Nat.ne_of_lt hk (Option.some.inj e))).trans (hFr.out.block k hk hn)⟩
              exact (f4.trans (Frame.of_below (F := F) c5.out.drew) (fun k hk => .inl hk)).trans (frameCells w5.drew g (i * 64) (cellsOfBytes cc) hF.out.2.1) (fun k hk => .inl hk)
          case measure =>
            obtain ⟨hrg4, hg4, hlt4⟩ := hG4.out
            have hrg5 : w5.drew.ranges Tryz.prog 3 elemR m w2.heap.size nn D (fun z => left z && !z.sameKey (.int .i64 (i : Int))) cnt4 := hrg4.kept (grown_of_below c5.out.drew) (by simp) (by simp)
            have hrg6 := hrg5.kept hfr.out (fun e => hL5.out.ngm (Option.some.inj e).symm) (fun e => Nat.ne_of_gt (hL.out.lt g hF.out.2.1) (Option.some.inj e))
            rw [hrg6.left_eq, hrg.out.left_eq]
            exact hlt4
end Go.Proofs.YtcahpodmcklnbaaGreatDoor
