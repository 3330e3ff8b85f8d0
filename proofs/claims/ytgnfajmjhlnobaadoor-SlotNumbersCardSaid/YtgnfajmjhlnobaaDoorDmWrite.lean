/-
  The program's own disk: Write. Conditions: none.
-/
import Derived.Test.YtgnfajmjhlnobaaDoorDmArr
import Derived.Laws.CopyOwn
import Derived.Deep.RegionHeld3
namespace Go.Proofs.YtgnfajmjhlnobaaDoor
open Go.RowKit Go.Maps

set_option maxRecDepth 100000 in
/-- copy(c[:], b): 64 bytes over a whole block -/
theorem wpList_copyN {w : World} {ops : Array Oper} {rest : List Oper} {o : Oper} {a : Act} {Q : Exit → Act → World → Prop} {E : TypeId} (hgd : o.guard = none) (d s : Operand)
    (ho : o.op = .call { callee := .builtin .copy, args := #[d, s], argTypes := #[22, 22] }) (g n c c' : Nat) (A : Option Addr) (hd : a.eval d = .slice (some ⟨g, 0, none⟩) n c) (hs : a.eval s = .slice A n c')
    (l m : List UInt8) (hl : l.length = n) (hm : m.length = n) (hn : 0 < n) (hg : BlkR E w g (cellsOfBytes l)) (hA : BytesAt w w.heap.size A m)
    (h : ∀ w', BlkR E w' g (cellsOfBytes m) → Below g w w' → w'.heap.size = w.heap.size → wpList Tryd.prog ops Q rest (a.put o.dst (goInt n)) w') : wpList Tryd.prog ops Q (o :: rest) a w := by
  have hlc : (cellsOfBytes m).length = n := by rw [cellsOfBytes_length, hm]
  obtain ⟨ad, rfl, hb, hc⟩ := hA (by rintro rfl; simp at hm; omega)
  refine wpList_copy_own hgd d s 22 22 ho 5 Tryd.underlying22 (by kernel_rfl) g 0 n c ad n c' hd hs (cellsOfBytes l).toArray E hg (cellsOfBytes m) (by rw [hlc]; exact (Nat.min_self _).symm)
    (fun j v hv => ?_) (by rw [hlc, List.size_toArray, cellsOfBytes_length, hl]; omega) (oneCell_bytes m) ?_
  · have hj : j < m.length := by
      have := (List.getElem?_eq_some_iff.1 hv).1
      rwa [cellsOfBytes_length] at this
    rw [cellsOfBytes_get m j hj] at hv
    rw [← Option.some.inj hv]
    exact hc j hj
  · rw [hlc]
    have e : ((cellsOfBytes l).toArray.toList.take 0 ++ (cellsOfBytes m ++ (cellsOfBytes l).toArray.toList.drop (0 + n))).toArray = (cellsOfBytes m).toArray := by
      rw [List.toList_toArray, List.take_zero, List.nil_append, List.drop_eq_nil_of_le (by rw [cellsOfBytes_length, hl]; omega), List.append_nil]
    rw [e]
    exact h _ (setRow_heap w g _ _ E _ hg) ⟨rfl, rfl, rfl, by simp [World.setRow], fun k hk => setRow_other w g k _ (by omega)⟩ (by simp [World.setRow])

/-- d.loose[i] = c -/
theorem store_run {w : World} {m nn : Nat} {D : DU} {L : Nat → Option (List UInt8)} (hm : w.ownsMap Tryd.prog 3 elemR m nn D) (hL : LooseD D L) (i : Nat) (hi : i < 1024) (hn : nn < maxLen) (l : List UInt8) (hl : l.length = 64) :
    ∃ w', (Instr.mapUpdate 35 (.map (some m)) (.int .i64 (i : Int)) (.agg (cellsOfBytes l).toArray)).run Tryd.prog w = .ok () w' ∧ w'.ownsMap Tryd.prog 3 elemR m (nn + 1) (D.put (.int .i64 (i : Int)) (.lit (.string l))) ∧ LooseD (D.put (.int .i64 (i : Int)) (.lit (.string l))) (DS.upd L i (some l)) ∧ w.grownBy w' (some m) := by
  obtain ⟨w', hrun, ho, ht⟩ := hm.store (int_keyed Tryd.underlying3) Tryd.underlying35 hn (keyOf_at i hi) (elemR_mk hl)
  exact ⟨w', hrun, ho, hL.put hm.isMap i l, ht.grown⟩
theorem chg_n {S T : DS} (hc : S.chg = some T) : T.n = S.n ∧ T.firm = S.firm ∧ T.loose = S.loose ∧ T.ops = S.ops + 1 := by
  unfold DS.chg at hc
  split at hc
  · cases hc
  · rw [← Option.some.inj hc]; exact ⟨rfl, rfl, rfl, rfl⟩
  · rw [← Option.some.inj hc]; exact ⟨rfl, rfl, rfl, rfl⟩

theorem blk_lt {w : World} {g : Nat} {l : List UInt8} (h : w.rangeAt g 0 (cellsOfBytes l)) (hl : l.length = 64) : g < w.heap.size := by
  have := h 0 _ (cellsOfBytes_get l 0 (by omega))
  exact World.block_lt_of_cell? w _ this
theorem DskL.far {w : World} {b g c m nn B : Nat} {F : Nat → Prop} {S : DS} {D : DU} {A : Option Addr} {l : List UInt8} (h : DskL w b F S g c m nn D) (hr : BytesAt w B A l) (hl : l ≠ []) : ∀ ad, A = some ad → ¬ ad.block = b := by
  rintro ad rfl e
  obtain ⟨ad', e1, _, hc⟩ := hr hl
  cases e1
  have h0 := hc 0 (List.length_pos_iff.2 hl)
  rw [show ad.add 0 = ad by unfold Addr.add; simp] at h0
  have hh := h.head
  unfold BlkR at hh
  unfold World.cell? at h0
  rw [e, hh] at h0
  simp only at h0
  split at h0
  · cases h0
  · rcases hk : ad.off with _ | _ | _ | _ | _ | _ | k <;> rw [hk] at h0 <;> simp at h0
set_option maxRecDepth 100000 in
theorem dWrite (w : World) (b : Nat) (F : Nat → Prop) (S : DS) (i : Int) (A : Option Addr) (l : List UInt8) (n c0 : Nat) (h : DiskAt w b F S) (hops : S.ops ≤ 1000000) (hr : BytesAt w w.heap.size A l) (hn : l.length = n) :
    Calls Tryd.prog 62 #[.pointer (some ⟨b, 0, none⟩), .int .i64 i, .slice A n c0] w (DPost (S.write i l).2 (S.write i l).1 b F w) := by
  have hM := Lib.hid h
  obtain ⟨g, c, m, nn, D, h⟩ := h
  have hA := h.far hr
  have hFb := Lib.hid h.Fb
  have zm := made_yes w b h.cell0
  have zh := dHas w b g c S.n i h.cell1
  have x5 := h.cell5
  change Calls _ _ _ _ (fun e w' => e = .returned (.bool (S.there i)) ∧ w = w') at zh
  cases ho : S.out with
  | true =>
    rw [show S.write i l = (S, 10) by simp [DS.write, ho]]
    rw [ho] at x5
    clear h ho zh
    go_enter Tryd.func62, Tryd.ntmps62
    go_wp2_with (go_at_call 46; refine zm.mono ?_; (rintro e w2 ⟨rfl, rfl⟩))
    go_ret
    exact ⟨F, rfl, hM.out, fun k hk => .inl hk, Frame.refl _ _⟩
  | false =>
    rw [ho] at x5
    cases ht : S.there i with
    | false =>
      rw [show S.write i l = (S, 5) by simp [DS.write, ho, ht]]
      rw [ht] at zh
      clear h ho ht
      go_enter Tryd.func62, Tryd.ntmps62
      go_wp2_with (first
        | (go_at_call 46; refine zm.mono ?_; (rintro e w2 ⟨rfl, rfl⟩))
        | (go_at_call 48; refine zh.mono ?_; (rintro e w2 ⟨rfl, rfl⟩)))
      go_ret
      exact ⟨F, rfl, hM.out, fun k hk => .inl hk, Frame.refl _ _⟩
    | true =>
      rw [ht] at zh
      by_cases h64 : n = 64
      · subst h64
        have hi := (S.there_iff i).1 ht
        obtain ⟨k, rfl⟩ : ∃ k : Nat, i = (k : Int) := ⟨i.toNat, by omega⟩
        have hk : k < S.n := by omega
        have hk2 : k < 1024 := by have := h.ok.n2; omega
        have zc := dChange w b F S g c m nn D h hops
        cases hc : S.chg with
        | none =>
          rw [hc] at zc
          rw [show S.write (k : Int) l = ({ S with out := true }, 10) by simp [DS.write, ho, ht, hn, hc]]
          clear h ho ht hc hi
          go_enter Tryd.func62, Tryd.ntmps62
          go_wp2_with (first
            | (go_at_call 46; refine zm.mono ?_; (rintro e w2 ⟨rfl, rfl⟩))
            | (go_at_call 48; refine zh.mono ?_; (rintro e w2 ⟨rfl, rfl⟩))
            | (go_at_call 68; refine zc.mono ?_; (rintro e w2 ⟨rfl, hM2, hFr2⟩)))
          go_ret
          exact ⟨F, rfl, ⟨g, c, m, nn, D, hM2⟩, fun k hk => .inl hk, hFr2.mono fun k e => e ▸ hFb.out⟩
        | some T =>
          rw [hc] at zc
          rw [show S.write (k : Int) l = ({ T with loose := DS.upd T.loose k (some l) }, 0) by simp [DS.write, ho, ht, hn, hc]]
          obtain ⟨t1, t2, t3, t4⟩ := chg_n hc
          have hfew := h.few
          have kT : k < T.n := by omega
          have hF := Lib.hid (And.intro h.Fb h.Fm)
          have hno : T.ops ≤ 1000001 := by omega
          have hnn : nn + 1 ≤ T.ops := by omega
          have hmax : nn < maxLen := by unfold maxLen; omega
          have hsz : (Tryd.prog.info? 85).map (·.size) = some (cellsOfBytes l).length := by rw [cellsOfBytes_length, hn]; exact sizeC
          have hun := underC
          have hof := Lib.hid hn
          clear h ho ht hc hi t1 t2 t3 t4 hk hM hfew hops hno hn
          go_enter Tryd.func62, Tryd.ntmps62
          go_wp2_with (first
            | (go_at_call 46; refine zm.mono ?_; (rintro e w2 ⟨rfl, rfl⟩))
            | (go_at_call 48; refine zh.mono ?_; (rintro e w2 ⟨rfl, rfl⟩))
            | (go_at_call 68; refine zc.mono ?_; (rintro e w2 ⟨rfl, hL, hFr2⟩; change DskL w2 b F T g c m nn D at hL; have hr2 : BytesAt w2 w2.heap.size A l := hFr2.bytes hr (hA (by rintro rfl; cases hof.out)); replace hFr2 := hFr2.mono (G := F) (fun k e => e ▸ hFb.out); have hL := Lib.hid hL; have hFr2 := Lib.hid hFr2; have hr2 := Lib.hid hr2))
            | (refine wpList_allocC rfl rfl ?_)
            | (refine wpList_copyN rfl _ _ rfl w2.heap.size 64 64 c0 A rfl rfl zs l (by simp) hof.out (by omega) (BlkR.new w2 (cellsOfBytes zs) 85) (hr2.out.step ((Below.refl _ _).alloc (Nat.le_refl _) _)) ?_; intro w4 hb4 hB4 hs4; have c4 : Below w2.heap.size w2 w4 := ((Below.refl _ _).alloc (Nat.le_refl _) _).trans hB4; have hL4 := hL.out.step c4; have y2 := hL4.cell2; obtain ⟨w5, run5, own5, ls5, gr5⟩ := store_run (w := w4.drew) hL4.map.drew hL4.loose k hk2 hmax l hof.out; have r4 := hb4.range; have hL4 := Lib.hid hL4; have c4 := Lib.hid c4; clear hb4 hB4 hs4; have y2d : w4.drew.cell? ⟨b, 2, none⟩ = some (.map (some m)) := y2; have r4d : w4.drew.rangeAt w2.heap.size 0 (cellsOfBytes l) := r4; have y5 : w5.cell? ⟨b, 2, none⟩ = some (.map (some m)) := (World.cell?_of_block (w := w4.drew) (a := ⟨b, 2, none⟩) (gr5.block b (hL4.out.lt b hF.out.1) (fun e => hL4.out.nbm (Option.some.inj e)))).trans y2d; have r5 : w5.rangeAt w2.heap.size 0 (cellsOfBytes l) := rangeAt_keep r4d (gr5.block w2.heap.size (blk_lt r4d hof.out) (fun e => Nat.ne_of_gt (hL.out.lt m hF.out.2) (Option.some.inj e))); have own5 := Lib.hid own5; have ls5 := Lib.hid ls5; have gr5 := Lib.hid gr5))
          go_region_held3 (fun w' => w'.cell? ⟨b, 2, none⟩ = some (.map (some m)) ∧ w'.rangeAt w2.heap.size 0 (cellsOfBytes l)) (first | exact ⟨y2d, r4d⟩ | exact ⟨y5, r5⟩) (fail)
          go_wp2
          go_ret
          refine ⟨F, rfl, ⟨g, c, m, _, _, (hL4.out.kept (w' := w4.drew) (Nat.le_refl _) fun _ _ => rfl).map_set gr5.out own5.out ls5.out hnn rfl (fun j q hj => ?_)⟩, fun j hj => .inl hj, ?_⟩
          · unfold DS.upd at hj
            by_cases e : j = k
            · rw [if_pos e] at hj; cases hj; subst e; exact ⟨kT, hof.out⟩
            · rw [if_neg e] at hj; exact hL4.out.ok.loose j q hj
          · exact (hFr2.out.trans (Frame.of_below (F := F) c4.out.drew) (fun j hj => .inl hj)).trans (frameGrown gr5.out hF.out.2) (fun j hj => .inl hj)
      · have hne : ((n : Int) != 64) = true := by simp; omega
        rw [show S.write i l = (S, 2) by simp [DS.write, ho, ht, hn, h64]]
        clear h ho ht
        go_enter Tryd.func62, Tryd.ntmps62
        go_wp2_with (first
          | (go_at_call 46; refine zm.mono ?_; (rintro e w2 ⟨rfl, rfl⟩))
          | (go_at_call 48; refine zh.mono ?_; (rintro e w2 ⟨rfl, rfl⟩)))
        go_ret
        exact ⟨F, rfl, hM.out, fun k hk => .inl hk, Frame.refl _ _⟩
end Go.Proofs.YtgnfajmjhlnobaaDoor
