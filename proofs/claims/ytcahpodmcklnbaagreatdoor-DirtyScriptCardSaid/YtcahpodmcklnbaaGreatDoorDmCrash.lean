/-
  The program's own disk: Crash. Conditions: none.
-/
import Derived.Test.YtcahpodmcklnbaaGreatDoorDmFlush
import Derived.Test.YtcahpodmcklnbaaGreatDoorDmKept
namespace Go.Proofs.YtcahpodmcklnbaaGreatDoor
open Go.RowKit Go.Maps

namespace DS
theorem stayBelow_at (S : DS) (keeps : List Bool) (m i n : Nat) (h : (S.stayBelow keeps m)[i]? = some n) : n < m ∧ S.stays keeps n = true ∧ (S.stayBelow keeps n).length = i := by
  induction m with
  | zero => simp [stayBelow] at h
  | succ m ih =>
    rw [stayBelow_snoc] at h
    by_cases hi : i < (S.stayBelow keeps m).length
    · rw [List.getElem?_append_left hi] at h
      obtain ⟨h1, h2, h3⟩ := ih h
      exact ⟨by omega, h2, h3⟩
    · rw [List.getElem?_append_right (by omega)] at h
      by_cases hl : S.stays keeps m = true
      · rw [if_pos hl] at h
        obtain ⟨hk, e⟩ := List.getElem?_eq_some_iff.1 h
        simp at hk
        have h0 : i - (S.stayBelow keeps m).length = 0 := by omega
        simp [h0] at e
        subst e
        exact ⟨by omega, hl, by omega⟩
      · rw [if_neg hl] at h
        simp at h
theorem stayBelow_mono (S : DS) (keeps : List Bool) {t t' : Nat} (h : t ≤ t') : (S.stayBelow keeps t).length ≤ (S.stayBelow keeps t').length := by
  induction h with
  | refl => exact Nat.le_refl _
  | step _ ih => rw [stayBelow_snoc, List.length_append]; omega
theorem stayBelow_lt (S : DS) (keeps : List Bool) {t t' : Nat} (h : t < t') (hs : S.stays keeps t = true) : (S.stayBelow keeps t).length < (S.stayBelow keeps t').length := by
  have := S.stayBelow_mono keeps (show t + 1 ≤ t' from h)
  rw [stayBelow_snoc, if_pos hs, List.length_append] at this
  simp at this
  omega
/-- the first i that stay are firm -/
def crK (S : DS) (keeps : List Bool) (tear : Int) (i : Nat) : DS := { S with firm := fun s => if S.stays keeps s = true ∧ (S.stayBelow keeps s).length < i then S.crashed keeps tear s else S.firm s }
theorem crK_zero (S : DS) (keeps : List Bool) (tear : Int) : S.crK keeps tear 0 = S := by
  unfold crK
  simp
theorem crK_succ (S : DS) (keeps : List Bool) (tear : Int) {i s : Nat} (hs : S.stays keeps s = true) (hi : (S.stayBelow keeps s).length = i) :
    S.crK keeps tear (i + 1) = { S.crK keeps tear i with firm := upd (S.crK keeps tear i).firm s (S.crashed keeps tear s) } := by
  unfold crK upd
  simp only
  congr 1
  funext t
  by_cases e : t = s
  · subst e
    rw [if_pos ⟨hs, by omega⟩, if_pos rfl]
  · rw [if_neg e]
    by_cases ht : S.stays keeps t = true
    · have h2 : (S.stayBelow keeps t).length ≠ i := by
        rcases Nat.lt_or_gt_of_ne e with h1 | h1
        · have := S.stayBelow_lt keeps h1 ht; omega
        · have := S.stayBelow_lt keeps h1 hs; omega
      by_cases h3 : (S.stayBelow keeps t).length < i
      · rw [if_pos ⟨ht, by omega⟩, if_pos ⟨ht, h3⟩]
      · rw [if_neg (fun h => by have := h.2; omega), if_neg (fun h => h3 h.2)]
    · rw [if_neg (fun h => ht h.1), if_neg (fun h => ht h.1)]
theorem crK_firm (S : DS) (keeps : List Bool) (tear : Int) {i s : Nat} (hi : (S.stayBelow keeps s).length = i) : (S.crK keeps tear i).firm s = S.firm s := by
  unfold crK
  simp only
  rw [if_neg (fun h => by have := h.2; omega)]
theorem crK_all (S : DS) (keeps : List Bool) (tear : Int) (h : S.Ok) : S.crK keeps tear (S.stayBelow keeps S.n).length = { S with firm := S.crashed keeps tear } := by
  unfold crK
  congr 1
  funext t
  by_cases ht : S.stays keeps t = true
  · have hl : S.isLoose t = true := by
      unfold stays at ht
      rw [Bool.and_eq_true] at ht
      exact ht.1
    obtain ⟨l, hl2⟩ := Option.isSome_iff_exists.1 hl
    rw [if_pos ⟨ht, S.stayBelow_lt keeps (h.loose t l hl2).1 ht⟩]
  · rw [if_neg (fun h => ht h.1)]
    exact (crashed_not (by simpa using ht)).symm
end DS
section
variable {w w' : World} {b g c m nn : Nat} {F G : Nat → Prop} {S T : DS} {D : DU}
/-- a sector's first bytes, laid over -/
theorem DskL.row_over (h : DskL w b F S g c m nn D) (i : Nat) (hi : i < S.n) (p : List UInt8) (hp : p.length ≤ 64) :
    DskL (w.setCells g (i * 64) (cellsOfBytes p)) b F { S with firm := DS.upd S.firm i (p ++ (S.firm i).drop p.length) } g c m nn D := by
  have hFr := frameCells (F := fun k => k = g) w g (i * 64) (cellsOfBytes p) rfl
  have hg : ∀ j, F j → j ≠ g → (w.setCells g (i * 64) (cellsOfBytes p)).heap[j]? = w.heap[j]? := fun j hj hne => hFr.block j (h.lt j hj) hne
  have h64 := h.ok.firm i hi
  have hth : ∀ j, j < (cellsOfBytes p).length → (w.cell? ⟨g, i * 64 + j, none⟩).isSome = true := fun j hj => by
    rw [cellsOfBytes_length] at hj
    have := (h.room (i * 64 + j) (by omega)).1
    rwa [Nat.zero_add] at this
  refine { h with ok := ⟨h.ok.n1, h.ok.n2, fun j hj => ?_, h.ok.loose⟩, head := (hg b h.Fb h.nbg).trans h.head, lt := fun k hk => Nat.lt_of_lt_of_le (h.lt k hk) hFr.size, rows := fun j hj => ?_, room := World.there_setCells h.room _ _ _, map := ownsMap_keep h.map (hg m h.Fm h.ngm.symm) }
  · show (DS.upd S.firm i _ j).length = 64
    unfold DS.upd
    by_cases e : j = i
    · rw [if_pos e, List.length_append, List.length_drop, h64]; omega
    · rw [if_neg e]; exact h.ok.firm j hj
  · show World.rangeAt _ g (j * 64) (cellsOfBytes (DS.upd S.firm i _ j))
    unfold DS.upd
    by_cases e : j = i
    · subst e
      rw [if_pos rfl]
      intro k v hv
      have e2 : cellsOfBytes (p ++ (S.firm j).drop p.length) = cellsOfBytes p ++ (cellsOfBytes (S.firm j)).drop p.length := by simp [cellsOfBytes]
      rw [e2] at hv
      by_cases hk : k < p.length
      · have hk' : k < (cellsOfBytes p).length := by rw [cellsOfBytes_length]; exact hk
        rw [List.getElem?_append_left hk'] at hv
        rw [World.cell?_setCells_in g (cellsOfBytes p) (j * 64) w hth k hk', ← hv, List.getElem?_eq_getElem hk']
      · rw [List.getElem?_append_right (by rw [cellsOfBytes_length]; omega), List.getElem?_drop, cellsOfBytes_length, show p.length + (k - p.length) = k by omega] at hv
        rw [World.cell?_setCells_out g (cellsOfBytes p) (j * 64) w ⟨g, j * 64 + k, none⟩ (fun _ _ => by right; rw [cellsOfBytes_length]; show j * 64 + p.length ≤ j * 64 + k; omega)]
        exact h.rows j hj k v hv
    · rw [if_neg e]
      refine World.rangeAt_setCells_apart (h.rows j hj) _ _ _ (.inr ?_)
      rw [cellsOfBytes_length, cellsOfBytes_length, h.ok.firm j hj]
      rcases Nat.lt_or_gt_of_ne e with h1 | h1
      · left; omega
      · right; omega
end
/-- copy into cells, as one step of a region that draws -/
theorem step_copy_cells {P : Program} {ops : Array Oper} {o : Oper} {a : Act} {w : World} {K : Act → World → Prop} {Q : Exit → Act → World → Prop} {E : Prop} (hgd : o.guard = none) (d s : Operand) (dT sT : TypeId)
    (ho : o.op = .call { callee := .builtin .copy, args := #[d, s], argTypes := #[dT, sT] }) (elem : TypeId) (hu : P.underlying dT = some (.slice elem)) (hsz : (P.info? elem).map (·.size) = some 1)
    (g off dLen dCap : Nat) (ad : Addr) (sLen sCap : Nat) (hd : a.eval d = .slice (some ⟨g, off, none⟩) dLen dCap) (hs : a.eval s = .slice (some ad) sLen sCap) (cs : List Value) (hn : cs.length = Nat.min sLen dLen)
    (hsrc : ∀ j v, cs[j]? = some v → w.cell? (ad.add j) = some v) (ht : w.there g off cs.length) (h1 : ∀ v ∈ cs, v.oneCell' = true)
    (h : K (a.put o.dst (goInt cs.length)) (w.setCells g off cs)) :
    if Region.wanted o (yielded ops a.tmps) = true then Oper.wp P o a w K Q else E := by
  have hw : Region.wanted o (yielded ops a.tmps) = true := by simp [Region.wanted, hgd]
  rw [if_pos hw]
  have hrun := run_copy_cells (P := P) w dT sT o.type elem g off dLen dCap ad sLen sCap cs hu hsz hn hsrc (fun j hj => (ht j hj).1) (fun j hj => (ht j hj).2) h1
  unfold Oper.wp
  simp [execOp, ho, resolve, invoke, builtin, hd, hs, hrun, Result.andThen]
  exact h
/-- kept, its cells named -/
def KeptPost2 (K : List Nat) (w : World) (e : Ending) (w' : World) : Prop :=
  ∃ A c, e = .returned (.slice A K.length c) ∧ K.length ≤ c ∧ (∀ (i s : Nat), K[i]? = some s → ∃ gk, A = some ⟨gk, 0, none⟩ ∧ w.heap.size ≤ gk ∧ gk < w'.heap.size ∧ w'.cell? ⟨gk, i, none⟩ = some (.int .i64 (s : Int))) ∧ Below w.heap.size w w'
theorem dKept2 (w : World) (b : Nat) (F : Nat → Prop) (S : DS) (AK : Option Addr) (keeps : List Bool) (nk ck : Nat) (h : DiskAt w b F S) (hk : RowAt w w.heap.size AK (keeps.map Value.bool)) (hnk : keeps.length = nk) :
    Calls Tryz.prog 72 #[.pointer (some ⟨b, 0, none⟩), .slice AK nk ck] w (KeptPost2 (S.stayBelow keeps S.n) w) := by
  refine (dKept w b F S AK keeps nk ck h hk hnk).mono ?_
  rintro e w' ⟨v, rfl, ho, hB⟩
  have hl : (iv (DS.asInts (S.stayBelow keeps S.n))).length = (S.stayBelow keeps S.n).length := by unfold DS.asInts; rw [iv_length, List.length_map]
  obtain ⟨A, c, rfl, h1, _⟩ := ho.form
  refine ⟨A, c, by rw [hl], by rw [← hl]; exact h1, fun i s hs => ?_, hB⟩
  have hpos : 0 < (iv (DS.asInts (S.stayBelow keeps S.n))).length := by
    rw [hl]
    have := (List.getElem?_eq_some_iff.1 hs).1
    omega
  obtain ⟨gk, rfl, hb, hlt, _⟩ := ho.at_g hpos
  exact ⟨gk, rfl, hb, hlt, ho.cell (k := i) (u := .int .i64 (s : Int)) (by unfold DS.asInts iv; simp [hs])⟩

theorem take_cells (l : List UInt8) (k : Nat) (j : Nat) (v : Value) (hv : (cellsOfBytes (l.take k))[j]? = some v) : (cellsOfBytes l)[j]? = some v := by
  have e : cellsOfBytes (l.take k) = (cellsOfBytes l).take k := by simp [cellsOfBytes]
  rw [e, List.getElem?_take] at hv
  by_cases hj : j < k
  · rwa [if_pos hj] at hv
  · rw [if_neg hj] at hv; cases hv
set_option maxRecDepth 100000 in
theorem dCrash (w : World) (b : Nat) (F : Nat → Prop) (S : DS) (AK : Option Addr) (keeps : List Bool) (nk ck : Nat) (tear : Int) (h : DiskAt w b F S) (hk : RowAt w w.heap.size AK (keeps.map Value.bool)) (hnk : keeps.length = nk) :
    Calls Tryz.prog 39 #[.pointer (some ⟨b, 0, none⟩), .slice AK nk ck, .int .i64 tear] w (DPost 0 (S.crash keeps tear) b F w) := by
  have zk := dKept2 w b F S AK keeps nk ck h hk hnk
  obtain ⟨g, c, m, nn, D, h⟩ := h
  have zm := made_yes w b h.cell0
  have hF := Lib.hid (And.intro h.Fb (And.intro h.Fg h.Fm))
  have HL := Lib.hid h
  have hn2 := h.ok.n2
  obtain ⟨K, hK⟩ : ∃ K, K = S.stayBelow keeps S.n := ⟨_, rfl⟩
  rw [← hK] at zk
  obtain ⟨N, hN⟩ : ∃ N, N = K.length := ⟨_, rfl⟩
  unfold KeptPost2 at zk
  rw [← hN] at zk
  have hN2 : N ≤ 1024 := by
    rw [hN, hK]
    unfold DS.stayBelow
    exact Nat.le_trans (List.length_filter_le _ _) (by simp; exact hn2)
  have HN := Lib.hid (And.intro hN hK)
  have hun := sizeC
  clear hN hK hn2 h hk hnk
  go_enter Tryz.func39, Tryz.ntmps39
  go_wp2_with (first
    | (go_at_call 62; refine zm.mono ?_; (rintro e w2 ⟨rfl, rfl⟩))
    | (go_at_call 72; refine zk.mono ?_; (rintro e w1 ⟨A, c1, rfl, hc1, hr1, hB1⟩; have hr1 := Lib.hid hr1; have hB1 := Lib.hid hB1)))
  clear zk zm
  go_loopw [18] (fun ix wr => ∃ i, i ≤ N ∧ ix = .int .i64 ((i : Nat) : Int) ∧ DskL wr b F (S.crK keeps tear i) g c m nn D ∧ Frame F w1 wr) (fun ix _ => N - vNat ix)
  case atStart => exact ⟨0, Nat.zero_le _, rfl, by rw [DS.crK_zero]; exact HL.out.step hB1.out, Frame.refl _ _⟩
  case round =>
    obtain ⟨i, hi, rfl, hLr, hFr⟩ := hrel
    by_cases hlt : i < N
    · obtain ⟨s, hs⟩ : ∃ s, K[i]? = some s := ⟨_, List.getElem?_eq_getElem (by rw [← HN.out.1]; exact hlt)⟩
      obtain ⟨gk, rfl, hgk1, hgk2, hck⟩ := hr1.out i s hs
      rw [HN.out.2] at hs
      obtain ⟨hsn, hst, hsi⟩ := S.stayBelow_at keeps _ _ _ hs
      have hcell : wr.cell? ⟨gk, i, none⟩ = some (.int .i64 (s : Int)) := (World.cell?_of_block (w := w1) (a := ⟨gk, i, none⟩) (hFr.block gk hgk2 (fun hF' => by have := HL.out.lt gk hF'; omega))).trans hck
      have hlo : S.isLoose s = true := by
        unfold DS.stays at hst
        rw [Bool.and_eq_true] at hst
        exact hst.1
      obtain ⟨l, hl⟩ := Option.isSome_iff_exists.1 hlo
      obtain ⟨_, hl64⟩ := HL.out.ok.loose s l hl
      have hlk := look_run1 hLr.map hLr.loose s (by have := HL.out.ok.n2; omega)
      rw [show (S.crK keeps tear i).loose s = some l from hl, Option.getD_some] at hlk
      have x2 := hLr.cell2
      have hsucc := S.crK_succ keeps tear hst hsi
      have hfs := S.crK_firm keeps tear hsi
      have hw1 : IntKind.i64.wrap ((i : Int) + 1) = (i : Int) + 1 := IntWalk.i64_in _ (by omega)
      have HLr := Lib.hid hLr
      have HFr := Lib.hid hFr
      have H64 := Lib.hid hl64
      have HS := Lib.hid (And.intro hsn hst)
      obtain ⟨n, hn⟩ : ∃ n, n = S.n := ⟨_, rfl⟩
      have hin : (s : Int) < (n : Int) := by omega
      replace hn := Lib.hid hn
      clear hck hgk1 hgk2 hs hlo hLr hFr
      by_cases ht : (i : Int) = tear
      · have hte : ((i : Int) == tear) = true := by simpa using ht
        have hp : S.crashed keeps tear s = l.take 32 ++ (S.firm s).drop (l.take 32).length := by
          rw [show (l.take 32).length = 32 by rw [List.length_take, hl64]; rfl]
          unfold DS.crashed DS.last
          rw [if_pos hst, if_pos (by rw [hsi]; exact ht), hl]
          rfl
        have hpl : (l.take 32).length = 32 := by rw [List.length_take, hl64]; rfl
        have hnext : S.crK keeps tear (i + 1) = { S.crK keeps tear i with firm := DS.upd (S.crK keeps tear i).firm s (l.take 32 ++ ((S.crK keeps tear i).firm s).drop (l.take 32).length) } := by rw [hsucc, hp, hfs]
        have hsr : ∀ (j : Nat) (v : Value), (cellsOfBytes (l.take 32))[j]? = some v → (cellsOfBytes l)[j]? = some v := take_cells l 32
        obtain ⟨pp, hpp⟩ : ∃ pp, pp = l.take 32 := ⟨_, rfl⟩
        rw [← hpp] at hpl hnext hsr
        have HP := Lib.hid (And.intro hpl (And.intro hnext hsr))
        clear hp hpl hnext hsr hpp hsucc hfs ht hsi hst hl
        go_wp2_with (first
          | (refine wpList_allocC rfl rfl ?_)
          | (refine wpList_storeN rfl _ _ rfl wr.heap.size l zs rfl rfl H64.out (by simp) (BlkR.new wr (cellsOfBytes zs) 126) ?_; (intro w3 hb3 hB3 hs3; have c3 : Below wr.heap.size wr w3 := ((Below.refl _ _).alloc (Nat.le_refl _) _).trans hB3; have hL3 := HLr.out.step c3; have y1 := hL3.cell1; change w3.cell? ⟨b, 1, none⟩ = some (.slice (some ⟨g, 0, none⟩) S.n c) at y1; rw [← hn.out] at y1; have t3 : w3.drew.there g (s * 64) (cellsOfBytes pp).length := (there_mid hL3.room (by have := HS.out.1; have := HP.out.1; rw [cellsOfBytes_length]; show s * 64 + pp.length ≤ S.n * 64; omega)); have y1d : w3.drew.cell? ⟨b, 1, none⟩ = some (.slice (some ⟨g, 0, none⟩) n c) := y1; have r3 : ∀ (j : Nat) (v : Value), (cellsOfBytes pp)[j]? = some v → w3.drew.cell? ((⟨wr.heap.size, 0, none⟩ : Addr).add j) = some v := fun j v hv => (by rw [addr_zero_add]; exact hb3.cell (HP.out.2.2 j v hv)); have hfr := grown_setCells w3.drew g (s * 64) (cellsOfBytes pp); have y1s : (w3.drew.setCells g (s * 64) (cellsOfBytes pp)).cell? ⟨b, 1, none⟩ = some (.slice (some ⟨g, 0, none⟩) n c) := (World.cell?_of_block (w := w3.drew) (a := ⟨b, 1, none⟩) (hfr.block b (hL3.lt b hF.out.1) (fun e => hL3.nbg (Option.some.inj e)))).trans y1d; have hL3 := Lib.hid hL3; have c3 := Lib.hid c3; have t3 := Lib.hid t3; have r3 := Lib.hid r3; clear hb3 hB3 hs3 hfr)))
        go_region_held3 (fun w' => w'.cell? ⟨b, 1, none⟩ = some (.slice (some ⟨g, 0, none⟩) n c)) (first | exact y1d | exact y1s) (first
          | (refine step_copy_cells rfl (.tmp 38) (.tmp 40) 32 32 rfl 5 Tryz.underlying32 (by kernel_rfl) g (s * 64) 64 64 ⟨wr.heap.size, 0, none⟩ 32 64 rfl rfl (cellsOfBytes pp) (by rw [cellsOfBytes_length, HP.out.1]; rfl) r3.out t3.out (one_bytes pp) ?_))
        go_wp2
        go_roundw
        case rel =>
          refine ⟨i + 1, by omega, by go_num, ?_, (HFr.out.trans (Frame.of_below (F := F) c3.out.drew) (fun k hk => .inl hk)).trans (frameCells w3.drew g (s * 64) (cellsOfBytes pp) hF.out.2.1) (fun k hk => .inl hk)⟩
          rw [HP.out.2.1]
          exact (hL3.out.kept (w' := w3.drew) (Nat.le_refl _) fun _ _ => rfl).row_over s HS.out.1 pp (by rw [HP.out.1]; decide)
        case measure => simp [vNat]; omega
      · have hte : ((i : Int) == tear) = false := by simpa using ht
        have e64 : l.take 64 = l := List.take_of_length_le (by omega)
        have hp : S.crashed keeps tear s = l.take 64 ++ (S.firm s).drop (l.take 64).length := by
          rw [e64, hl64, List.drop_eq_nil_of_le (by rw [HL.out.ok.firm s hsn]; exact Nat.le_refl _), List.append_nil]
          unfold DS.crashed DS.last
          rw [if_pos hst, if_neg (by rw [hsi]; exact ht), hl]
          rfl
        have hpl : (l.take 64).length = 64 := by rw [e64]; exact hl64
        have hnext : S.crK keeps tear (i + 1) = { S.crK keeps tear i with firm := DS.upd (S.crK keeps tear i).firm s (l.take 64 ++ ((S.crK keeps tear i).firm s).drop (l.take 64).length) } := by rw [hsucc, hp, hfs]
        have hsr : ∀ (j : Nat) (v : Value), (cellsOfBytes (l.take 64))[j]? = some v → (cellsOfBytes l)[j]? = some v := take_cells l 64
        obtain ⟨pp, hpp⟩ : ∃ pp, pp = l.take 64 := ⟨_, rfl⟩
        rw [← hpp] at hpl hnext hsr
        have HP := Lib.hid (And.intro hpl (And.intro hnext hsr))
        clear e64 hp hpl hnext hsr hpp hsucc hfs ht hsi hst hl
        go_wp2_with (first
          | (refine wpList_allocC rfl rfl ?_)
          | (refine wpList_storeN rfl _ _ rfl wr.heap.size l zs rfl rfl H64.out (by simp) (BlkR.new wr (cellsOfBytes zs) 126) ?_; (intro w3 hb3 hB3 hs3; have c3 : Below wr.heap.size wr w3 := ((Below.refl _ _).alloc (Nat.le_refl _) _).trans hB3; have hL3 := HLr.out.step c3; have y1 := hL3.cell1; change w3.cell? ⟨b, 1, none⟩ = some (.slice (some ⟨g, 0, none⟩) S.n c) at y1; rw [← hn.out] at y1; have t3 : w3.drew.there g (s * 64) (cellsOfBytes pp).length := (there_mid hL3.room (by have := HS.out.1; have := HP.out.1; rw [cellsOfBytes_length]; show s * 64 + pp.length ≤ S.n * 64; omega)); have y1d : w3.drew.cell? ⟨b, 1, none⟩ = some (.slice (some ⟨g, 0, none⟩) n c) := y1; have r3 : ∀ (j : Nat) (v : Value), (cellsOfBytes pp)[j]? = some v → w3.drew.cell? ((⟨wr.heap.size, 0, none⟩ : Addr).add j) = some v := fun j v hv => (by rw [addr_zero_add]; exact hb3.cell (HP.out.2.2 j v hv)); have hfr := grown_setCells w3.drew g (s * 64) (cellsOfBytes pp); have y1s : (w3.drew.setCells g (s * 64) (cellsOfBytes pp)).cell? ⟨b, 1, none⟩ = some (.slice (some ⟨g, 0, none⟩) n c) := (World.cell?_of_block (w := w3.drew) (a := ⟨b, 1, none⟩) (hfr.block b (hL3.lt b hF.out.1) (fun e => hL3.nbg (Option.some.inj e)))).trans y1d; have hL3 := Lib.hid hL3; have c3 := Lib.hid c3; have t3 := Lib.hid t3; have r3 := Lib.hid r3; clear hb3 hB3 hs3 hfr)))
        go_region_held3 (fun w' => w'.cell? ⟨b, 1, none⟩ = some (.slice (some ⟨g, 0, none⟩) n c)) (first | exact y1d | exact y1s) (first
          | (refine step_copy_cells rfl (.tmp 38) (.tmp 40) 32 32 rfl 5 Tryz.underlying32 (by kernel_rfl) g (s * 64) 64 64 ⟨wr.heap.size, 0, none⟩ 64 64 rfl rfl (cellsOfBytes pp) (by rw [cellsOfBytes_length, HP.out.1]; rfl) r3.out t3.out (one_bytes pp) ?_))
        go_wp2
        go_roundw
        case rel =>
          refine ⟨i + 1, by omega, by go_num, ?_, (HFr.out.trans (Frame.of_below (F := F) c3.out.drew) (fun k hk => .inl hk)).trans (frameCells w3.drew g (s * 64) (cellsOfBytes pp) hF.out.2.1) (fun k hk => .inl hk)⟩
          rw [HP.out.2.1]
          exact (hL3.out.kept (w' := w3.drew) (Nat.le_refl _) fun _ _ => rfl).row_over s HS.out.1 pp (by rw [HP.out.1]; decide)
        case measure => simp [vNat]; omega
    · obtain rfl : i = N := by omega
      rw [HN.out.1, HN.out.2, S.crK_all keeps tear HL.out.ok] at hLr
      have y2r := hLr.cell2
      have hmr := Lib.hid hLr.map
      have HLr := Lib.hid hLr
      have HFr := Lib.hid hFr
      clear hLr hFr
      go_wp2_with (refine wpList_clear_own rfl _ rfl rfl hmr.out ?_; (intro w5 ho5 hg5; have hL5 := HLr.out.map_set (L := fun _ => none) hg5 ho5 LooseD.none_ (Nat.zero_le _) rfl (fun i l hi => by cases hi); have f4 := hL5.head.frozen 4; have f5 := hL5.head.frozen 5; have x4 := hL5.cell4; have x5 := hL5.cell5; have hL5 := Lib.hid hL5; have hg5 := Lib.hid hg5; clear ho5))
      go_ret
      have h6 := hL5.out.head_set (T := { S with firm := S.crashed keeps tear, loose := fun _ => none, left := none }) 4 (.int .i64 (-1)) ⟨rfl, rfl, rfl, Nat.le_refl _⟩ (fun k hk => by cases hk) rfl
      have h7 := h6.head_set (T := S.crash keeps tear) 5 (.bool false) ⟨rfl, rfl, rfl, Nat.le_refl _⟩ (fun k hk => by cases hk) rfl
      refine ⟨F, rfl, ⟨g, c, m, _, _, h7⟩, fun k hk => .inl hk, ?_⟩
      exact ((((Frame.of_below (F := F) hB1.out).trans HFr.out (fun k hk => .inl hk)).trans (frameGrown hg5.out hF.out.2.2) (fun k hk => .inl hk)).trans (frameSet w5 b 4 _ hF.out.1) (fun k hk => .inl hk)).trans (frameSet _ b 5 _ hF.out.1) (fun k hk => .inl hk)
end Go.Proofs.YtcahpodmcklnbaaGreatDoor
