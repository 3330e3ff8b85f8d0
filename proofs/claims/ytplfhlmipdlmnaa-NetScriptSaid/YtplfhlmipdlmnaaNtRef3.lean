/-
  The document's own net: Deliver, Drop. Conditions: how many were lost is a number far from the greatest.
-/
import Derived.Test.YtplfhlmipdlmnaaNtRef2
namespace Go.Proofs.Ytplfhlmipdlmnaa
open Go.RowKit Nt

section
variable {w w' w7 : World} {b : Nat} {F G : Nat → Prop} {s s2 : N} {v : Value} {ms : List PkM} {m : PkM}
theorem RfTo.then_ {w4 w8 w9 : World} (B : Below w.heap.size w w4) (h : RfTo w4 b F s2 w8) (fr : Frame (fun j => w.heap.size ≤ j ∧ j < w4.heap.size) w8 w9) (hb : b < w.heap.size) (hF : ∀ j, F j → j < w.heap.size) : RfTo w b F s2 w9 := by
  obtain ⟨F', h1, h2, h3⟩ := h
  have hs := B.size
  refine ⟨F', h1.frame fr (fun e => by omega) (fun j hj e => (h2 j hj).elim (fun x => by have := hF j x; omega) fun x => by omega), fun j hj => (h2 j hj).imp id fun x => by omega, ((Frame.of_below (F := fun j => j = b ∨ F j) B).trans h3 fun j e => .inl e).trans fr fun j e => .inr e.1⟩
theorem bytes_le {w w' : World} {F X : Nat → Prop} {A : Option Addr} {l : List UInt8} (h : BytesAt w w.heap.size A l) (hA : ∀ ad, A = some ad → l ≠ [] → F ad.block) (fr : Frame X w w') (hX : ∀ j, F j → ¬ X j) : BytesAt w' w'.heap.size A l := by
  by_cases hne : l = []
  · subst hne; exact bytes_nil
  · exact fr.bytes h fun ad e x => hX _ (hA ad e hne) x
set_option maxRecDepth 100000 in
set_option maxHeartbeats 2000000 in
theorem rfDeliver_yes (h : RfAt w b F s) (k : Nat) (p : Pk) (hk : s.way[k]? = some p) : Calls Try.prog 31 #[.pointer (some ⟨b, 0, none⟩), .int .i64 (k : Int)] w (RfTell F p 0 (RfTo w b F (s.take k))) := by
  have hklt := (List.getElem?_eq_some_iff.1 hk).1
  have hmany := h.ok.many
  have zl := Lib.hid fun w1 (B : Below w.heap.size w w1) => rfLook_yes (h.step B) k p hk
  obtain ⟨ms, m, g, c, hm, hp, r, hw, hms, hr, hg, hml, hnc⟩ := rf_at h hk
  have hglt := h.lt g hg
  obtain ⟨c1, _, _⟩ := rf_cells r
  have hb := h.blt
  have hcm : c ≤ maxLen := by obtain ⟨A', c', e, _, x⟩ := way_form hw; cases e; exact x
  obtain ⟨n, hn⟩ : ∃ n, n = ms.length := ⟨_, rfl⟩
  have hxs : ∀ j u, (ms.flatMap pkCells)[j]? = some u → w.cell? ⟨g, j, none⟩ = some u := fun j u hu => hw.own.cell rfl hu
  obtain ⟨xs1, hx1⟩ : ∃ x, x = (ms.take k).flatMap pkCells := ⟨_, rfl⟩
  obtain ⟨xs2, hx2⟩ : ∃ x, x = (ms.drop (k + 1)).flatMap pkCells := ⟨_, rfl⟩
  have hl1 : xs1.length = k * 3 := by rw [hx1, flk_len pk_len, List.length_take, Nat.min_eq_left (by omega)]
  have hl2 : xs2.length = (n - (k + 1)) * 3 := by rw [hx2, flk_len pk_len, List.length_drop, hn]
  have ho1 : ∀ u ∈ xs1, u.oneCell' = true := by rw [hx1]; exact flk_one pk_one _
  have ho2 : ∀ u ∈ xs2, u.oneCell' = true := by rw [hx2]; exact flk_one pk_one _
  have hr1 : ∀ w1, Below w.heap.size w w1 → ∀ j u, xs1[j]? = some u → w1.cell? ((⟨g, 0, none⟩ : Addr).add j) = some u := fun w1 B j u hu => by
    rw [addr_zero_add]
    refine (B.cell (p := ⟨g, j, none⟩) hglt).trans (hxs j u ?_)
    have hj := (List.getElem?_eq_some_iff.1 hu).1
    rw [hx1, ← flk_take pk_len, List.getElem?_take] at hu
    rwa [if_pos (by omega)] at hu
  obtain ⟨Aj, hAj, hr2⟩ : ∃ Aj : Addr, (if c = k + 1 then some (⟨g, 0, none⟩ : Addr) else (some (⟨g, 0, none⟩ : Addr)).map (·.add ((k + 1) * 3))) = some Aj ∧ ∀ w1, Below w.heap.size w w1 → ∀ t u, xs2[t]? = some u → w1.cell? (Aj.add t) = some u := by
    by_cases hck : c = k + 1
    · refine ⟨⟨g, 0, none⟩, by simp [hck], fun w1 B t u hu => ?_⟩
      have h0 : xs2.length = 0 := by rw [hl2]; omega
      rw [List.length_eq_zero_iff.1 h0] at hu
      simp at hu
    · refine ⟨⟨g, (k + 1) * 3, none⟩, by simp [hck, addr_zero_add], fun w1 B t u hu => ?_⟩
      rw [Addr.add_mid]
      refine (B.cell (p := ⟨g, (k + 1) * 3 + t, none⟩) hglt).trans (hxs _ u ?_)
      rw [hx2, ← flk_drop pk_len, List.getElem?_drop] at hu
      exact hu
  have q1 := cut3_to (some ⟨g, 0, none⟩) n c k (by omega)
  have q2 := cut3_from (some ⟨g, 0, none⟩) n c (k + 1) (by omega)
  rw [hAj] at q2
  have q3 : IntKind.i64.wrap ((k : Int) + 1) = ((k + 1 : Nat) : Int) := by rw [IntWalk.i64_in _ (by omega)]; omega
  have K1 := Lib.hid fun w1 (B : Below w.heap.size w w1) => show w1.cell? ⟨b, 0, none⟩ = some (.slice (some ⟨g, 0, none⟩) n c) from (B.cell (p := ⟨b, 0, none⟩) hb).trans (by rw [hn]; exact c1)
  -- the end
  have FIN : Hid (∀ w4 w7 v7, Below w.heap.size w w4 → Below w4.heap.size w4 w7 → OwnK 48 3 w7 w4.heap.size v7 (k + (n - (k + 1))) (xs1 ++ xs2) → w7.frozen? ⟨b, 0, none⟩ = false ∧ RfTo w4 b F (s.take k) (w7.setCell ⟨b, 0, none⟩ v7)) := Lib.hid fun w4 w7 v7 B4 B7 own => by
    have e1 : xs1 ++ xs2 = (ms.eraseIdx k).flatMap pkCells := by rw [hx1, hx2, List.eraseIdx_eq_take_drop_succ, List.flatMap_append]
    have e2 : k + (n - (k + 1)) = (ms.eraseIdx k).length := by rw [List.length_eraseIdx, if_pos (by omega)]; omega
    rw [e1, e2] at own
    have h4 := h.step B4
    have s4 := B4.size
    refine ⟨(h4.step B7).froz 0, h4.setRow (Frame.of_below B7) (own.less (Nat.zero_le _)) (fun j hj => .inr (own.lt j hj).1) (fun q hq => ?_) (take_ok h.ok k) ?_⟩
    · obtain ⟨g1, g2, g3⟩ := hw.byt q (List.mem_of_mem_eraseIdx hq)
      refine ⟨g1.step (step_trans B4 B7), g2, fun ad e hne => ⟨.inl (g3 ad e hne).1, fun e2 => ?_⟩⟩
      have := (own.lt _ e2).1
      have := h.lt _ (g3 ad e hne).1
      omega
    · unfold N.take
      rw [← hms, List.eraseIdx_eq_take_drop_succ, List.eraseIdx_eq_take_drop_succ, List.map_append, List.map_take, List.map_drop]
  have HF := Lib.hid (And.intro h.lt (And.intro hb h.in_))
  have HL := Lib.hid (And.intro hl1 (And.intro hl2 (And.intro ho1 (And.intro ho2 (And.intro hr1 hr2)))))
  have HN := Lib.hid (show n ≤ 4096 ∧ k < n from ⟨by omega, by omega⟩)
  obtain ⟨k1, hk1⟩ : ∃ x, x = k + 1 := ⟨_, rfl⟩
  obtain ⟨n2, hn2⟩ : ∃ x, x = n - (k + 1) := ⟨_, rfl⟩
  rw [← hn2] at HL FIN q2
  rw [← hk1] at q2 q3
  have HK := Lib.hid (And.intro hk1 hn2)
  obtain ⟨c2, hc2⟩ : ∃ x, x = c - k1 := ⟨_, rfl⟩
  rw [← hc2] at q2
  unfold RfTell at zl ⊢
  unfold pkCells at zl ⊢
  dsimp only at zl ⊢
  obtain ⟨M, hM⟩ : ∃ M, M = p.b.length := ⟨_, rfl⟩
  rw [← hM] at zl ⊢
  clear hM hk1 hn2 hc2 hx1 hx2 hl1 hl2 ho1 ho2 hr1 hr2 hAj hxs hn hcm hb c1 hglt hml hnc hms hw r hp hm hr hg hmany hklt h hk
  go_enter Try.func31, Try.ntmps31
  go_wp2_with (first
    | ((with_reducible refine atWorld w ?_); refine wpList_allocRow (w := w) info_pk rfl rfl ?_; (intro w1 b1 B1 s1; have z1 := zl.out w1 B1; have b1 := Lib.hid b1; replace s1 := Lib.hid s1))
    | (go_at_call 30; (with_reducible refine z1.mono ?_); (rintro e w2 ⟨A, c3, rfl, y1, y2, y3, B2⟩; have y3 := (fun ad e hne => (y3 ad e hne).1 : ∀ ad, A = some ad → p.b ≠ [] → F ad.block); have Y := Lib.hid (And.intro y1 (And.intro y2 y3)); clear y1 y2 y3))
    | ((with_reducible refine atWorld w2 ?_); refine wpList_allocRow (w := w2) info_pk rfl rfl ?_; (intro w3 b3 B3 s3; have b3 := Lib.hid b3; replace s3 := Lib.hid s3))
    | ((with_reducible refine atWorld w3 ?_); refine wpList_storeRow (w := w3) info_pk rfl (.tmp 6) (.tmp 13) rfl w2.heap.size [.int .i64 (p.fr : Int), .int .i64 (p.to : Int), .slice A M c3] pkZ rfl rfl rfl rfl (pk3_one _ _ _ _ _) b3.out ?_; (intro w4 b4 B4 s4 k4; have C4 : Below w1.heap.size w1 w4 := step_trans B2 (B3.trans B4); have D4 := step_trans B1 C4; have x4 := K1.out w4 D4; have x5 := K1.out (w4.alloc (.cells #[] 48)) (step_alloc D4 _); have S4 := D4.size; have b0 := Lib.hid (b1.out.below C4 b1.out.lt); have b4 := Lib.hid b4; replace s4 := Lib.hid s4; clear k4))
    | (at_builtin; refine wpList_appendK rfl (.tmp 19) (.tmp 25) elPk rfl (.slice (some ⟨w4.heap.size, 0, none⟩) 0 0) 0 [] xs1 k w4.heap.size rfl (OwnK.of_blk (k := 3) (cur := []) (BlkR.new w4 [] 48) (Nat.le_refl _) (Nat.le_refl _) (Nat.zero_le _) rfl rfl) ⟨g, 0, none⟩ c rfl HL.out.1 (HL.out.2.2.2.2.1 _ (step_alloc D4 _)) HL.out.2.2.1 (by have := HN.out; unfold maxLen; omega) (by have := HN.out; omega) (by simp) ?_; (intro v6 w6 o6 gr6 _; rw [Nat.zero_add, List.nil_append] at o6; have G6 : Below w4.heap.size w4 w6 := grown_below (step_alloc (Below.refl _ w4) _) gr6 (by simp) (fun j e => by cases e; exact Nat.le_refl _); have x6 := K1.out w6 (step_trans D4 G6); obtain ⟨A6, c6, rfl, _⟩ := o6.form; have o6 := Lib.hid o6; have G6 := Lib.hid G6; clear gr6))
    | (at_builtin; go_loud (refine wpList_appendK rfl (.tmp 28) (.tmp 35) elPk rfl (.slice A6 k c6) k xs1 xs2 n2 w4.heap.size rfl o6.out Aj c2 rfl HL.out.2.1 (HL.out.2.2.2.2.2 _ (step_trans D4 G6.out)) HL.out.2.2.2.1 (by have := HN.out; have := HK.out; unfold maxLen; omega) (by have := HN.out; have := HK.out; omega) G6.out.size ?_; (intro v7 w7 o7 gr7 _; have G7 : Below w4.heap.size w4 w7 := grown_below G6.out gr7 G6.out.size (fun j e => (o6.out.lt j e).1); have x7 := K1.out w7 (step_trans D4 G7); obtain ⟨f7, T7⟩ := FIN.out w4 w7 v7 D4 G7 o7; obtain ⟨A7, c7, rfl, _⟩ := o7.form; have b5 : BlkR 48 (w7.setCell ⟨b, 0, none⟩ (.slice A7 (k + n2) c7)) w2.heap.size [.int .i64 (p.fr : Int), .int .i64 (p.to : Int), .slice A M c3] := (Below.heap_setCell w7 ⟨b, 0, none⟩ _ w2.heap.size (fun e => by have e : w2.heap.size = b := e; have := HF.out.2.1; have := B1.size; have := B2.size; omega)).trans (b4.out.below G7 b4.out.lt); have b6 : BlkR 48 (w7.setCell ⟨b, 0, none⟩ (.slice A7 (k + n2) c7)) w.heap.size pkZ := (Below.heap_setCell w7 ⟨b, 0, none⟩ _ w.heap.size (fun e => by have e : w.heap.size = b := e; have := HF.out.2.1; omega)).trans (b0.out.below G7 b0.out.lt); have b5 := Lib.hid b5; have b6 := Lib.hid b6; have T7 := Lib.hid T7; have G7 := Lib.hid G7; clear o7 gr7)))
    | ((with_reducible refine atWorld (w7.setCell ⟨b, 0, none⟩ (.slice A7 (k + n2) c7)) ?_); refine wpList_loadRow (w := w7.setCell ⟨b, 0, none⟩ (.slice A7 (k + n2) c7)) info_pk rfl (.tmp 6) rfl w2.heap.size 0 [.int .i64 (p.fr : Int), .int .i64 (p.to : Int), .slice A M c3] rfl rfl (rangeOf b5.out) ?_)
    | ((with_reducible refine atWorld (w7.setCell ⟨b, 0, none⟩ (.slice A7 (k + n2) c7)) ?_); refine wpList_storeRow (w := w7.setCell ⟨b, 0, none⟩ (.slice A7 (k + n2) c7)) info_pk rfl (.tmp 4) (.tmp 39) rfl w.heap.size [.int .i64 (p.fr : Int), .int .i64 (p.to : Int), .slice A M c3] pkZ rfl rfl rfl rfl (pk3_one _ _ _ _ _) b6.out ?_; (intro w9 b9 B9 s9 k9; have b9 := Lib.hid b9; replace s9 := Lib.hid s9)))
  have b9 := b9.out
  have fr9 : Frame (fun j => w.heap.size ≤ j ∧ j < w4.heap.size) (w7.setCell ⟨b, 0, none⟩ (.slice A7 (k + n2) c7)) w9 := ⟨B9.os, B9.tape, B9.output, B9.size, fun j hj hn => k9 j fun e => hn (by rw [e]; exact ⟨Nat.le_refl _, b0.out.lt⟩)⟩
  have T9 := RfTo.then_ D4 T7.out fr9 HF.out.2.1 HF.out.1
  refine bodyPost_ret (w := w9) (results_cell2 Try.results31 _ _ _ _ _ _ rfl rfl (loadRow info_pk (by rfl) b9)) rfl ⟨A, c3, rfl, ?_, Y.out.2.1, Y.out.2.2, T9⟩
  have fr2 : Frame (fun j => j = b ∨ w.heap.size ≤ j) w2 w9 := (((Frame.of_below (F := fun j => j = b ∨ w.heap.size ≤ j) (B3.trans B4)).trans ((Frame.of_below (F := fun j => j = b) G7.out).setAt ⟨b, 0, none⟩ _ rfl) fun j e => .inl (.inl e)).trans fr9 fun j e => .inl (.inr e.1))
  exact bytes_le Y.out.1 Y.out.2.2 fr2 fun j hj e => e.elim (fun e => HF.out.2.2 (e ▸ hj)) fun e => by have := HF.out.1 j hj; omega
set_option maxRecDepth 100000 in
theorem rfDrop_no (h : RfAt w b F s) (i : Int) (hi : s.has i = false) : Calls Try.prog 32 #[.pointer (some ⟨b, 0, none⟩), .int .i64 i] w fun e w' => e = .returned (.int .i64 5) ∧ RfTo w b F s w' := by
  have zl := rfDeliver_no h i hi
  have HH := Lib.hid h
  clear h hi
  go_enter Try.func32, Try.ntmps32
  go_wp2_with (first
    | (go_at_call 31; (with_reducible refine zl.mono ?_); (rintro e w2 ⟨rfl, B2⟩))
    | ((with_reducible refine atWorld w2 ?_); refine wpList_allocRow (w := w2) info_pk rfl rfl ?_; (intro w3 b3 B3 s3; have b3 := Lib.hid b3; replace s3 := Lib.hid s3))
    | ((with_reducible refine atWorld w3 ?_); refine wpList_storeRow (w := w3) info_pk rfl (.tmp 5) (.tmp 11) rfl w2.heap.size pkZ pkZ rfl rfl rfl rfl pkZ_one b3.out ?_; (intro w4 b4 B4 s4 k4; have D4 := step_trans B2 (B3.trans B4); have b4 := Lib.hid b4; replace s4 := Lib.hid s4; clear k4)))
  go_ret
  exact ⟨rfl, HH.out.same D4⟩
set_option maxRecDepth 100000 in
set_option maxHeartbeats 1000000 in
theorem rfDrop_yes (h : RfAt w b F s) (k : Nat) (hk : k < s.way.length) (hl : s.lost ≤ 4611686018427387904) : Calls Try.prog 32 #[.pointer (some ⟨b, 0, none⟩), .int .i64 (k : Int)] w fun e w' => e = .returned (.int .i64 0) ∧ RfTo w b F (s.drop k) w' := by
  obtain ⟨p, hp⟩ : ∃ p, s.way[k]? = some p := ⟨_, List.getElem?_eq_getElem hk⟩
  have zl := rfDeliver_yes h k p hp
  unfold RfTell pkCells at zl
  dsimp only at zl
  have hlt := Lib.hid (And.intro h.lt h.blt)
  have q : IntKind.i64.wrap ((s.lost : Int) + 1) = ((s.lost + 1 : Nat) : Int) := by rw [IntWalk.i64_in _ (by omega)]; omega
  have FIN : Hid (∀ w2 w4, RfTo w b F (s.take k) w2 → Below w2.heap.size w2 w4 → w4.cell? ⟨b, 10, none⟩ = some (.int .i64 (s.lost : Int)) ∧ w4.frozen? ⟨b, 10, none⟩ = false ∧ RfTo w b F (s.drop k) (w4.setCell ⟨b, 10, none⟩ (.int .i64 ((s.lost + 1 : Nat) : Int)))) := Lib.hid fun w2 w4 T B => by
    have T4 : RfTo w b F (s.take k) w4 := T.on fun G x => x.same B
    obtain ⟨F', h4, _, _⟩ := id T4
    exact ⟨h4.cells.2.1, h4.froz 10, T4.on fun G x => x.setN (s.lost + 1)⟩
  obtain ⟨n, hn⟩ : ∃ n, n = s.lost := ⟨_, rfl⟩
  obtain ⟨n1, hn1⟩ : ∃ x, x = n + 1 := ⟨_, rfl⟩
  obtain ⟨M, hM⟩ : ∃ M, M = p.b.length := ⟨_, rfl⟩
  rw [← hM] at zl
  rw [← hn] at FIN q
  rw [← hn1] at FIN q
  clear h hk hp hl hn hn1 hM
  go_enter Try.func32, Try.ntmps32
  go_wp2_with (first
    | (go_at_call 31; (with_reducible refine zl.mono ?_); (rintro e w2 ⟨A, c, rfl, _, _, _, T2⟩; have T2 := Lib.hid T2))
    | ((with_reducible refine atWorld w2 ?_); refine wpList_allocRow (w := w2) info_pk rfl rfl ?_; (intro w3 b3 B3 s3; have b3 := Lib.hid b3; replace s3 := Lib.hid s3))
    | ((with_reducible refine atWorld w3 ?_); refine wpList_storeRow (w := w3) info_pk rfl (.tmp 5) (.tmp 11) rfl w2.heap.size [.int .i64 (p.fr : Int), .int .i64 (p.to : Int), .slice A M c] pkZ rfl rfl rfl rfl (pk3_one _ _ _ _ _) b3.out ?_; (intro w4 b4 B4 s4 k4; obtain ⟨x1, x2, x3⟩ := FIN.out w2 w4 T2.out (B3.trans B4); have x3 := Lib.hid x3; have b4 := Lib.hid b4; replace s4 := Lib.hid s4; clear k4)))
  go_ret
  exact ⟨rfl, x3.out⟩
theorem rfDrop_any (h : RfAt w b F s) (i : Int) (hl : s.lost ≤ 4611686018427387904) (E : Int) (s2 : N) (hE : s.lookE i = E) (hs : s.dropI i = s2) :
    Calls Try.prog 32 #[.pointer (some ⟨b, 0, none⟩), .int .i64 i] w fun e w' => e = .returned (.int .i64 E) ∧ RfTo w b F s2 w' := by
  unfold N.lookE at hE
  unfold N.dropI at hs
  cases hh : s.has i with
  | false =>
    rw [hh, if_neg (by decide)] at hE hs
    subst hE; subst hs
    exact rfDrop_no h i hh
  | true =>
    rw [hh, if_pos rfl] at hE hs
    subst hE; subst hs
    obtain ⟨k, rfl, hk, _⟩ := has_get hh
    exact rfDrop_yes h k hk hl
theorem rfLook_any (h : RfAt w b F s) (i : Int) (p : Pk) (E : Int) (hp : s.at_ i = p) (hE : s.lookE i = E) : Calls Try.prog 30 #[.pointer (some ⟨b, 0, none⟩), .int .i64 i] w (RfTell F p E (RfTo w b F s)) := by
  subst hp
  unfold N.lookE at hE
  cases hh : s.has i with
  | false =>
    rw [hh, if_neg (by decide)] at hE
    subst hE
    have e0 : s.at_ i = zPk := by unfold N.at_; rw [hh, if_neg (by decide)]
    rw [e0]
    exact (rfLook_no h i hh).mono fun e w' ⟨k1, k2⟩ => ⟨none, 0, k1, bytes_nil, Nat.le_refl _, (fun ad e => by cases e), h.same k2⟩
  | true =>
    rw [hh, if_pos rfl] at hE
    subst hE
    obtain ⟨k, rfl, hk, hp⟩ := has_get hh
    exact (rfLook_yes h k _ hp).mono fun e w' ⟨A, c, k1, k2, k3, k4, k5⟩ => ⟨A, c, k1, k2, k3, (fun ad e hne => (k4 ad e hne).1), h.same k5⟩
theorem rfDeliver_any (h : RfAt w b F s) (i : Int) (p : Pk) (E : Int) (s2 : N) (hp : s.at_ i = p) (hE : s.lookE i = E) (hs : s.del i = s2) : Calls Try.prog 31 #[.pointer (some ⟨b, 0, none⟩), .int .i64 i] w (RfTell F p E (RfTo w b F s2)) := by
  subst hp
  unfold N.lookE at hE
  unfold N.del at hs
  cases hh : s.has i with
  | false =>
    rw [hh, if_neg (by decide)] at hE hs
    subst hE; subst hs
    have e0 : s.at_ i = zPk := by unfold N.at_; rw [hh, if_neg (by decide)]
    rw [e0]
    exact (rfDeliver_no h i hh).mono fun e w' ⟨k1, k2⟩ => ⟨none, 0, k1, bytes_nil, Nat.le_refl _, (fun ad e => by cases e), h.same k2⟩
  | true =>
    rw [hh, if_pos rfl] at hE hs
    subst hE; subst hs
    obtain ⟨k, rfl, hk, hp⟩ := has_get hh
    exact rfDeliver_yes h k _ hp
end
end Go.Proofs.Ytplfhlmipdlmnaa
