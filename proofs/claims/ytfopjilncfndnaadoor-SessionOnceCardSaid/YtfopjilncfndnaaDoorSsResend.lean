/-
  A session's Resend. Conditions: the table of crc lies as the program's text lays it, beside the session.
-/
import Derived.Test.YtfopjilncfndnaaDoorSsLists
namespace Go.Proofs.YtfopjilncfndnaaDoor
open Go.RowKit Fix
attribute [local go_sem] Oper.semAt_some

/-- the datagrams of so many messages -/
def dats (s : Ss.S) (l : List (Nat × List UInt8)) : List (List UInt8) := l.map fun m => (s.dat m).enc
/-- behind some rounds of Resend: the loop began in W0; the list's variable is at B -/
structure RsI (B : Nat) (W0 : World) (es : List (List UInt8)) (V : World) : Prop where
  fr : Frame (fun j => j = B) W0 V
  far : W0.heap.size + 2 ≤ V.heap.size
  all : ∃ v vs, BlkR 35 V B [v] ∧ OwnR 39 V (W0.heap.size + 2) v vs ∧ Lsz V (W0.heap.size + 2) V.heap.size vs es
theorem own_keep {E : TypeId} {V V' : World} {base : Nat} {v : Value} {xs : List Value} (h : OwnR E V base v xs) (hk : ∀ j, base ≤ j → j < V.heap.size → V'.heap[j]? = V.heap[j]?) : OwnR E V' base v xs := by
  refine ⟨h.1, ?_⟩
  rcases h.2 with h2 | ⟨g, cap, cur, e, hg, hb, r⟩
  · exact .inl h2
  · exact .inr ⟨g, cap, cur, e, hg, (hk g hg (Array.getElem?_eq_some_iff.1 hb).1).trans hb, r⟩
theorem RsI.moved {B : Nat} {W0 V V' : World} {es : List (List UInt8)} (h : RsI B W0 es V) (hB : B < W0.heap.size) (fr : Frame (fun j => j = W0.heap.size ∨ j = W0.heap.size + 1) V V') : RsI B W0 es V' := by
  obtain ⟨a, b, v, vs, c, d, e⟩ := h
  have s0 := a.size
  refine ⟨a.trans fr fun j e => .inr (by omega), Nat.le_trans b fr.size, v, vs, c.frame fr (by omega), own_keep d (fun j hj hl => fr.block j hl (by omega)), e.keep fr.size fun g m hg hb => (fr.block g hb.lt (by omega)).trans hb⟩
/-- append within a region of a round -/
theorem opIn_append {F : Fence} {n : Nat} {P : Program} {o : Oper} {a : Act} {w w' : World} {Q : Exit → Act → World → Prop} {K : Act → World → Prop} (s x : Operand) (t : TypeId)
    (ho : o.op = .call { callee := .builtin .append, args := #[s, x], argTypes := #[t, t] }) {v u v' : Value} (hs : a.eval s = v) (hx : a.eval x = u)
    (hrun : (Builtin.append_ #[t, t] o.type #[v, u]).run P w = .ok v' w') (h : K (a.put o.dst v') w') : Oper.wpIn F n P o a w K Q := by
  unfold Oper.wpIn
  refine ⟨by simp [Oper.about, ho, resolve, Target.leads, Sem.run_pure], ?_⟩
  rw [Oper.semAt_plain F _ _ (by rw [ho]; intro c hc; cases hc)]
  simp [execOp, ho, resolve, invoke, builtin, hs, hx, hrun, Result.andThen]
  exact h
set_option maxRecDepth 100000 in
set_option maxHeartbeats 2000000 in
theorem resend_any (b : Nat) (F : Nat → Prop) (s : Ss.S) (w : World) (h : SesAt w b F s) (ht : TabAt w) :
    Calls Tryd.prog 27 #[.pointer (some ⟨b, 0, none⟩)] w fun e w' => ∃ A c vs, e = .returned (.slice A s.wait.length c) ∧ OwnR 39 w' w.heap.size (.slice A s.wait.length c) vs ∧ Lsz w' w.heap.size w'.heap.size vs (dats s s.wait) ∧ Below w.heap.size w w' := by
  have HX := Lib.hid (And.intro h ht)
  have B1 := step_alloc (Below.refl _ w) (.cells #[.pointer (some ⟨b, 0, none⟩)] 24)
  have zm := isMade_yes b (w.alloc (.cells #[.pointer (some ⟨b, 0, none⟩)] 24)) (by obtain ⟨⟨its, f, r⟩, _, _⟩ := h.step B1; exact (ses_cells r).1)
  clear h ht
  refine calls_of_wp_marks Tryd.func27 rfl ?_
  simp only [Tryd.ntmps27, List.size_toArray, List.length_cons, List.length_nil, Nat.reduceAdd, Nat.reduceSub, Array.replicate_succ, Array.replicate_zero, List.push_toArray, List.append_toArray, List.nil_append, List.cons_append]
  go_wp2_with (first
    | (go_at_call 31; refine zm.mono ?_; (rintro e w2 ⟨rfl, rfl⟩))
    | (go_at_call 42; refine (all_any b 3 _).mono ?_; (rintro e w3 ⟨rfl, b3, B3, s3⟩)))
  clear zm
  obtain ⟨h, ht⟩ := HX.out
  have sS : (w.alloc (.cells #[.pointer (some ⟨b, 0, none⟩)] 24)).heap.size = w.heap.size + 1 := by simp
  have sL : ((w.alloc (.cells #[.pointer (some ⟨b, 0, none⟩)] 24)).alloc (.cells #[.slice none 0 0] 35)).heap.size = w.heap.size + 1 + 1 := by simp
  have bS := BlkR.new w [.pointer (some ⟨b, 0, none⟩)] 24
  have bL := BlkR.new (w.alloc (.cells #[.pointer (some ⟨b, 0, none⟩)] 24)) [.slice none 0 0] 35
  have B2 := step_alloc B1 (.cells #[.slice none 0 0] 35)
  have bS3 := BlkR.below (BlkR.below bS ((Below.refl _ _).alloc (Nat.le_refl _) (.cells #[.slice none 0 0] 35)) bS.lt) B3 (by rw [sL]; omega)
  have bL3 := BlkR.below bL B3 (by rw [sL, sS]; omega)
  rw [sS] at bL3
  have B03 := step_trans B2 B3
  rw [sL] at b3 s3
  have h3 := h.step B03
  have t3 := ht.below B03 (Nat.le_refl _)
  have hbl := h.blt
  have hTl : 0 < w.heap.size := block_lt_of_cell (ht 0 (by decide))
  have hm := h.ok.many
  obtain ⟨⟨its3, f3, r3⟩, hlt3, _⟩ := h3
  have hlt : ∀ j, F j → j < w.heap.size := h.lt
  have STILL : Hid (∀ V, Frame (fun j => j = w.heap.size + 1) w3 V → AlAt 63 F V (w.heap.size + 1 + 1) b 3 (sPre b s) (sPost s) its3 f3 s.wait ∧ V.cell? ⟨w.heap.size, 0, none⟩ = some (.pointer (some ⟨b, 0, none⟩)) ∧ SesAt V b F s ∧ TabAt V) := Lib.hid fun V fr => by
    have hk : ∀ j, F j → ¬ j = w.heap.size + 1 := fun j hj => by have := hlt j hj; omega
    have rr := r3.frame hlt3 fr (by omega) hk
    exact ⟨⟨(b3.frame fr (by omega)).cell rfl, rr⟩, (bS3.frame fr (by omega)).cell rfl, ⟨⟨its3, f3, rr⟩, fun j hj => by have := hlt j hj; have := fr.size; omega, h.ok⟩, t3.frame fr (by omega)⟩
  have I0 : ∀ o1 o2, RsI (w.heap.size + 1) w3 [] ((w3.alloc o1).alloc o2) := fun o1 o2 => by
    have B5 : Below w3.heap.size w3 ((w3.alloc o1).alloc o2) := ((Below.refl _ _).alloc (Nat.le_refl _) _).alloc (by simp) _
    exact ⟨Frame.of_below B5, by simp, .slice none 0 0, [], bL3.below B5 bL3.lt, OwnR.nil_, Lsz.nil_ (by simp)⟩
  have HY := Lib.hid (And.intro hlt3 (And.intro I0 (And.intro B03 (And.intro hm s3))))
  have hBB : w.heap.size + 1 < w3.heap.size := by omega
  have HB := Lib.hid hBB
  clear h ht sS sL bS bL B2 bS3 bL3 B03 b3 s3 t3 hbl hm r3 hlt3 hlt I0 B3 B1 hBB hTl
  refine wp_all 63 F (w.heap.size + 1 + 1) b 3 (sPre b s) (sPost s) its3 f3 s.wait rfl rfl HY.out.1 (fun i V => RsI (w.heap.size + 1) w3 (dats s (s.wait.take i)) V) (fun i V hI => (STILL.out V hI.fr).1)
    (fun i V hI => hI.moved HB.out (Frame.drawn (Frame.refl _ _)))
    (fun i V r ob hr hI => hI.moved HB.out ((Frame.refl _ V).putObj ob (.inl hr)))
    (fun i V ob hI => hI.moved HB.out ((Frame.refl _ V).newObj ob))
    (fun o1 o2 => HY.out.2.1 o1 o2) (fun m v k => { tmps := #[.pointer (some ⟨b, 0, none⟩), .pointer (some ⟨w.heap.size, 0, none⟩), .slice none 0 0, .pointer (some ⟨w.heap.size + 1, 0, none⟩), .pointer (some ⟨k, 0, none⟩), .pointer (some ⟨b, 0, none⟩), .bool true, .bool false, .pointer (some ⟨b, 0, none⟩), .pointer (some ⟨b, 0, none⟩), .pointer (some ⟨b, 3, none⟩), .func (.func 56) #[] #[.pointer (some ⟨w.heap.size + 1 + 1, 0, none⟩)], .agg #[.int .i64 (m.1 : Int), v], undef, undef, undef, undef, undef, undef, undef], defers := [] }) ?assign ?body ?done
  case assign =>
    rintro lp m v V K ⟨A, n, c, rfl⟩ hK
    gi_wp2
    exact hK
  case body =>
    intro lp i k m v V hi hp hk mA hI
    obtain ⟨fr, far, u, vs, bu, ou, lu⟩ := hI
    obtain ⟨_, cS, hS, tV⟩ := STILL.out V fr
    obtain ⟨A, c, rfl, hAc, hbA, _⟩ := hp
    have c0 := mA.cell (k := 0) rfl
    have c1 := mA.cell (k := 1) rfl
    have cu := bu.cell (k := 0) rfl
    have hmem := List.mem_of_getElem? hi
    have hpay := hS.ok.pay m hmem
    have zt := tell_any b F s V.drew (hS.step (Below.refl V.heap.size V).drew) (tV.below (Below.refl V.heap.size V).drew (Nat.le_refl _)) m (Ss.dat_ok hS.ok m (.inr hpay)) A m.2.length c rfl (hbA.step (Below.refl V.heap.size V).drew)
    unfold DatPost at zt
    have mixed : Tryd.prog.follows .mixedOrders = true := by kernel_rfl
    have i16 : i < 16 := by have := (List.getElem?_eq_some_iff.1 hi).1; have := HY.out.2.2.2.1; omega
    have hvl : vs.length = i := by
      have := lu.len
      rw [this]
      have := (List.getElem?_eq_some_iff.1 hi).1
      simp [dats]; omega
    have hes : dats s (s.wait.take (i + 1)) = dats s (s.wait.take i) ++ [(s.dat m).enc] := by
      unfold dats
      rw [List.take_add_one, hi, Option.toList_some, List.map_append]; rfl
    obtain ⟨n, hn⟩ : ∃ n, n = m.2.length := ⟨_, rfl⟩
    rw [← hn] at zt c1 ⊢
    have AFT : Hid (∀ V4 A6 c6, OwnZ V4 V.drew.heap.size (.slice A6 (n + 41) c6) (s.dat m).enc → Below V.drew.heap.size V.drew V4 →
        V4.cell? ⟨w.heap.size + 1, 0, none⟩ = some u ∧ (V4.alloc (.cells #[.slice A6 (n + 41) c6] 39)).cell? ⟨w.heap.size + 1, 0, none⟩ = some u ∧
        ∃ A5 k5 c5 w5, (Builtin.append_ #[35, 35] 35 #[u, .slice (some ⟨V4.heap.size, 0, none⟩) 1 1]).run Tryd.prog (V4.alloc (.cells #[.slice A6 (n + 41) c6] 39)) = .ok (.slice A5 k5 c5) w5 ∧
          w5.cell? ⟨w.heap.size + 1, 0, none⟩ = some u ∧ w5.frozen? ⟨w.heap.size + 1, 0, none⟩ = false ∧
          ∀ a, RndPost w3.heap.size (fun W => RsI (w.heap.size + 1) w3 (dats s (s.wait.take (i + 1))) W) V .normal a (w5.setCell ⟨w.heap.size + 1, 0, none⟩ (.slice A5 k5 c5))) := Lib.hid fun V4 A6 c6 o6 B6 => by
      have hBB := HB.out
      have s4 := B6.size
      have sVd : V.drew.heap.size = V.heap.size := rfl
      have B64 : Below V.heap.size V V4 := (Below.refl V.heap.size V).drew.trans B6
      have b4 := bu.below B64 bu.lt
      obtain ⟨V5, hV5⟩ : ∃ V5, V5 = V4.alloc (.cells #[.slice A6 (n + 41) c6] 39) := ⟨_, rfl⟩
      have B45 : Below V4.heap.size V4 V5 := by rw [hV5]; exact (Below.refl _ _).alloc (Nat.le_refl _) _
      have B5 := step_trans B64 B45
      have b5 := bu.below B5 bu.lt
      have o5 := ou.below B5 (Nat.le_refl _)
      have e5 := BlkR.new V4 [.slice A6 (n + 41) c6] 39
      have e5' : BlkR 39 V5 V4.heap.size [.slice A6 (n + 41) c6] := by rw [hV5]; exact e5
      have l5 := (lu.keep (Nat.le_refl _) fun g m hg hb => (B5.block g hb.lt).trans hb).push (v := .slice A6 (n + 41) c6) (x := (s.dat m).enc) (hi' := V4.heap.size) (o6.keep fun g m hg hb => (B45.block g hb.lt).trans hb) (fun k hk => (o6.lt k hk).2) (by omega)
      rw [← hes] at l5
      have s5 : V5.heap.size = V4.heap.size + 1 := by rw [hV5]; simp
      obtain ⟨v5, w5, hrun, ho5, hg5, _⟩ := run_appendR (P := Tryd.prog) elLists o5 (ys := [.slice A6 (n + 41) c6]) (m := 1) (c := 1) (A := some ⟨V4.heap.size, 0, none⟩) rfl (e5'.row ⟨[], by simp⟩ (by omega : V4.heap.size < V5.heap.size)) (fun x hx => by simp only [List.mem_singleton] at hx; subst hx; rfl) (by rw [hvl]; unfold maxLen; simp; omega) (by rw [hvl]; simp; omega) (by omega) 35
      rw [← hV5]
      obtain ⟨A5, c5, rfl, h51, h52⟩ := ho5.form
      have hlow : ∀ k, u.ownBlock = some k → w3.heap.size + 2 ≤ k := fun k hk => (ou.lt k hk).1
      have hne : ∀ j, j < w3.heap.size + 2 → j < V5.heap.size → w5.heap[j]? = V5.heap[j]? := fun j hj hl => hg5.block j hl fun e => by have := hlow j e.symm; omega
      have b6 : BlkR 35 w5 (w.heap.size + 1) [u] := (hne _ (by omega) b5.lt).trans b5
      have l6 := l5.grown o5 hg5
      refine ⟨b4.cell rfl, b5.cell rfl, A5, _, c5, w5, hrun, b6.cell rfl, b6.frozen 0, fun a => ⟨?_, ?_, ?_⟩⟩
      · rw [Below.heap_setCell w5 ⟨w.heap.size + 1, 0, none⟩ _ _ (by show w3.heap.size ≠ w.heap.size + 1; omega), hne _ (by omega) (by omega)]
        exact B5.block _ (by omega)
      · rw [Below.heap_setCell w5 ⟨w.heap.size + 1, 0, none⟩ _ _ (by show w3.heap.size + 1 ≠ w.heap.size + 1; omega), hne _ (by omega) (by omega)]
        exact B5.block _ (by omega)
      · have fr5 : Frame (fun j => j = w.heap.size + 1) w3 w5 := (fr.trans (Frame.of_below (F := fun _ => False) B5) fun _ x => x.elim).trans (⟨hg5.os, hg5.tape, hg5.output, hg5.size, fun j hj hx => hg5.block j hj fun e => hx ⟨j, e.symm, rfl⟩⟩ : Frame (fun j => ∃ k, u.ownBlock = some k ∧ j = k) V5 w5) fun j ⟨k, hk, e⟩ => .inr (by have := hlow k hk; omega)
        have fs : Frame (fun j => j = w.heap.size + 1) w5 (w5.setCell ⟨w.heap.size + 1, 0, none⟩ (.slice A5 ((vs ++ [Value.slice A6 (n + 41) c6]).length) c5)) := (Frame.refl _ _).setAt _ _ rfl
        have s6 := hg5.size
        have s7 := fs.size
        refine ⟨fr5.trans fs fun j e => .inl e, by omega, _, _, b6.set_ 0 _, own_keep ho5 (fun j hj hl => fs.block j hl (by omega)), ?_⟩
        exact l6.keep (by omega) fun g m hg hb => (fs.block g hb.lt (by omega)).trans hb
    clear fr far bu ou lu hS tV hbA hAc hmem hpay hvl hes i16 hn hi HX HY STILL
    gi_wp2
    refine wpIn_region_any mixed ?_
    change wpAnyIn _ _ _ _ _ _ _ _ _ (World.drew _)
    refine wpAnyIn_ready (rs := [0, 1, 2]) (by kernel_rfl) (by simp) (AllReadyIn.cons rfl (fun K hK => ?_) (AllReadyIn.cons rfl (fun K hK => ?_) (AllReadyIn.cons rfl (fun K hK => ?_) AllReadyIn.nil)))
    · (go_simp; refine hK _ _ ?_; clear hK K)
      refine wpAnyIn_ready (rs := [1, 2]) (by kernel_rfl) (by simp) (AllReadyIn.cons rfl (fun K hK => ?_) (AllReadyIn.cons rfl (fun K hK => ?_) AllReadyIn.nil))
      · (go_simp; refine hK _ _ ?_; clear hK K)
        refine wpAnyIn_ready (rs := [2]) (by kernel_rfl) (by simp) (AllReadyIn.cons rfl (fun K hK => ?_) AllReadyIn.nil)
        (go_simp; refine hK _ _ ?_; clear hK K)
        refine wpAnyIn_ready (rs := [3]) (by kernel_rfl) (by simp) (AllReadyIn.cons rfl (fun K hK => ?_) AllReadyIn.nil)
        (go_simp; refine ⟨trivial, ?_⟩; gi_at_call 37; refine (CallsIn.inRound lp (callsIn_wide.2 zt)).mono ?_; (rintro e V4 ⟨A6, c6, rfl, hc6, hm6, o6, B6⟩; obtain ⟨d4, d5, A5, k5, c5, w5, hrun, d6, g6, FIN⟩ := AFT.out V4 A6 c6 o6 B6; have FIN := Lib.hid FIN); (refine hK _ _ ?_; clear hK K))
        refine wpAnyIn_ready (rs := [4]) (by kernel_rfl) (by simp) (AllReadyIn.cons rfl (fun K hK => ?_) AllReadyIn.nil)
        (go_simp; refine hK _ _ ?_; clear hK K)
        refine wpAnyIn_ready (rs := [5]) (by kernel_rfl) (by simp) (AllReadyIn.cons rfl (fun K hK => ?_) AllReadyIn.nil)
        (rw [if_pos (by rfl)]; refine opIn_append (.tmp 13) (.tmp 17) 35 rfl rfl rfl hrun ?_; refine hK _ _ ?_; clear hK K)
        refine wpAnyIn_ready (rs := [6]) (by kernel_rfl) (by simp) (AllReadyIn.cons rfl (fun K hK => ?_) AllReadyIn.nil)
        (go_simp; refine hK _ _ ?_; clear hK K)
        refine wpAnyIn_done (by kernel_rfl) ?_ _
        unfold Exit.inBlock
        exact FIN.out _
      · (go_simp; refine hK _ _ ?_; clear hK K)
        refine wpAnyIn_ready (rs := [1]) (by kernel_rfl) (by simp) (AllReadyIn.cons rfl (fun K hK => ?_) AllReadyIn.nil)
        (go_simp; refine hK _ _ ?_; clear hK K)
        refine wpAnyIn_ready (rs := [3]) (by kernel_rfl) (by simp) (AllReadyIn.cons rfl (fun K hK => ?_) AllReadyIn.nil)
        (go_simp; refine ⟨trivial, ?_⟩; gi_at_call 37; refine (CallsIn.inRound lp (callsIn_wide.2 zt)).mono ?_; (rintro e V4 ⟨A6, c6, rfl, hc6, hm6, o6, B6⟩; obtain ⟨d4, d5, A5, k5, c5, w5, hrun, d6, g6, FIN⟩ := AFT.out V4 A6 c6 o6 B6; have FIN := Lib.hid FIN); (refine hK _ _ ?_; clear hK K))
        refine wpAnyIn_ready (rs := [4]) (by kernel_rfl) (by simp) (AllReadyIn.cons rfl (fun K hK => ?_) AllReadyIn.nil)
        (go_simp; refine hK _ _ ?_; clear hK K)
        refine wpAnyIn_ready (rs := [5]) (by kernel_rfl) (by simp) (AllReadyIn.cons rfl (fun K hK => ?_) AllReadyIn.nil)
        (rw [if_pos (by rfl)]; refine opIn_append (.tmp 13) (.tmp 17) 35 rfl rfl rfl hrun ?_; refine hK _ _ ?_; clear hK K)
        refine wpAnyIn_ready (rs := [6]) (by kernel_rfl) (by simp) (AllReadyIn.cons rfl (fun K hK => ?_) AllReadyIn.nil)
        (go_simp; refine hK _ _ ?_; clear hK K)
        refine wpAnyIn_done (by kernel_rfl) ?_ _
        unfold Exit.inBlock
        exact FIN.out _
    · (go_simp; refine hK _ _ ?_; clear hK K)
      refine wpAnyIn_ready (rs := [0, 2]) (by kernel_rfl) (by simp) (AllReadyIn.cons rfl (fun K hK => ?_) (AllReadyIn.cons rfl (fun K hK => ?_) AllReadyIn.nil))
      · (go_simp; refine hK _ _ ?_; clear hK K)
        refine wpAnyIn_ready (rs := [2]) (by kernel_rfl) (by simp) (AllReadyIn.cons rfl (fun K hK => ?_) AllReadyIn.nil)
        (go_simp; refine hK _ _ ?_; clear hK K)
        refine wpAnyIn_ready (rs := [3]) (by kernel_rfl) (by simp) (AllReadyIn.cons rfl (fun K hK => ?_) AllReadyIn.nil)
        (go_simp; refine ⟨trivial, ?_⟩; gi_at_call 37; refine (CallsIn.inRound lp (callsIn_wide.2 zt)).mono ?_; (rintro e V4 ⟨A6, c6, rfl, hc6, hm6, o6, B6⟩; obtain ⟨d4, d5, A5, k5, c5, w5, hrun, d6, g6, FIN⟩ := AFT.out V4 A6 c6 o6 B6; have FIN := Lib.hid FIN); (refine hK _ _ ?_; clear hK K))
        refine wpAnyIn_ready (rs := [4]) (by kernel_rfl) (by simp) (AllReadyIn.cons rfl (fun K hK => ?_) AllReadyIn.nil)
        (go_simp; refine hK _ _ ?_; clear hK K)
        refine wpAnyIn_ready (rs := [5]) (by kernel_rfl) (by simp) (AllReadyIn.cons rfl (fun K hK => ?_) AllReadyIn.nil)
        (rw [if_pos (by rfl)]; refine opIn_append (.tmp 13) (.tmp 17) 35 rfl rfl rfl hrun ?_; refine hK _ _ ?_; clear hK K)
        refine wpAnyIn_ready (rs := [6]) (by kernel_rfl) (by simp) (AllReadyIn.cons rfl (fun K hK => ?_) AllReadyIn.nil)
        (go_simp; refine hK _ _ ?_; clear hK K)
        refine wpAnyIn_done (by kernel_rfl) ?_ _
        unfold Exit.inBlock
        exact FIN.out _
      · (go_simp; refine hK _ _ ?_; clear hK K)
        refine wpAnyIn_ready (rs := [0, 3]) (by kernel_rfl) (by simp) (AllReadyIn.cons rfl (fun K hK => ?_) (AllReadyIn.cons rfl (fun K hK => ?_) AllReadyIn.nil))
        · (go_simp; refine hK _ _ ?_; clear hK K)
          refine wpAnyIn_ready (rs := [3]) (by kernel_rfl) (by simp) (AllReadyIn.cons rfl (fun K hK => ?_) AllReadyIn.nil)
          (go_simp; refine ⟨trivial, ?_⟩; gi_at_call 37; refine (CallsIn.inRound lp (callsIn_wide.2 zt)).mono ?_; (rintro e V4 ⟨A6, c6, rfl, hc6, hm6, o6, B6⟩; obtain ⟨d4, d5, A5, k5, c5, w5, hrun, d6, g6, FIN⟩ := AFT.out V4 A6 c6 o6 B6; have FIN := Lib.hid FIN); (refine hK _ _ ?_; clear hK K))
          refine wpAnyIn_ready (rs := [4]) (by kernel_rfl) (by simp) (AllReadyIn.cons rfl (fun K hK => ?_) AllReadyIn.nil)
          (go_simp; refine hK _ _ ?_; clear hK K)
          refine wpAnyIn_ready (rs := [5]) (by kernel_rfl) (by simp) (AllReadyIn.cons rfl (fun K hK => ?_) AllReadyIn.nil)
          (rw [if_pos (by rfl)]; refine opIn_append (.tmp 13) (.tmp 17) 35 rfl rfl rfl hrun ?_; refine hK _ _ ?_; clear hK K)
          refine wpAnyIn_ready (rs := [6]) (by kernel_rfl) (by simp) (AllReadyIn.cons rfl (fun K hK => ?_) AllReadyIn.nil)
          (go_simp; refine hK _ _ ?_; clear hK K)
          refine wpAnyIn_done (by kernel_rfl) ?_ _
          unfold Exit.inBlock
          exact FIN.out _
        · (go_simp; refine ⟨trivial, ?_⟩; gi_at_call 37; refine (CallsIn.inRound lp (callsIn_wide.2 zt)).mono ?_; (rintro e V4 ⟨A6, c6, rfl, hc6, hm6, o6, B6⟩; obtain ⟨d4, d5, A5, k5, c5, w5, hrun, d6, g6, FIN⟩ := AFT.out V4 A6 c6 o6 B6; have FIN := Lib.hid FIN); (refine hK _ _ ?_; clear hK K))
          refine wpAnyIn_ready (rs := [0, 4]) (by kernel_rfl) (by simp) (AllReadyIn.cons rfl (fun K hK => ?_) (AllReadyIn.cons rfl (fun K hK => ?_) AllReadyIn.nil))
          · (go_simp; refine hK _ _ ?_; clear hK K)
            refine wpAnyIn_ready (rs := [4]) (by kernel_rfl) (by simp) (AllReadyIn.cons rfl (fun K hK => ?_) AllReadyIn.nil)
            (go_simp; refine hK _ _ ?_; clear hK K)
            refine wpAnyIn_ready (rs := [5]) (by kernel_rfl) (by simp) (AllReadyIn.cons rfl (fun K hK => ?_) AllReadyIn.nil)
            (rw [if_pos (by rfl)]; refine opIn_append (.tmp 13) (.tmp 17) 35 rfl rfl rfl hrun ?_; refine hK _ _ ?_; clear hK K)
            refine wpAnyIn_ready (rs := [6]) (by kernel_rfl) (by simp) (AllReadyIn.cons rfl (fun K hK => ?_) AllReadyIn.nil)
            (go_simp; refine hK _ _ ?_; clear hK K)
            refine wpAnyIn_done (by kernel_rfl) ?_ _
            unfold Exit.inBlock
            exact FIN.out _
          · (go_simp; refine hK _ _ ?_; clear hK K)
            refine wpAnyIn_ready (rs := [0]) (by kernel_rfl) (by simp) (AllReadyIn.cons rfl (fun K hK => ?_) AllReadyIn.nil)
            (go_simp; refine hK _ _ ?_; clear hK K)
            refine wpAnyIn_ready (rs := [5]) (by kernel_rfl) (by simp) (AllReadyIn.cons rfl (fun K hK => ?_) AllReadyIn.nil)
            (rw [if_pos (by rfl)]; refine opIn_append (.tmp 13) (.tmp 17) 35 rfl rfl rfl hrun ?_; refine hK _ _ ?_; clear hK K)
            refine wpAnyIn_ready (rs := [6]) (by kernel_rfl) (by simp) (AllReadyIn.cons rfl (fun K hK => ?_) AllReadyIn.nil)
            (go_simp; refine hK _ _ ?_; clear hK K)
            refine wpAnyIn_done (by kernel_rfl) ?_ _
            unfold Exit.inBlock
            exact FIN.out _
    · (go_simp; refine hK _ _ ?_; clear hK K)
      refine wpAnyIn_ready (rs := [0, 1]) (by kernel_rfl) (by simp) (AllReadyIn.cons rfl (fun K hK => ?_) (AllReadyIn.cons rfl (fun K hK => ?_) AllReadyIn.nil))
      · (go_simp; refine hK _ _ ?_; clear hK K)
        refine wpAnyIn_ready (rs := [1]) (by kernel_rfl) (by simp) (AllReadyIn.cons rfl (fun K hK => ?_) AllReadyIn.nil)
        (go_simp; refine hK _ _ ?_; clear hK K)
        refine wpAnyIn_ready (rs := [3]) (by kernel_rfl) (by simp) (AllReadyIn.cons rfl (fun K hK => ?_) AllReadyIn.nil)
        (go_simp; refine ⟨trivial, ?_⟩; gi_at_call 37; refine (CallsIn.inRound lp (callsIn_wide.2 zt)).mono ?_; (rintro e V4 ⟨A6, c6, rfl, hc6, hm6, o6, B6⟩; obtain ⟨d4, d5, A5, k5, c5, w5, hrun, d6, g6, FIN⟩ := AFT.out V4 A6 c6 o6 B6; have FIN := Lib.hid FIN); (refine hK _ _ ?_; clear hK K))
        refine wpAnyIn_ready (rs := [4]) (by kernel_rfl) (by simp) (AllReadyIn.cons rfl (fun K hK => ?_) AllReadyIn.nil)
        (go_simp; refine hK _ _ ?_; clear hK K)
        refine wpAnyIn_ready (rs := [5]) (by kernel_rfl) (by simp) (AllReadyIn.cons rfl (fun K hK => ?_) AllReadyIn.nil)
        (rw [if_pos (by rfl)]; refine opIn_append (.tmp 13) (.tmp 17) 35 rfl rfl rfl hrun ?_; refine hK _ _ ?_; clear hK K)
        refine wpAnyIn_ready (rs := [6]) (by kernel_rfl) (by simp) (AllReadyIn.cons rfl (fun K hK => ?_) AllReadyIn.nil)
        (go_simp; refine hK _ _ ?_; clear hK K)
        refine wpAnyIn_done (by kernel_rfl) ?_ _
        unfold Exit.inBlock
        exact FIN.out _
      · (go_simp; refine hK _ _ ?_; clear hK K)
        refine wpAnyIn_ready (rs := [0, 3]) (by kernel_rfl) (by simp) (AllReadyIn.cons rfl (fun K hK => ?_) (AllReadyIn.cons rfl (fun K hK => ?_) AllReadyIn.nil))
        · (go_simp; refine hK _ _ ?_; clear hK K)
          refine wpAnyIn_ready (rs := [3]) (by kernel_rfl) (by simp) (AllReadyIn.cons rfl (fun K hK => ?_) AllReadyIn.nil)
          (go_simp; refine ⟨trivial, ?_⟩; gi_at_call 37; refine (CallsIn.inRound lp (callsIn_wide.2 zt)).mono ?_; (rintro e V4 ⟨A6, c6, rfl, hc6, hm6, o6, B6⟩; obtain ⟨d4, d5, A5, k5, c5, w5, hrun, d6, g6, FIN⟩ := AFT.out V4 A6 c6 o6 B6; have FIN := Lib.hid FIN); (refine hK _ _ ?_; clear hK K))
          refine wpAnyIn_ready (rs := [4]) (by kernel_rfl) (by simp) (AllReadyIn.cons rfl (fun K hK => ?_) AllReadyIn.nil)
          (go_simp; refine hK _ _ ?_; clear hK K)
          refine wpAnyIn_ready (rs := [5]) (by kernel_rfl) (by simp) (AllReadyIn.cons rfl (fun K hK => ?_) AllReadyIn.nil)
          (rw [if_pos (by rfl)]; refine opIn_append (.tmp 13) (.tmp 17) 35 rfl rfl rfl hrun ?_; refine hK _ _ ?_; clear hK K)
          refine wpAnyIn_ready (rs := [6]) (by kernel_rfl) (by simp) (AllReadyIn.cons rfl (fun K hK => ?_) AllReadyIn.nil)
          (go_simp; refine hK _ _ ?_; clear hK K)
          refine wpAnyIn_done (by kernel_rfl) ?_ _
          unfold Exit.inBlock
          exact FIN.out _
        · (go_simp; refine ⟨trivial, ?_⟩; gi_at_call 37; refine (CallsIn.inRound lp (callsIn_wide.2 zt)).mono ?_; (rintro e V4 ⟨A6, c6, rfl, hc6, hm6, o6, B6⟩; obtain ⟨d4, d5, A5, k5, c5, w5, hrun, d6, g6, FIN⟩ := AFT.out V4 A6 c6 o6 B6; have FIN := Lib.hid FIN); (refine hK _ _ ?_; clear hK K))
          refine wpAnyIn_ready (rs := [0, 4]) (by kernel_rfl) (by simp) (AllReadyIn.cons rfl (fun K hK => ?_) (AllReadyIn.cons rfl (fun K hK => ?_) AllReadyIn.nil))
          · (go_simp; refine hK _ _ ?_; clear hK K)
            refine wpAnyIn_ready (rs := [4]) (by kernel_rfl) (by simp) (AllReadyIn.cons rfl (fun K hK => ?_) AllReadyIn.nil)
            (go_simp; refine hK _ _ ?_; clear hK K)
            refine wpAnyIn_ready (rs := [5]) (by kernel_rfl) (by simp) (AllReadyIn.cons rfl (fun K hK => ?_) AllReadyIn.nil)
            (rw [if_pos (by rfl)]; refine opIn_append (.tmp 13) (.tmp 17) 35 rfl rfl rfl hrun ?_; refine hK _ _ ?_; clear hK K)
            refine wpAnyIn_ready (rs := [6]) (by kernel_rfl) (by simp) (AllReadyIn.cons rfl (fun K hK => ?_) AllReadyIn.nil)
            (go_simp; refine hK _ _ ?_; clear hK K)
            refine wpAnyIn_done (by kernel_rfl) ?_ _
            unfold Exit.inBlock
            exact FIN.out _
          · (go_simp; refine hK _ _ ?_; clear hK K)
            refine wpAnyIn_ready (rs := [0]) (by kernel_rfl) (by simp) (AllReadyIn.cons rfl (fun K hK => ?_) AllReadyIn.nil)
            (go_simp; refine hK _ _ ?_; clear hK K)
            refine wpAnyIn_ready (rs := [5]) (by kernel_rfl) (by simp) (AllReadyIn.cons rfl (fun K hK => ?_) AllReadyIn.nil)
            (rw [if_pos (by rfl)]; refine opIn_append (.tmp 13) (.tmp 17) 35 rfl rfl rfl hrun ?_; refine hK _ _ ?_; clear hK K)
            refine wpAnyIn_ready (rs := [6]) (by kernel_rfl) (by simp) (AllReadyIn.cons rfl (fun K hK => ?_) AllReadyIn.nil)
            (go_simp; refine hK _ _ ?_; clear hK K)
            refine wpAnyIn_done (by kernel_rfl) ?_ _
            unfold Exit.inBlock
            exact FIN.out _
  case done =>
    intro W hI hD
    obtain ⟨fr, far, u, vs, bu, ou, lu⟩ := hI
    rw [List.take_length] at lu
    have cu := bu.cell (k := 0) rfl
    obtain ⟨A, c, hu, _, _⟩ := ou.form
    have hvl : vs.length = s.wait.length := by rw [lu.len]; simp [dats]
    rw [hvl] at hu
    subst hu
    have FIN : Hid (∃ A2 c2 vs2, (Ending.returned (Value.slice A s.wait.length c)) = .returned (.slice A2 s.wait.length c2) ∧ OwnR 39 (W.putObj w3.heap.size (.deferred none)) w.heap.size (.slice A2 s.wait.length c2) vs2 ∧ Lsz (W.putObj w3.heap.size (.deferred none)) w.heap.size (W.putObj w3.heap.size (.deferred none)).heap.size vs2 (dats s s.wait) ∧ Below w.heap.size w (W.putObj w3.heap.size (.deferred none))) := Lib.hid (by
      have h1 : ∀ j, w3.heap.size + 2 ≤ j → j < W.heap.size → (W.putObj w3.heap.size (.deferred none)).heap[j]? = W.heap[j]? := fun j hj _ => World.putObj_heap_other (by omega)
      have s03 := HY.out.2.2.1.size
      have l2 := lu.keep (w' := W.putObj w3.heap.size (.deferred none)) (Nat.le_refl _) fun g m hg hb => (h1 g hg hb.lt).trans hb
      refine ⟨A, c, vs, rfl, OwnR.less (own_keep ou h1) (by omega), ?_, ?_⟩
      · rw [World.putObj_size]
        obtain ⟨a1, a2, B, a3, a4, a5, a6⟩ := l2
        exact ⟨a1, by omega, B, by omega, a4, a5, a6⟩
      · have f1 := HY.out.2.2.1.trans (fr.below (B := w.heap.size) (fun j e => by omega) s03)
        have f2 : Frame (fun j => w.heap.size ≤ j) W (W.putObj w3.heap.size (.deferred none)) := (Frame.refl _ W).putObj _ (.inl (by omega))
        exact f1.trans (f2.below (fun j e => e) f1.size))
    clear fr far ou lu hvl HX HY STILL HB bu
    go_wp2
    refine ⟨by simp, .inl ⟨_, _, rfl, run_takeDeferred hD, ?_⟩⟩
    refine ⟨_, results_tmp Tryd.results27 _ _ _, ?_⟩
    exact FIN.out
end Go.Proofs.YtfopjilncfndnaaDoor
