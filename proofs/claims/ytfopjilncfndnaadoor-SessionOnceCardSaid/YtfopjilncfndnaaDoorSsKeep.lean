/-
  A session's ring: keep, with the predicate of Receive. Conditions: the ring lies within a block; what is known lies in a datagram's block.
-/
import Derived.Test.YtfopjilncfndnaaDoorSsRng
namespace Go.Proofs.YtfopjilncfndnaaDoor
open Go.RowKit Fix
attribute [local go_sem] Oper.semAt_some

theorem Frame.newObj {F : Nat → Prop} {a w : World} (h : Frame F a w) (o : Obj) : Frame F a (w.alloc o) := h.trans (Frame.of_below (F := F) ((Below.refl _ _).alloc (Nat.le_refl _) o)) fun _ x => .inl x
theorem Frame.drawn {F : Nat → Prop} {a w : World} (h : Frame F a w) : Frame F a w.drew := ⟨h.os, h.tape, h.output, h.size, h.block⟩
theorem Frame.putObj {F : Nat → Prop} {a w : World} (h : Frame F a w) {r : Nat} (o : Obj) (hr : F r ∨ a.heap.size ≤ r) : Frame F a (w.putObj r o) :=
  ⟨h.os, h.tape, h.output, by rw [World.putObj_size]; exact h.size, fun k hk hf => (World.putObj_heap_other (fun e => by subst e; exact hr.elim hf fun y => by omega)).trans (h.block k hk hf)⟩
theorem BlkR.frame {F : Nat → Prop} {E : TypeId} {w w' : World} {g : Nat} {xs : List Value} (h : BlkR E w g xs) (hF : Frame F w w') (hg : ¬ F g) : BlkR E w' g xs := (hF.block g h.lt hg).trans h
theorem RgAt.frame {E : TypeId} {F X : Nat → Prop} {w w' : World} {g o : Nat} {pre post its : List Value} {f : Nat} {l : List (Nat × List UInt8)} (h : RgAt E F w g o pre post its f l) (hF : ∀ k, F k → k < w.heap.size) (hX : Frame X w w') (hg : ¬ X g) (hk : ∀ k, F k → ¬ X k) : RgAt E F w' g o pre post its f l :=
  ⟨h.blk.frame hX hg, h.off, h.its.keep hX.size fun k hk2 => hX.block k (hF k hk2) (hk k hk2), h.in_⟩
/-- what is known, in a datagram's block -/
structure KnAt (w : World) (D : Nat) (k : Ss.K) : Prop where
  c2 : w.cell? ⟨D, 2, none⟩ = some (.int .i64 (k.boot : Int))
  c3 : w.cell? ⟨D, 3, none⟩ = some (.int .i64 (k.top : Int))
  c4 : w.cell? ⟨D, 4, none⟩ = some (.int .u64 (k.came : Int))
theorem KnAt.of {w w' : World} {D : Nat} {k : Ss.K} (h : KnAt w D k) (e : w'.heap[D]? = w.heap[D]?) : KnAt w' D k := by
  obtain ⟨a, b, c⟩ := h
  refine ⟨?_, ?_, ?_⟩
  all_goals (unfold World.cell? at *; rw [e]; assumption)
theorem KnAt.lt {w : World} {D : Nat} {k : Ss.K} (h : KnAt w D k) : D < w.heap.size := by
  refine Nat.lt_of_not_le fun hle => ?_
  have := h.c2
  unfold World.cell? at this
  rw [Array.getElem?_eq_none hle] at this
  cases this
theorem KnAt.step {w w' : World} {D : Nat} {k : Ss.K} (h : KnAt w D k) (hb : Below w.heap.size w w') : KnAt w' D k := h.of (hb.block D h.lt)
set_option maxRecDepth 100000 in
theorem stays_any (D : Nat) (k : Ss.K) (hk : k.top ≤ 1099511627776) (hc : k.came < 18446744073709551616) (n : Nat) (hn : n ≤ 1099511627776) (v : Value) (w : World) (h : KnAt w D k) :
    Calls Tryd.prog 48 #[.agg #[.int .i64 (n : Int), v], .pointer (some ⟨D, 0, none⟩)] w fun e w' => e = .returned (.bool (!k.has n)) ∧ Below w.heap.size w w' := by
  obtain ⟨c2, c3, c4⟩ := h.step (step_alloc (Below.refl _ w) (.cells #[.int .i64 (n : Int), v] 55))
  have zh := fun w => has_any k n hk hc hn w
  obtain ⟨y, hy⟩ : ∃ y, y = k.has n := ⟨_, rfl⟩
  rw [← hy] at zh ⊢
  obtain ⟨b, hb⟩ : ∃ x, x = k.boot := ⟨_, rfl⟩
  obtain ⟨t, ht⟩ : ∃ x, x = k.top := ⟨_, rfl⟩
  obtain ⟨c, hcc⟩ : ∃ x, x = k.came := ⟨_, rfl⟩
  rw [← hb] at c2 zh
  rw [← ht] at c3 zh
  rw [← hcc] at c4 zh
  clear hy hb ht hcc hk hc hn h
  go_enter Tryd.func48, Tryd.ntmps48
  go_wp2_with (go_at_call 49; (with_reducible refine (zh _).mono ?_); (rintro e w2 ⟨rfl, B2⟩))
  go_ret
  exact ⟨rfl, step_trans (step_alloc (Below.refl _ w) _) B2⟩
theorem rg_there {E : TypeId} {w : World} {g o : Nat} {pre post its : List Value} {f n : Nat} (h : BlkR E w g (pre ++ rgL its f n ++ post)) (ho : pre.length = o) (hl : its.length = 32) : w.there g o 34 := fun j hj => by
  have hlen : (pre ++ rgL its f n ++ post).length = o + 34 + post.length := by simp [rgL, ho, hl]; omega
  exact ⟨by rw [h.cell (List.getElem?_eq_getElem (by omega : o + j < (pre ++ rgL its f n ++ post).length))]; rfl, h.frozen _⟩
theorem rg_whole {E : TypeId} {w : World} {g o : Nat} {pre post its its2 : List Value} {f n f2 n2 : Nat} (h : BlkR E w g (pre ++ rgL its f n ++ post)) (ho : pre.length = o) (hl : its.length = 32) (hl2 : its2.length = 32) :
    BlkR E (w.setCells g o (rgL its2 f2 n2)) g (pre ++ rgL its2 f2 n2 ++ post) := by
  have l1 : (rgL its f n).length = 34 := by simp [rgL, hl]
  have l2 : (rgL its2 f2 n2).length = 34 := by simp [rgL, hl2]
  have h2 := setCells_at (rgL its2 f2 n2) w o _ h (by rw [List.length_append, List.length_append, l1, l2]; omega)
  have e : (pre ++ rgL its f n ++ post).take o ++ rgL its2 f2 n2 ++ (pre ++ rgL its f n ++ post).drop (o + (rgL its2 f2 n2).length) = pre ++ rgL its2 f2 n2 ++ post := by
    rw [l2, List.append_assoc pre, List.take_left' ho, ← List.drop_drop, List.drop_left' ho, List.drop_left' l1]
  rw [← e]
  exact h2
/-- those of so many messages that stay -/
def stay (k : Ss.K) (l : List (Nat × List UInt8)) : List (Nat × List UInt8) := l.filter fun m => !k.has m.1
/-- behind some rounds of keep: the loop began in W0; the ring that is built lies at K0 -/
structure KpI (F : Nat → Prop) (K0 : Nat) (W0 : World) (l : List (Nat × List UInt8)) (V : World) : Prop where
  fr : Frame (fun j => j = K0) W0 V
  far : W0.heap.size + 2 ≤ V.heap.size
  kept : ∃ its f, RgAt 58 F V K0 0 [] [] its f l
theorem KpI.moved {F : Nat → Prop} {K0 : Nat} {W0 V V' : World} {l : List (Nat × List UInt8)} (h : KpI F K0 W0 l V) (hF : ∀ j, F j → j < W0.heap.size) (hK : K0 < W0.heap.size) (fr : Frame (fun j => j = W0.heap.size ∨ j = W0.heap.size + 1) V V') : KpI F K0 W0 l V' := by
  obtain ⟨a, b, its, f, c⟩ := h
  have s0 := a.size
  refine ⟨a.trans fr fun j e => .inr (by omega), Nat.le_trans b fr.size, its, f, c.frame (fun j hj => by have := hF j hj; omega) fr (by omega) fun j hj => by have := hF j hj; omega⟩
theorem its0_one : ∀ v ∈ its0, v.oneCell' = true := by
  intro v hv
  simp only [its0, List.mem_flatten, List.mem_replicate] at hv
  obtain ⟨l, ⟨_, rfl⟩, hv⟩ := hv
  simp only [List.mem_cons, List.not_mem_nil, or_false] at hv
  rcases hv with rfl | rfl <;> rfl
theorem stay_take (k : Ss.K) (l : List (Nat × List UInt8)) (i : Nat) (m : Nat × List UInt8) (h : l[i]? = some m) : stay k (l.take (i + 1)) = if k.has m.1 = true then stay k (l.take i) else stay k (l.take i) ++ [m] := by
  unfold stay
  rw [List.take_add_one, h, Option.toList_some, List.filter_append]
  cases hh : k.has m.1 <;> simp [hh]
theorem stay_push (k : Ss.K) (l : List (Nat × List UInt8)) (i : Nat) (m : Nat × List UInt8) (h : l[i]? = some m) (hl : l.length ≤ 16) : Ss.push (stay k (l.take i)) m = stay k (l.take i) ++ [m] := by
  unfold Ss.push
  have h1 := (List.getElem?_eq_some_iff.1 h).1
  have h2 := List.length_filter_le (fun m => !k.has m.1) (l.take i)
  rw [List.length_take] at h2
  rw [if_pos (by unfold stay; omega)]
set_option maxRecDepth 100000 in
set_option maxHeartbeats 2000000 in
theorem keep_any (E : TypeId) (F : Nat → Prop) (g o : Nat) (pre post its : List Value) (f : Nat) (l : List (Nat × List UInt8)) (D : Nat) (k : Ss.K) (w : World) (h : RgAt E F w g o pre post its f l) (hF : ∀ j, F j → j < w.heap.size) (hnum : ∀ m ∈ l, m.1 ≤ 1099511627776)
    (hk : k.top ≤ 1099511627776) (hc : k.came < 18446744073709551616) (hkn : KnAt w D k) (hDg : D ≠ g) :
    Calls Tryd.prog 47 #[.pointer (some ⟨g, o, none⟩), .func (.func 48) #[] #[.pointer (some ⟨D, 0, none⟩)]] w fun e w' => e = .returned (.tuple #[]) ∧ (∃ its' f', RgAt E F w' g o pre post its' f' (stay k l)) ∧ Frame (fun j => j = g) w w' := by
  have HX := Lib.hid (And.intro h (And.intro hF (And.intro hnum (And.intro hk (And.intro hc (And.intro hkn hDg))))))
  clear h hF hnum hk hc hkn hDg
  refine calls_of_wp_marks Tryd.func47 rfl ?_
  simp only [Tryd.ntmps47, List.size_toArray, List.length_cons, List.length_nil, Nat.reduceAdd, Nat.reduceSub, Array.replicate_succ, Array.replicate_zero, List.push_toArray, List.append_toArray, List.nil_append, List.cons_append]
  go_wp2_with (first
    | (refine wpList_allocRow info_ring rfl rfl ?_; intro w2 b2 B2 s2)
    | (go_at_call 42; refine (all_any g o w2).mono ?_; (rintro e w3 ⟨rfl, b3, B3, s3⟩)))
  obtain ⟨h, hF, hnum, hk, hc, hkn, hDg⟩ := HX.out
  have sS : (w.alloc (.cells #[.func (.func 48) #[] #[.pointer (some ⟨D, 0, none⟩)]] 105)).heap.size = w.heap.size + 1 := by simp
  have bS := BlkR.new w [.func (.func 48) #[] #[.pointer (some ⟨D, 0, none⟩)]] 105
  have BS : Below w.heap.size w (w.alloc (.cells #[.func (.func 48) #[] #[.pointer (some ⟨D, 0, none⟩)]] 105)) := (Below.refl _ _).alloc (Nat.le_refl _) _
  have bS3 := BlkR.below (BlkR.below bS B2 bS.lt) B3 (by have := bS.lt; omega)
  have B03 := step_trans (step_trans BS B2) B3
  have hrg := h.step hF B03
  have hkn3 := hkn.step B03
  rw [sS] at b2 s2
  have b23 := BlkR.below b2 B3 b2.lt
  have kept0 : RgAt 58 F w3 (w.heap.size + 1) 0 [] [] its0 0 [] := ⟨b23, rfl, Its.nil_ rfl its0_one (by decide), fun e => by have := hF _ e; omega⟩
  rw [s2] at b3 s3
  have hm := h.its.many
  have hgl := h.blk.lt
  have hDl := hkn.lt
  have STILL : Hid (∀ V, Frame (fun j => j = w.heap.size + 1) w3 V → AlAt E F V (w.heap.size + 1 + 1) g o pre post its f l ∧ V.cell? ⟨w.heap.size, 0, none⟩ = some (.func (.func 48) #[] #[.pointer (some ⟨D, 0, none⟩)]) ∧ KnAt V D k) := Lib.hid fun V fr =>
    ⟨⟨(b3.frame fr (by omega)).cell rfl, hrg.frame (fun j hj => by have := hF j hj; omega) fr (by omega) fun j hj => by have := hF j hj; omega⟩, (bS3.frame fr (by omega)).cell rfl, hkn3.of (fr.block D hkn3.lt (by omega))⟩
  have hF3 : ∀ j, F j → j < w3.heap.size := fun j hj => by have := hF j hj; omega
  have HY := Lib.hid (And.intro hF3 (And.intro (show w.heap.size + 1 < w3.heap.size by omega) (And.intro kept0 (And.intro B03 (And.intro hm s3)))))
  clear h hF hnum hk hc hkn hDg sS bS BS bS3 B03 hrg hkn3 b2 s2 b23 kept0 b3 s3 hm hgl hDl hF3 B2 B3
  refine wp_all E F (w.heap.size + 1 + 1) g o pre post its f l rfl rfl HY.out.1 (fun i V => KpI F (w.heap.size + 1) w3 (stay k (l.take i)) V) (fun i V hI => (STILL.out V hI.fr).1)
    (fun i V hI => hI.moved HY.out.1 HY.out.2.1 (Frame.drawn (Frame.refl _ _)))
    (fun i V r ob hr hI => hI.moved HY.out.1 HY.out.2.1 ((Frame.refl _ V).putObj ob (.inl hr)))
    (fun i V ob hI => hI.moved HY.out.1 HY.out.2.1 ((Frame.refl _ V).newObj ob))
    (fun o1 o2 => ?h0) (fun m v b => { tmps := #[.pointer (some ⟨g, o, none⟩), .func (.func 48) #[] #[.pointer (some ⟨D, 0, none⟩)], undef, .pointer (some ⟨w.heap.size, 0, none⟩), .pointer (some ⟨w.heap.size + 1, 0, none⟩), .pointer (some ⟨b, 0, none⟩), .pointer (some ⟨g, o, none⟩), .func (.func 56) #[] #[.pointer (some ⟨w.heap.size + 1 + 1, 0, none⟩)], .agg #[.int .i64 (m.1 : Int), v], undef, undef, undef, undef, undef, undef, undef, undef], defers := [] }) ?assign ?body ?done
  case h0 =>
    have B5 : Below w3.heap.size w3 ((w3.alloc o1).alloc o2) := ((Below.refl _ _).alloc (Nat.le_refl _) _).alloc (by simp) _
    refine ⟨Frame.of_below B5, by simp, its0, 0, HY.out.2.2.1.step HY.out.1 B5⟩
  case assign =>
    rintro lp m v V K ⟨A, n, c, rfl⟩ hK
    gi_wp2
    exact hK
  case body =>
    intro lp i b m v V hi hp hb mA hI
    obtain ⟨fr, far, its', f', kept⟩ := hI
    obtain ⟨AA, cS, hKn⟩ := STILL.out V fr
    have c0 := mA.cell (k := 0) rfl
    have c1 := mA.cell (k := 1) rfl
    obtain ⟨h, hF, hnum, hk, hc, hkn, hDg⟩ := HX.out
    have zs := stays_any D k hk hc m.1 (hnum m (List.mem_of_getElem? hi)) v V hKn
    have e1 := stay_take k l i m hi
    have e2 := stay_push k l i m hi HY.out.2.2.2.2.1
    have HV := Lib.hid (And.intro fr (And.intro far (And.intro kept (And.intro hp mA))))
    cases hh : k.has m.1 with
    | true =>
      rw [hh] at zs
      rw [if_pos hh] at e1
      rw [e1]
      have hI2 : KpI F (w.heap.size + 1) w3 (stay k (l.take i)) V := ⟨fr, far, its', f', kept⟩
      have FIN : Hid (∀ (a : Act) V1, Below V.heap.size V V1 → RndPost w3.heap.size (fun W => KpI F (w.heap.size + 1) w3 (stay k (l.take i)) W) V .normal a V1) := Lib.hid fun a V1 B1 => ⟨B1.block _ (by omega), B1.block _ (by omega), hI2.moved HY.out.1 HY.out.2.1 (Frame.of_below B1)⟩
      clear fr far kept AA hKn h hF hnum hk hc hkn hDg e1 e2 hI2 hp mA hi
      gi_wp2_with (first
        | (refine ⟨trivial, ?_⟩; gi_at_call 48; refine (CallsIn.inRound lp (callsIn_wide.2 zs)).mono ?_; (rintro e V1 ⟨rfl, B1⟩)))
      exact FIN.out _ V1 B1
    | false =>
      rw [hh] at zs
      rw [if_neg (by rw [hh]; simp)] at e1
      rw [e1, ← e2]
      have hFV : ∀ j, F j → j < V.heap.size := fun j hj => by have := HY.out.1 j hj; have := fr.size; omega
      have zp : ∀ V1, Below V.heap.size V V1 → _ := fun V1 B1 => put_go 58 F (w.heap.size + 1) 0 [] [] its' f' (stay k (l.take i)) m v V1 (kept.step hFV B1) (hp.keep B1.size fun j hj => B1.block j (hFV j hj)) (fun j hj => by have := hFV j hj; have := B1.size; omega)
      have FIN : Hid (∀ (a : Act) V1 V2 its2 f2, Below V.heap.size V V1 → RgAt 58 F V2 (w.heap.size + 1) 0 [] [] its2 f2 (Ss.push (stay k (l.take i)) m) → Frame (fun j => j = w.heap.size + 1) V1 V2 → RndPost w3.heap.size (fun W => KpI F (w.heap.size + 1) w3 (Ss.push (stay k (l.take i)) m) W) V .normal a V2) := Lib.hid fun a V1 V2 its2 f2 B1 R2 f12 => by
        have hk0 := HY.out.2.1
        have s1 := B1.size
        refine ⟨(f12.block _ (by omega) (by omega)).trans (B1.block _ (by omega)), (f12.block _ (by omega) (by omega)).trans (B1.block _ (by omega)), (fr.trans (Frame.of_below (F := fun _ => False) B1) fun _ x => x.elim).trans f12 fun j e => .inl e, ?_, its2, f2, R2⟩
        have := f12.size
        omega
      clear fr far kept AA hKn h hF hnum hk hc hkn hDg e1 e2 hp hi hFV
      gi_wp2_with (first
        | (refine ⟨trivial, ?_⟩; gi_at_call 48; refine (CallsIn.inRound lp (callsIn_wide.2 zs)).mono ?_; (rintro e V1 ⟨rfl, B1⟩; have mA1 := BlkR.below HV.out.2.2.2.2 B1 HV.out.2.2.2.2.lt; have d0 := mA1.cell (k := 0) rfl; have d1 := mA1.cell (k := 1) rfl; have zp1 := zp V1 B1))
        | (refine ⟨trivial, ?_⟩; gi_at_call 36; refine (CallsIn.inRound lp (callsIn_wide.2 zp1)).mono ?_; (rintro e V2 ⟨rfl, ⟨its2, f2, R2⟩, f12⟩)))
      exact FIN.out _ V1 V2 its2 f2 B1 R2 f12
  case done =>
    intro W hI hD
    obtain ⟨fr, far, its', f', kept⟩ := hI
    rw [List.take_length] at kept
    obtain ⟨AA, _, _⟩ := STILL.out W fr
    have hkb := kept.blk
    rw [List.nil_append, List.append_nil] at hkb
    have FIN : Hid (∀ W2, BlkR E W2 g (pre ++ rgL its' f' (stay k l).length ++ post) → Frame (fun j => j = g) W W2 → W2.heap[w3.heap.size]? = some (.deferred (some [])) ∧ ((∃ its' f', RgAt E F (W2.putObj w3.heap.size (.deferred none)) g o pre post its' f' (stay k l)) ∧ Frame (fun j => j = g) w (W2.putObj w3.heap.size (.deferred none)))) := Lib.hid fun W2 b2 f2 => by
      obtain ⟨h, hF, hnum, hk, hc, hkn, hDg⟩ := HX.out
      obtain ⟨hF3, hK3, _, B03, hm, s3⟩ := HY.out
      have hgl := h.blk.lt
      have s03 := B03.size
      have s3W := fr.size
      have sW2 := f2.size
      have fw : Frame (fun j => j = g) w W2 := ((Frame.of_below (F := fun j => j = g) B03).trans fr fun j e => .inr (by omega)).trans f2 fun j e => .inl e
      have fw2 := fw.putObj (r := w3.heap.size) (.deferred none) (.inr (by omega))
      refine ⟨(f2.block _ (by omega) (by omega)).trans hD, ⟨its', f', (World.putObj_heap_other (by omega)).trans b2, h.off, kept.its.keep (w' := W2.putObj w3.heap.size (.deferred none)) (by rw [World.putObj_size]; exact f2.size) fun j hj => ?_, h.in_⟩, fw2⟩
      have hjF := hF j hj
      exact (World.putObj_heap_other (by omega)).trans (f2.block j (by omega) fun e => h.in_ (e ▸ hj))
    have hin : ∀ v ∈ rgL its' f' (stay k l).length, v.oneCell' = true := by
      intro v hv
      simp only [rgL, List.mem_append, List.mem_cons, List.not_mem_nil, or_false] at hv
      rcases hv with hv | rfl | rfl
      · exact kept.its.one v hv
      · rfl
      · rfl
    have hlen : (rgL its' f' (stay k l).length).length = 34 := by simp [rgL, kept.its.len]
    have hth : W.there g o (rgL its' f' (stay k l).length).toArray.size := by
      rw [List.size_toArray, hlen]
      exact rg_there AA.rg.blk AA.rg.off AA.rg.its.len
    have T1 := rg_whole (its2 := its') (f2 := f') (n2 := (stay k l).length) AA.rg.blk AA.rg.off AA.rg.its.len kept.its.len
    obtain ⟨q1, q2, q3, q4⟩ := setCells_frame (rgL its' f' (stay k l).length) W g o
    have T2 : Frame (fun j => j = g) W (W.setCells g o (rgL its' f' (stay k l).length)) := ⟨q1, q2, q3, Nat.le_of_eq q4.symm, fun j hj hne => setCells_keep _ _ _ _ _ hne⟩
    obtain ⟨row, hrow⟩ : ∃ row, row = rgL its' f' (stay k l).length := ⟨_, rfl⟩
    rw [← hrow] at hkb hin hlen hth T1 T2 FIN
    have HT := Lib.hid (And.intro T1 T2)
    have hsz : (Tryd.prog.info? 58).map (·.size) = some row.toArray.size := by rw [List.size_toArray, hlen]; exact info_ring.size
    have hl34 : row.length = (its0 ++ [Value.int .i64 0, .int .i64 0]).length := by rw [hlen]; rfl
    clear fr far kept AA hD T1 T2 q1 q2 q3 q4 hrow HX HY STILL hlen
    go_wp2_with (first
      | (refine wpList_loadRow info_ring rfl (.tmp 4) rfl (w.heap.size + 1) 0 row rfl hl34 (rangeOf hkb) ?_)
      | (refine wpList_store_mid rfl 58 (.tmp 16) (.tmp 15) rfl g o row.toArray rfl rfl hth hsz (all_oneCell_toArray hin) ?_; rw [List.toList_toArray]))
    obtain ⟨hK, hp⟩ := FIN.out _ HT.out.1 HT.out.2
    refine ⟨by simp, .inl ⟨_, _, rfl, run_takeDeferred hK, ?_⟩⟩
    exact ⟨_, results_none rfl _ _ _, rfl, hp⟩
end Go.Proofs.YtfopjilncfndnaaDoor
