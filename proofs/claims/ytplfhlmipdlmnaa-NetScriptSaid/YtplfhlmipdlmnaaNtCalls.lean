/-
  A net's calls: Look, Deliver, Drop, Double, Clear, Cut, Send. Conditions: the net was made; how many were lost is a number far from the greatest.
-/
import Derived.Test.YtplfhlmipdlmnaaNtProg
import Derived.Test.YtplfhlmipdlmnaaCloneB
namespace Go.Proofs.Ytplfhlmipdlmnaa
open Go.RowKit Nt

/-- those from i on, up to j, are no longer on their way -/
def N.cutW (s : N) (i j : Nat) : N := { s with way := s.way.take i ++ s.way.drop j }
theorem cutW_ok {s : N} (h : s.Ok) (i j : Nat) (hij : i ≤ j) : (N.cutW s i j).Ok := by
  refine ⟨?_, fun p hp => ?_⟩
  · have := h.many
    show (s.way.take i ++ s.way.drop j).length ≤ _
    rw [List.length_append, List.length_take, List.length_drop]; omega
  · rcases List.mem_append.1 hp with hp | hp
    · exact h.pk p (List.mem_of_mem_take hp)
    · exact h.pk p (List.mem_of_mem_drop hp)
theorem cutW_one (s : N) (k : Nat) : N.cutW s k (k + 1) = s.take k := by
  unfold N.cutW N.take
  rw [List.eraseIdx_eq_take_drop_succ]
theorem lostW (s : N) (k : Nat) : { N.cutW s k (k + 1) with lost := s.lost + 1 } = s.drop k := by
  unfold N.cutW N.drop
  rw [List.eraseIdx_eq_take_drop_succ]
theorem clearW (s : N) : { N.cutW s 0 s.way.length with lost := s.lost + s.way.length } = s.clear := by
  unfold N.cutW N.clear
  simp
section
variable {w : World} {b : Nat} {F : Nat → Prop} {s : N}
def TakePost (w : World) (b : Nat) (F : Nat → Prop) (s : N) (w' : World) : Prop := NetAt w' b F s ∧ Frame (fun j => j = b ∨ F j) w w'
set_option maxRecDepth 100000 in
set_option maxHeartbeats 1000000 in
theorem take_any (h : NetAt w b F s) (i j : Nat) (hij : i ≤ j) (hj : j ≤ s.way.length) : Calls Try.prog 43 #[.pointer (some ⟨b, 0, none⟩), .int .i64 (i : Int), .int .i64 (j : Int)] w fun e w' => e = .returned (.tuple #[]) ∧ TakePost w b F (N.cutW s i j) w' := by
  obtain ⟨v, ms, r, hw, hms⟩ := h.mem
  have hb := h.blt
  have hin := h.in_
  obtain ⟨A, c, rfl, hnc, hcm⟩ := way_form hw
  have hml : ms.length = s.way.length := by rw [← hms, List.length_map]
  have zd := delete_any w A ms.length c i j (ms.flatMap pkCells) hw.own (flat_one ms) hnc hcm hij (by omega)
  obtain ⟨c0, c1, _, _⟩ := net_cells r
  have POST : Hid (∀ w3, OwnK 48 3 w3 0 (.slice A (ms.length - (j - i)) c) (ms.length - (j - i)) (del (ms.flatMap pkCells) i j) → Frame (fun k => (Value.slice A ms.length c).ownBlock = some k) w w3 →
      w3.frozen? ⟨b, 10, none⟩ = false ∧ w3.cell? ⟨b, 10, none⟩ = some (.slice A ms.length c) ∧ TakePost w b F (N.cutW s i j) (w3.setCell ⟨b, 10, none⟩ (.slice A (ms.length - (j - i)) c))) := Lib.hid fun w3 k1 fr => by
    have hrow : ∀ j, (Value.slice A ms.length c).ownBlock = some j → F j := hw.row
    have e1 : del (ms.flatMap pkCells) i j = (ms.take i ++ ms.drop j).flatMap pkCells := by
      unfold del
      rw [flk_take pk_len, flk_drop pk_len, List.flatMap_append]
    have e2 : (ms.take i ++ ms.drop j).length = ms.length - (j - i) := by rw [List.length_append, List.length_take, List.length_drop]; omega
    have r3 : BlkR 45 w3 b (ntCells b s.down (.slice A ms.length c) s.lost) := (fr.block b hb fun e => hin (hrow _ e)).trans r
    have r4 : BlkR 45 (w3.setCell ⟨b, 10, none⟩ (.slice A (ms.length - (j - i)) c)) b (ntCells b s.down (.slice A (ms.length - (j - i)) c) s.lost) := by
      have := r3.set_ 10 (.slice A (ms.length - (j - i)) c)
      have e : (ntCells b s.down (.slice A ms.length c) s.lost).set 10 (.slice A (ms.length - (j - i)) c) = ntCells b s.down (.slice A (ms.length - (j - i)) c) s.lost := by
        unfold ntCells
        rw [List.set_cons_succ, List.set_append_right _ _ (by rw [dnC_len]; decide), dnC_len]; rfl
      rwa [e] at this
    have fr4 : Frame (fun k => k = b ∨ (Value.slice A ms.length c).ownBlock = some k) w (w3.setCell ⟨b, 10, none⟩ (.slice A (ms.length - (j - i)) c)) := (fr.mono fun k e => Or.inr e).setAt ⟨b, 10, none⟩ _ (.inl rfl)
    have hob : (Value.slice A (ms.length - (j - i)) c).ownBlock = (Value.slice A ms.length c).ownBlock := by cases A <;> rfl
    refine ⟨r3.frozen 10, (net_cells r3).2.1, ⟨⟨_, ms.take i ++ ms.drop j, r4, ⟨?_, fun k hk => hrow k (by rw [← hob]; exact hk), fun q hq => ?_⟩, by rw [List.map_append, List.map_take, List.map_drop, hms]; rfl⟩, hin, fun k hk => Nat.lt_of_lt_of_le (h.lt k hk) fr4.size, cutW_ok h.ok i j hij⟩, fr4.mono fun k e => e.imp id (hrow k)⟩
    · rw [e2, ← e1]
      refine OwnK.frame (w := w3) k1 fun k hk => ?_
      exact Below.heap_setCell w3 ⟨b, 10, none⟩ _ k fun e => hin (hrow b (by rw [← hob, hk, e]))
    · have hq' : q ∈ ms := (List.mem_append.1 hq).elim (fun x => List.mem_of_mem_take x) fun x => List.mem_of_mem_drop x
      obtain ⟨g1, g2, g3⟩ := hw.byt q hq'
      refine ⟨?_, g2, fun ad e hne => ⟨(g3 ad e hne).1, by rw [hob]; exact (g3 ad e hne).2⟩⟩
      by_cases hne : q.p.b = []
      · rw [hne]; exact bytes_nil
      · exact fr4.bytes g1 fun ad e x => x.elim (fun y => hin (y ▸ (g3 ad e hne).1)) (g3 ad e hne).2
  obtain ⟨n, hn⟩ : ∃ n, n = ms.length := ⟨_, rfl⟩
  obtain ⟨m, hm⟩ : ∃ m, m = n - (j - i) := ⟨_, rfl⟩
  rw [← hn] at zd c1 POST
  rw [← hm] at zd POST
  clear hn hm hml hms hw r hb hin hnc hcm h c0 hij hj
  go_enter Try.func43, Try.ntmps43
  go_wp2_with (go_at_call 49; refine zd.mono ?_; (rintro e w3 ⟨rfl, k1, k2⟩; obtain ⟨q1, q2, q3⟩ := POST.out w3 k1 k2; have q3 := Lib.hid q3; clear k1 k2))
  go_end0
  exact ⟨rfl, q3.out⟩
theorem NetAt.loseN {s : N} (h : NetAt w b F s) (n : Nat) : w.frozen? ⟨b, 11, none⟩ = false ∧ w.cell? ⟨b, 11, none⟩ = some (.int .i64 (s.lost : Int)) ∧ TakePost w b F { s with lost := n } (w.setCell ⟨b, 11, none⟩ (.int .i64 (n : Int))) := by
  obtain ⟨v, ms, r, hw, hms⟩ := h.mem
  have fr : Frame (fun k => k = b) w (w.setCell ⟨b, 11, none⟩ (.int .i64 (n : Int))) := (Frame.refl _ w).setAt ⟨b, 11, none⟩ _ rfl
  have r4 := r.set_ 11 (.int .i64 (n : Int))
  have e : (ntCells b s.down v s.lost).set 11 (.int .i64 (n : Int)) = ntCells b s.down v n := by
    unfold ntCells
    rw [List.set_cons_succ, List.set_append_right _ _ (by rw [dnC_len]; decide), dnC_len]; rfl
  rw [e] at r4
  exact ⟨r.frozen 11, (net_cells r).2.2.1, ⟨⟨v, ms, r4, hw.frame fr (fun j hj e => h.in_ (e ▸ hj)), hms⟩, h.in_, fun j hj => Nat.lt_of_lt_of_le (h.lt j hj) fr.size, h.ok.1, h.ok.2⟩, fr.mono fun k e => .inl e⟩
theorem TakePost.on {s2 : N} {w2 w3 : World} (h1 : Frame (fun j => j = b ∨ F j) w w2) (h2 : TakePost w2 b F s2 w3) : TakePost w b F s2 w3 := ⟨h2.1, h1.trans h2.2 fun _ e => .inl e⟩
set_option maxRecDepth 100000 in
theorem lose_any (h : NetAt w b F s) (i j : Nat) (hij : i ≤ j) (hj : j ≤ s.way.length) (hl : s.lost ≤ 4611686018427387904) : Calls Try.prog 45 #[.pointer (some ⟨b, 0, none⟩), .int .i64 (i : Int), .int .i64 (j : Int)] w fun e w' => e = .returned (.tuple #[]) ∧ TakePost w b F { N.cutW s i j with lost := s.lost + (j - i) } w' := by
  have zt := take_any h i j hij hj
  have hm := h.ok.many
  have POST : Hid (∀ w2, TakePost w b F (N.cutW s i j) w2 → w2.frozen? ⟨b, 11, none⟩ = false ∧ w2.cell? ⟨b, 11, none⟩ = some (.int .i64 (s.lost : Int)) ∧ TakePost w b F { N.cutW s i j with lost := s.lost + (j - i) } (w2.setCell ⟨b, 11, none⟩ (.int .i64 ((s.lost + (j - i) : Nat) : Int)))) := Lib.hid fun w2 k => by
    obtain ⟨g1, g2, g3⟩ := k.1.loseN (s.lost + (j - i))
    exact ⟨g1, g2, TakePost.on k.2 g3⟩
  obtain ⟨n, hn⟩ : ∃ n, n = s.lost := ⟨_, rfl⟩
  have q1 : IntKind.i64.wrap ((j : Int) - (i : Int)) = ((j - i : Nat) : Int) := by rw [IntWalk.i64_in _ (by omega)]; omega
  have q2 : IntKind.i64.wrap ((n : Int) + ((j - i : Nat) : Int)) = ((n + (j - i) : Nat) : Int) := by rw [IntWalk.i64_in _ (by omega)]; omega
  rw [← hn] at POST ⊢
  obtain ⟨k, hk⟩ : ∃ k, k = j - i := ⟨_, rfl⟩
  rw [← hk] at q1 q2 POST ⊢
  obtain ⟨m, hmm⟩ : ∃ m, m = n + k := ⟨_, rfl⟩
  rw [← hmm] at q2 POST ⊢
  clear hn hk hmm hm hij hj hl h
  go_enter Try.func45, Try.ntmps45
  go_wp2_with (go_at_call 43; refine zt.mono ?_; (rintro e w2 ⟨rfl, k1⟩; obtain ⟨x1, x2, x3⟩ := POST.out w2 k1; have x3 := Lib.hid x3; clear k1))
  go_end0
  exact ⟨rfl, x3.out⟩
theorem pk3_one (x y : Int) (A : Option Addr) (n c : Nat) : ∀ v ∈ [Value.int .i64 x, .int .i64 y, .slice A n c], v.oneCell' = true := by
  intro v hv
  simp only [List.mem_cons, List.not_mem_nil, or_false] at hv
  rcases hv with rfl | rfl | rfl <;> rfl
def pkZ : List Value := [.int .i64 0, .int .i64 0, .slice none 0 0]
theorem pkZ_one : ∀ v ∈ pkZ, v.oneCell' = true := by
  intro v hv
  simp only [pkZ, List.mem_cons, List.not_mem_nil, or_false] at hv
  rcases hv with rfl | rfl | rfl <;> rfl
set_option maxRecDepth 100000 in
theorem look_no (h : NetAt w b F s) (i : Int) (hi : s.has i = false) : Calls Try.prog 19 #[.pointer (some ⟨b, 0, none⟩), .int .i64 i] w fun e w' => e = .returned (.tuple #[.agg pkZ.toArray, .int .i64 5]) ∧ Below w.heap.size w w' := by
  have zf := fun w1 (B : Below w.heap.size w w1) => fault_any (h.step B) i
  rw [hi] at zf
  rw [if_neg (by decide)] at zf
  clear h hi
  go_enter Try.func19, Try.ntmps19
  go_wp2_with (first
    | ((with_reducible refine atWorld w ?_); refine wpList_allocRow (w := w) info_pk rfl rfl ?_; (intro w1 b1 B1 s1; have z1 := zf w1 B1; have b1 := Lib.hid b1; replace s1 := Lib.hid s1))
    | (go_at_call 42; (with_reducible refine z1.mono ?_); (rintro e w2 ⟨rfl, rfl⟩))
    | ((with_reducible refine atWorld w1 ?_); refine wpList_storeRow (w := w1) info_pk rfl (.tmp 4) (.tmp 13) rfl w.heap.size pkZ pkZ rfl rfl rfl rfl pkZ_one b1.out ?_; (intro w9 b9 B9 s9 k9; have b9 := Lib.hid b9; replace s9 := Lib.hid s9)))
  have b9 := b9.out
  exact bodyPost_ret (w := w9) (results_cell2 Try.results19 _ _ _ _ _ _ rfl rfl (loadRow info_pk (by rfl) b9)) rfl ⟨rfl, B1.trans B9⟩
/-- the k-th one, with bytes of its own -/
def LookPost (p : Pk) (w : World) (e : Ending) (w' : World) : Prop := ∃ A c, e = .returned (.tuple #[.agg (pkCells ⟨p, A, c⟩).toArray, .int .i64 0]) ∧ c ≤ 9223372036854775807 ∧ Whole w' w.heap.size A c p.b ∧ Below w.heap.size w w'
theorem way_at {v : Value} {ms : List PkM} (hw : WayAt F w v ms) {k : Nat} {m : PkM} (hm : ms[k]? = some m) : ∃ g c, v = .slice (some ⟨g, 0, none⟩) ms.length c ∧ w.rangeAt g (k * 3) (pkCells m) ∧ F g := by
  obtain ⟨A, c, rfl, _⟩ := way_form hw
  obtain ⟨g, rfl, _, _⟩ := hw.own.at_g (by have := (List.getElem?_eq_some_iff.1 hm).1; omega)
  refine ⟨g, c, rfl, fun j v hv => hw.own.cell rfl (flk_at pk_len ms k m hm j v hv), hw.row g rfl⟩
set_option maxRecDepth 100000 in
set_option maxHeartbeats 1000000 in
theorem look_yes (h : NetAt w b F s) (k : Nat) (p : Pk) (hk : s.way[k]? = some p) : Calls Try.prog 19 #[.pointer (some ⟨b, 0, none⟩), .int .i64 (k : Int)] w (LookPost p w) := by
  have hklt := (List.getElem?_eq_some_iff.1 hk).1
  have hhas : s.has (k : Int) = true := has_iff.2 ⟨by omega, by omega⟩
  have zf := fun w1 (B : Below w.heap.size w w1) => fault_any (h.step B) (k : Int)
  rw [hhas] at zf
  rw [if_pos rfl] at zf
  obtain ⟨v, ms, r, hw, hms⟩ := h.mem
  have hml : ms.length = s.way.length := by rw [← hms, List.length_map]
  obtain ⟨m, hm, hp⟩ : ∃ m, ms[k]? = some m ∧ m.p = p := by
    rw [← hms, List.getElem?_map] at hk
    cases hx : ms[k]? with
    | none => rw [hx] at hk; cases hk
    | some m => rw [hx] at hk; exact ⟨m, rfl, by simpa using hk⟩
  subst hp
  have hok := h.ok.pk m.p (List.mem_of_getElem? hk)
  obtain ⟨gb1, gb2, _⟩ := hw.byt m (List.mem_of_getElem? hm)
  obtain ⟨g, c, rfl, hr, hg⟩ := way_at hw hm
  have hglt := h.lt g hg
  obtain ⟨_, c1, _, _⟩ := net_cells r
  have hb := h.blt
  have K1 := Lib.hid (fun w1 (B : Below w.heap.size w w1) => show w1.cell? ⟨b, 10, none⟩ = some (.slice (some ⟨g, 0, none⟩) ms.length c) ∧ w1.rangeAt g (k * 3) (pkCells m) ∧ Calls Try.prog 41 #[.slice m.A m.p.b.length m.c] w1 (ClonePost m.p.b m.p.b.length w1) from
    ⟨(B.cell (p := ⟨b, 10, none⟩) hb).trans c1, fun j v hv => (B.cell (p := ⟨g, k * 3 + j, none⟩) hglt).trans (hr j v hv), cloneZ m.A m.p.b _ m.c rfl (by have := hok.b; omega) w1 (gb1.step B)⟩)
  obtain ⟨n, hn⟩ : ∃ n, n = ms.length := ⟨_, rfl⟩
  rw [← hn] at K1
  have hkn : k < n := by omega
  obtain ⟨M, hM⟩ : ∃ M, M = m.p.b.length := ⟨_, rfl⟩
  have HM := Lib.hid hM
  clear hn hml hms hm hk hw hr hb hglt hg c1 r gb1 gb2 hok hhas hklt h
  unfold LookPost
  unfold ClonePost pkCells at K1
  unfold pkCells
  dsimp only
  rw [← hM] at K1 ⊢
  clear hM
  go_enter Try.func19, Try.ntmps19
  go_wp2_with (first
    | ((with_reducible refine atWorld w ?_); refine wpList_allocRow (w := w) info_pk rfl rfl ?_; (intro w1 b1 B1 s1; have z1 := zf w1 B1; obtain ⟨x1, x2, _⟩ := K1.out w1 B1; have x2 := Lib.hid x2; have b1 := Lib.hid b1; replace s1 := Lib.hid s1))
    | (go_at_call 42; (with_reducible refine z1.mono ?_); (rintro e w2 ⟨rfl, rfl⟩))
    | ((with_reducible refine atWorld w1 ?_); refine wpList_loadRow (w := w1) info_pk rfl (.tmp 20) rfl g (k * 3) [.int .i64 (m.p.fr : Int), .int .i64 (m.p.to : Int), .slice m.A M m.c] rfl rfl x2.out ?_)
    | ((with_reducible refine atWorld w1 ?_); refine wpList_allocRow (w := w1) info_pk rfl rfl ?_; (intro w3 b3 B3 s3; have b3 := Lib.hid b3; replace s3 := Lib.hid s3))
    | ((with_reducible refine atWorld w3 ?_); refine wpList_storeRow (w := w3) info_pk rfl (.tmp 7) (.tmp 21) rfl w1.heap.size [.int .i64 (m.p.fr : Int), .int .i64 (m.p.to : Int), .slice m.A M m.c] pkZ rfl rfl rfl rfl (pk3_one _ _ _ _ _) b3.out ?_; (intro w4 b4 B4 s4 k4; have y2 := b4.cell (k := 2) rfl; have C4 := step_trans B1 (B3.trans B4); obtain ⟨_, _, zc⟩ := K1.out w4 C4; have b4 := Lib.hid b4; replace s4 := Lib.hid s4; clear k4))
    | (go_at_call 41; go_loud (refine zc.mono ?_; (rintro e w5 ⟨A5, c5, rfl, hc5, o5, B5⟩; have b5 := b4.out.below B5 b4.out.lt; have y5 := b5.cell (k := 2) rfl; have f5 := b5.frozen 2; have b6 := Lib.hid (b5.set_ 2 (.slice A5 M c5)); have C6 : Below w1.heap.size w1 (w5.setCell ⟨w1.heap.size, 2, none⟩ (.slice A5 M c5)) := ((B3.trans B4).trans (B5.mono (B3.trans B4).size)).setCell (Nat.le_refl _) _; have b0 := Lib.hid (b1.out.below C6 b1.out.lt); have h5 := Lib.hid (And.intro hc5 (And.intro o5 (And.intro C6 (And.intro B1 (B3.trans B4).size)))); clear hc5 o5 B5 b5 C6)))
    | ((with_reducible refine atWorld (w5.setCell ⟨w1.heap.size, 2, none⟩ (.slice A5 M c5)) ?_); refine wpList_loadRow (w := w5.setCell ⟨w1.heap.size, 2, none⟩ (.slice A5 M c5)) info_pk rfl (.tmp 7) rfl w1.heap.size 0 [.int .i64 (m.p.fr : Int), .int .i64 (m.p.to : Int), .slice A5 M c5] rfl rfl (rangeOf b6.out) ?_)
    | ((with_reducible refine atWorld (w5.setCell ⟨w1.heap.size, 2, none⟩ (.slice A5 M c5)) ?_); refine wpList_storeRow (w := w5.setCell ⟨w1.heap.size, 2, none⟩ (.slice A5 M c5)) info_pk rfl (.tmp 4) (.tmp 26) rfl w.heap.size [.int .i64 (m.p.fr : Int), .int .i64 (m.p.to : Int), .slice A5 M c5] pkZ rfl rfl rfl rfl (pk3_one _ _ _ _ _) b0.out ?_; (intro w9 b9 B9 s9 k9; have b9 := Lib.hid b9; replace s9 := Lib.hid s9)))
  have b9 := b9.out
  obtain ⟨hc5, o5, C6, B1', hs4⟩ := h5.out
  have hs1 := s1.out
  have fr : Frame (fun j => j = w.heap.size ∨ j = w1.heap.size) w5 w9 := by
    have fa : Frame (fun j => j = w.heap.size ∨ j = w1.heap.size) w5 (w5.setCell ⟨w1.heap.size, 2, none⟩ (.slice A5 M c5)) := (Frame.refl _ w5).setAt ⟨w1.heap.size, 2, none⟩ _ (.inr rfl)
    exact ⟨B9.os.trans fa.os, B9.tape.trans fa.tape, B9.output.trans fa.output, Nat.le_trans fa.size B9.size, fun j hj hn => (k9 j fun e => hn (.inl e)).trans (fa.block j hj hn)⟩
  have o9 := (o5.frame fr (fun j e => by have := s3.out; have := s4.out; rcases e with e | e <;> omega)).less (b := w.heap.size) (by omega)
  exact bodyPost_ret (w := w9) (results_cell2 Try.results19 _ _ _ _ _ _ rfl rfl (loadRow info_pk (by rfl) b9)) rfl ⟨A5, c5, by rw [HM.out]; rfl, hc5, o9, (step_trans B1 C6).trans B9⟩
end
end Go.Proofs.Ytplfhlmipdlmnaa
