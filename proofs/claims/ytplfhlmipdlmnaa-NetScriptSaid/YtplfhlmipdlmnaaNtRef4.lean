/-
  The document's own net: Double, Send. Conditions: how many were lost is a number far from the greatest; the bytes can be read.
-/
import Derived.Test.YtplfhlmipdlmnaaNtRef3
import Derived.Test.YtplfhlmipdlmnaaBa
namespace Go.Proofs.Ytplfhlmipdlmnaa
open Go.RowKit Nt

theorem step_appendK {P : Program} {T E : TypeId} {z xs ys : List Value} {k bytes n m base : Nat} {w : World} {v : Value} {ops : Array Oper} {o : Oper} {a : Act} {K : Act → World → Prop} {Q : Exit → Act → World → Prop} {D : Prop} (hgd : o.guard = none) (s x : Operand) (el : ElemK P T E z k bytes)
    (ho : o.op = .call { callee := .builtin .append, args := #[s, x], argTypes := #[T, T] }) (hs : a.eval s = v) (hown : OwnK E k w base v n xs) (ad : Addr) (c : Nat) (hx : a.eval x = .slice (some ad) m c)
    (hm : ys.length = m * k) (hr : ∀ j u, ys[j]? = some u → w.cell? (ad.add j) = some u) (h1 : ∀ u ∈ ys, u.oneCell' = true) (hmax : n + m ≤ maxLen) (hsz : (n + m) * bytes ≤ 140737488355328) (hbase : base ≤ w.heap.size)
    (h : ∀ v' w', OwnK E k w' base v' (n + m) (xs ++ ys) → w.grownBy w' v.ownBlock → (v'.ownBlock = v.ownBlock ∨ v'.ownBlock = some w.heap.size) → K (a.put o.dst v') w') :
    if Region.wanted o (yielded ops a.tmps) = true then Oper.wp P o a w K Q else D := by
  obtain ⟨v', w', hrun, g1, g2, g3⟩ := run_appendK el hown ad c hm hr h1 hmax hsz hbase o.type
  exact step_append_run hgd s x T ho hs hx hrun (h v' w' g1 g2 g3)
section
variable {w w' w7 : World} {b : Nat} {F G : Nat → Prop} {s s2 : N} {v : Value} {ms : List PkM} {m : PkM}
/-- one more is on its way -/
theorem rf_push (h : RfAt w b F s) (r : BlkR 30 w b (rfCells s.down v s.lost)) (hw : WayAt F w v ms) (hms : ms.map (·.p) = s.way) {W5 : World} (B5 : Below w.heap.size w W5) (m' : PkM) (hp : m'.p.Ok) (hf2 : s.way.length ≠ 4096) (hA : BytesAt W5 W5.heap.size m'.A m'.p.b) (hc : m'.p.b.length ≤ m'.c)
    (hfar : ∀ ad, m'.A = some ad → m'.p.b ≠ [] → (F ad.block ∨ w.heap.size ≤ ad.block) ∧ v.ownBlock ≠ some ad.block) {v' : Value} (k1 : OwnK 48 3 w' 0 v' (ms.length + 1) (ms.flatMap pkCells ++ pkCells m')) (k2 : W5.grownBy w' v.ownBlock) (k3 : v'.ownBlock = v.ownBlock ∨ v'.ownBlock = some W5.heap.size) :
    w'.frozen? ⟨b, 0, none⟩ = false ∧ w'.cell? ⟨b, 0, none⟩ = some v ∧ RfTo w b F (s.push m'.p) (w'.setCell ⟨b, 0, none⟩ v') := by
  have hb := h.blt
  have s5 := B5.size
  have fr5 : Frame (fun j => v.ownBlock = some j) W5 w' := ⟨k2.os, k2.tape, k2.output, k2.size, fun k hk hkF => k2.block k hk fun e => hkF e.symm⟩
  have fr : Frame (fun j => v.ownBlock = some j) w w' := (Frame.of_below (F := fun j => v.ownBlock = some j) B5).trans fr5 fun j e => .inl e
  have frF : Frame F w w' := fr.mono fun j e => hw.row j e
  have r3 : BlkR 30 w' b (rfCells s.down v s.lost) := (frF.block b hb h.in_).trans r
  refine ⟨r3.frozen 0, (rf_cells r3).1, h.setRow frF (ms' := ms ++ [m']) (by rw [List.length_append, List.flatMap_append, List.length_singleton]; simpa using k1) (fun j hj => ?_) (fun q hq => ?_) (push_ok h.ok hp hf2) (by rw [List.map_append, hms]; rfl)⟩
  · rcases k3 with k3 | k3
    · exact .inl (hw.row j (by rw [← k3]; exact hj))
    · rw [k3] at hj; injection hj with hj; exact .inr (by omega)
  · have key : BytesAt W5 W5.heap.size q.A q.p.b ∧ q.p.b.length ≤ q.c ∧ (∀ ad, q.A = some ad → q.p.b ≠ [] → (F ad.block ∨ w.heap.size ≤ ad.block) ∧ v.ownBlock ≠ some ad.block) := by
      rcases List.mem_append.1 hq with hq | hq
      · obtain ⟨g1, g2, g3⟩ := hw.byt q hq
        exact ⟨g1.step B5, g2, fun ad e hne => ⟨.inl (g3 ad e hne).1, (g3 ad e hne).2⟩⟩
      · rw [List.mem_singleton.1 hq]
        exact ⟨hA, hc, hfar⟩
    obtain ⟨g1, g2, g3⟩ := key
    refine ⟨?_, g2, fun ad e hne => ⟨(g3 ad e hne).1, fun e2 => ?_⟩⟩
    · by_cases hne : q.p.b = []
      · rw [hne]; exact bytes_nil
      · exact fr5.bytes g1 fun ad e x => (g3 ad e hne).2 x
    · rcases k3 with k3 | k3
      · exact (g3 ad e hne).2 (by rw [← k3]; exact e2)
      · rw [k3] at e2; injection e2 with e2
        obtain ⟨ad', e', hl', _⟩ := g1 hne
        rw [e] at e'; cases e'
        omega
set_option maxRecDepth 100000 in
theorem rfDouble_no (h : RfAt w b F s) (i : Int) (hi : s.has i = false) : Calls Try.prog 33 #[.pointer (some ⟨b, 0, none⟩), .int .i64 i] w fun e w' => e = .returned (.int .i64 5) ∧ RfTo w b F s w' := by
  have zl := rfLook_no h i hi
  have HH := Lib.hid h
  clear h hi
  go_enter Try.func33, Try.ntmps33
  go_wp2_with (first
    | (go_at_call 30; (with_reducible refine zl.mono ?_); (rintro e w2 ⟨rfl, B2⟩))
    | ((with_reducible refine atWorld w2 ?_); refine wpList_allocRow (w := w2) info_pk rfl rfl ?_; (intro w3 b3 B3 s3; have b3 := Lib.hid b3; replace s3 := Lib.hid s3))
    | ((with_reducible refine atWorld w3 ?_); refine wpList_storeRow (w := w3) info_pk rfl (.tmp 5) (.tmp 11) rfl w2.heap.size pkZ pkZ rfl rfl rfl rfl pkZ_one b3.out ?_; (intro w4 b4 B4 s4 k4; have D4 := step_trans B2 (B3.trans B4); have b4 := Lib.hid b4; replace s4 := Lib.hid s4; clear k4)))
  go_ret
  exact ⟨rfl, HH.out.same D4⟩
set_option maxRecDepth 100000 in
set_option maxHeartbeats 1000000 in
theorem rfDouble_full (h : RfAt w b F s) (k : Nat) (p : Pk) (hk : s.way[k]? = some p) (hf : s.way.length = 4096) : Calls Try.prog 33 #[.pointer (some ⟨b, 0, none⟩), .int .i64 (k : Int)] w fun e w' => e = .returned (.int .i64 8) ∧ RfTo w b F s w' := by
  have zl := rfLook_yes h k p hk
  unfold RfTell pkCells at zl
  dsimp only at zl
  obtain ⟨M, hM⟩ : ∃ M, M = p.b.length := ⟨_, rfl⟩
  rw [← hM] at zl
  obtain ⟨⟨A0, c0, x0, _⟩, _⟩ := h.cells
  have hb := h.blt
  rw [hf] at x0
  have K := Lib.hid fun w1 (B : Below w.heap.size w w1) => (B.cell (p := ⟨b, 0, none⟩) hb).trans x0
  have HH := Lib.hid h
  clear h hk hf x0 hM hb
  go_enter Try.func33, Try.ntmps33
  go_wp2_with (first
    | (go_at_call 30; (with_reducible refine zl.mono ?_); (rintro e w2 ⟨A, c, rfl, _, _, _, B2⟩))
    | ((with_reducible refine atWorld w2 ?_); refine wpList_allocRow (w := w2) info_pk rfl rfl ?_; (intro w3 b3 B3 s3; have b3 := Lib.hid b3; replace s3 := Lib.hid s3))
    | ((with_reducible refine atWorld w3 ?_); refine wpList_storeRow (w := w3) info_pk rfl (.tmp 5) (.tmp 11) rfl w2.heap.size [.int .i64 (p.fr : Int), .int .i64 (p.to : Int), .slice A M c] pkZ rfl rfl rfl rfl (pk3_one _ _ _ _ _) b3.out ?_; (intro w4 b4 B4 s4 k4; have D4 := step_trans B2 (B3.trans B4); have x4 := K.out w4 D4; have b4 := Lib.hid b4; replace s4 := Lib.hid s4; clear k4)))
  go_ret
  exact ⟨rfl, HH.out.same D4⟩
set_option maxRecDepth 100000 in
set_option maxHeartbeats 2000000 in
theorem rfDouble_yes (h : RfAt w b F s) (k : Nat) (p : Pk) (hk : s.way[k]? = some p) (hf : s.way.length ≠ 4096) : Calls Try.prog 33 #[.pointer (some ⟨b, 0, none⟩), .int .i64 (k : Int)] w fun e w' => e = .returned (.int .i64 0) ∧ RfTo w b F (s.push p) w' := by
  have hmany := h.ok.many
  have hpo := h.ok.pk p (List.mem_of_getElem? hk)
  have zl := rfLook_yes h k p hk
  unfold RfTell pkCells at zl
  dsimp only at zl
  have hb := h.blt
  obtain ⟨v, ms, r, hw, hms⟩ := h.mem
  obtain ⟨A0, c0, rfl, hnc, hcm⟩ := way_form hw
  have hml : ms.length = s.way.length := by rw [← hms, List.length_map]
  obtain ⟨x0, _, _⟩ := rf_cells r
  obtain ⟨n, hn⟩ : ∃ n, n = ms.length := ⟨_, rfl⟩
  have hn4 : n < 4096 := by omega
  have POST : Hid (∀ w2 w5 w' v' A c, BytesAt w2 w2.heap.size A p.b → p.b.length ≤ c → (∀ ad, A = some ad → p.b ≠ [] → RfFar w b F ad.block) → Below w2.heap.size w2 w5 → Below w.heap.size w w5 → OwnK 48 3 w' 0 v' (n + 1) (ms.flatMap pkCells ++ pkCells ⟨p, A, c⟩) → w5.grownBy w' (Value.slice A0 n c0).ownBlock → (v'.ownBlock = (Value.slice A0 n c0).ownBlock ∨ v'.ownBlock = some w5.heap.size) →
      w'.frozen? ⟨b, 0, none⟩ = false ∧ w'.cell? ⟨b, 0, none⟩ = some (.slice A0 n c0) ∧ RfTo w b F (s.push p) (w'.setCell ⟨b, 0, none⟩ v')) := Lib.hid fun w2 w5 w' v' A c y1 y2 y3 B2 B5 k1 k2 k3 => by
    subst hn
    refine rf_push h r hw hms B5 ⟨p, A, c⟩ hpo hf (y1.step B2) y2 (fun ad e hne => ?_) k1 k2 k3
    obtain ⟨z1, z2⟩ := y3 ad e hne
    exact ⟨.inl z1, z2 _ x0⟩
  have OWN : Hid (∀ w5, Below w.heap.size w w5 → OwnK 48 3 w5 0 (.slice A0 n c0) n (ms.flatMap pkCells)) := Lib.hid fun w5 B => by
    subst hn
    exact hw.own.frame fun j hj => B.block j (hw.own.lt j hj).2
  rw [← hn] at x0
  have K := Lib.hid fun w1 (B : Below w.heap.size w w1) => (B.cell (p := ⟨b, 0, none⟩) hb).trans x0
  obtain ⟨xs, hxs⟩ : ∃ xs, xs = ms.flatMap pkCells := ⟨_, rfl⟩
  rw [← hxs] at OWN POST
  have HN := Lib.hid hn4
  have hlen : ¬ (4096 : Int) ≤ (n : Int) := by omega
  unfold pkCells at POST
  dsimp only at POST
  obtain ⟨M, hM⟩ : ∃ M, M = p.b.length := ⟨_, rfl⟩
  rw [← hM] at zl POST
  clear h hk hf x0 hM hb hxs hn hn4 hml hnc hcm hms hw r hmany hpo
  go_enter Try.func33, Try.ntmps33
  go_wp2_with (first
    | (go_at_call 30; (with_reducible refine zl.mono ?_); (rintro e w2 ⟨A, c, rfl, y1, y2, y3, B2⟩; have Y := Lib.hid (And.intro y1 (And.intro y2 y3)); clear y1 y2 y3))
    | ((with_reducible refine atWorld w2 ?_); refine wpList_allocRow (w := w2) info_pk rfl rfl ?_; (intro w3 b3 B3 s3; have b3 := Lib.hid b3; replace s3 := Lib.hid s3))
    | ((with_reducible refine atWorld w3 ?_); refine wpList_storeRow (w := w3) info_pk rfl (.tmp 5) (.tmp 11) rfl w2.heap.size [.int .i64 (p.fr : Int), .int .i64 (p.to : Int), .slice A M c] pkZ rfl rfl rfl rfl (pk3_one _ _ _ _ _) b3.out ?_; (intro w4 b4 B4 s4 k4; have C4 := B3.trans B4; have D4 := step_trans B2 C4; have x4 := K.out w4 D4; have x5 := fun o => K.out (w4.alloc o) (step_alloc D4 o); have u0 := b4.cell (k := 0) rfl; have u1 := b4.cell (k := 1) rfl; have u2 := b4.cell (k := 2) rfl; have b4 := Lib.hid b4; replace s4 := Lib.hid s4; clear k4)))
  go_region_law (refine step_appendK rfl (.tmp 26) (.tmp 28) elPk rfl (by simp [Act.eval]) (OWN.out _ (step_alloc D4 _).drew) ⟨w4.heap.size, 0, none⟩ 1 (by simp [Act.eval]) (ys := [.int .i64 (p.fr : Int), .int .i64 (p.to : Int), .slice A M c]) (m := 1) rfl (fun j u hu => (by rw [addr_zero_add]; exact (BlkR.new w4 [.int .i64 (p.fr : Int), .int .i64 (p.to : Int), .slice A M c] 48).cell hu)) (pk3_one _ _ _ _ _) (by have := HN.out; unfold maxLen; omega) (by have := HN.out; omega) (Nat.zero_le _) ?_; (intro v9 w9 o9 gr9 k9; obtain ⟨f9, x9, T9⟩ := POST.out _ _ _ _ _ _ Y.out.1 Y.out.2.1 Y.out.2.2 (step_alloc C4 _).drew (step_alloc D4 _).drew o9 gr9 k9; obtain ⟨A9, c9, rfl, _⟩ := o9.form; have T9 := Lib.hid T9; clear o9 gr9 k9))
  all_goals (go_wp2; go_ret)
  all_goals exact ⟨rfl, T9.out⟩
theorem rfDouble_any (h : RfAt w b F s) (i : Int) (E : Int) (s2 : N) (hE : s.doubleE i = E) (hs : s.double i = s2) :
    Calls Try.prog 33 #[.pointer (some ⟨b, 0, none⟩), .int .i64 i] w fun e w' => e = .returned (.int .i64 E) ∧ RfTo w b F s2 w' := by
  unfold N.double at hs
  rw [hE] at hs
  unfold N.doubleE at hE
  cases hh : s.has i with
  | false =>
    rw [hh, if_neg (by decide)] at hE
    subst hE
    rw [if_neg (by decide)] at hs
    subst hs
    exact rfDouble_no h i hh
  | true =>
    rw [hh, if_pos rfl] at hE
    obtain ⟨k, rfl, hk, hp⟩ := has_get hh
    by_cases hf : s.way.length = 4096
    · rw [if_pos hf] at hE
      subst hE
      rw [if_neg (by decide)] at hs
      subst hs
      exact rfDouble_full h k _ hp hf
    · rw [if_neg hf] at hE
      subst hE
      rw [if_pos rfl] at hs
      subst hs
      exact rfDouble_yes h k _ hp hf
end
end Go.Proofs.Ytplfhlmipdlmnaa
