/-
  Which methods carry what a kind has: the map that msg.fields makes. Conditions: none.
-/
import Derived.Test.YtfiijnpabmocdaaMgFld
import Derived.MapKept
namespace Go.Proofs.Ytfiijnpabmocdaa
open Go.RowKit Mg

/-- a field's method -/
def fnNo : Mg.Fd → FuncId
  | .term => 38
  | .seq => 42
  | .stamp => 40
  | .block => 43
  | .ok => 41
  | .recd => 39
  | .bits => 45
  | .data => 44
def fnV (f : Mg.Fd) : Value := .func (.func (fnNo f)) #[] #[]
/-- what each field's method does -/
theorem fld_any {α : Type} {w : World} {F : Nat → Prop} {m : M} {a : α} (C : Carr α) (h : C.Inv w F m a) (hs : C.small 3 a) (f : Mg.Fd) : Calls Try.prog (fnNo f) #[C.val] w (FldPost C w F (run C.o (parts f) (m, a))) := by
  cases f with
  | term => exact fld_term C h hs
  | seq => exact fld_seq C h hs
  | stamp => exact fld_stamp C h hs
  | block => exact fld_block C h hs
  | ok => exact fld_ok C h hs
  | recd => exact fld_rec C h hs
  | bits => exact fld_bits C h hs
  | data => exact fld_data C h hs
def FnVal (w : World) (base : Nat) (k : Int) (v : Value) : Prop :=
  ∃ g fs, fields k = some fs ∧ v = .slice (some ⟨g, 0, none⟩) fs.length fs.length ∧ base ≤ g ∧ BlkR 72 w g (fs.map fnV)
/-- at b there is the map, of these kinds so far -/
def FnsAt (w : World) (b base : Nat) (ks : List Int) : Prop :=
  ∃ es clock, w.heap[b]? = some (.map es clock) ∧ base ≤ b ∧ (∀ e ∈ es.toList, ∃ k, k ∈ ks ∧ e.key = .int .i64 k ∧ FnVal w base k e.val) ∧ ∀ k ∈ ks, ∃ e ∈ es.toList, e.key = .int .i64 k
section
variable {w w' wk : World} {b base : Nat} {ks : List Int} {k : Int} {v : Value}
theorem FnVal.keep (h : FnVal w base k v) {b : Nat} (hb : ∃ es c, w.heap[b]? = some (.map es c)) (hk : ∀ j, j < w.heap.size → j ≠ b → w'.heap[j]? = w.heap[j]?) : FnVal w' base k v := by
  obtain ⟨g, fs, h1, h2, h3, h4⟩ := h
  obtain ⟨es, c, hb⟩ := hb
  refine ⟨g, fs, h1, h2, h3, (hk g h4.lt (fun e => ?_)).trans h4⟩
  subst e
  have := hb.symm.trans h4
  cases this
theorem FnsAt.step (h : FnsAt w b base ks) (hB : Below w.heap.size w w') : FnsAt w' b base ks := by
  obtain ⟨es, c, h1, h2, h3, h4⟩ := h
  have hlt : b < w.heap.size := (Array.getElem?_eq_some_iff.1 h1).1
  refine ⟨es, c, (hB.block b hlt).trans h1, h2, fun e he => ?_, h4⟩
  obtain ⟨k, hk, e1, e2⟩ := h3 e he
  exact ⟨k, hk, e1, e2.keep ⟨es, c, h1⟩ (fun j hj _ => hB.block j hj)⟩
theorem FnsAt.new (w : World) : FnsAt (w.alloc (.map #[] 0)) w.heap.size w.heap.size [] :=
  ⟨#[], 0, heap_alloc_new w _, Nat.le_refl _, fun e he => by simp at he, fun k hk => by cases hk⟩
theorem key_int (k : Int) : MapKept.IsKey (.int .i64) (.int .i64 k) := by simp [MapKept.IsKey]
theorem FnsAt.keys {es : Array MapEntry} (h : ∀ e ∈ es.toList, ∃ k, k ∈ ks ∧ e.key = .int .i64 k ∧ FnVal w base k e.val) : ∀ x ∈ es.toList, MapKept.IsKey (.int .i64) x.key := fun x hx => by
  obtain ⟨k, _, e, _⟩ := h x hx
  rw [e]
  exact key_int k
theorem under_int : Try.prog.underlying 3 = some (.int .i64) := by kernel_rfl
theorem under_fns : Try.prog.underlying 69 = some (.map 3 67) := by kernel_rfl
theorem FnsAt.yes (h : FnsAt w b base ks) (hk : k ∈ ks) : ∃ g fs, fields k = some fs ∧ base ≤ g ∧ BlkR 72 w g (fs.map fnV) ∧ (Instr.lookup 69 (.map (some b)) (.int .i64 k) true).run Try.prog w = .ok (.tuple #[.slice (some ⟨g, 0, none⟩) fs.length fs.length, .bool true]) w := by
  obtain ⟨es, c, h1, h2, h3, h4⟩ := h
  rcases MapKept.findNow_spec (key_int k) es.toList 0 (FnsAt.keys h3) with ⟨_, h6⟩ | ⟨j, e, h5, h6, h7⟩
  · obtain ⟨e, he, ek⟩ := h4 k hk
    exact absurd ek (h6 e he)
  · obtain ⟨k', _, e2, g, fs, f1, f2, f3, f4⟩ := h3 e (List.mem_of_getElem? h6)
    rw [h7] at e2
    injection e2 with _ e2
    subst e2
    refine ⟨g, fs, f1, f3, f4, ?_⟩
    rw [f2] at h5
    simp [Instr.lookup, run_underlying under_fns, MapKept.run_getObj_map h1, MapKept.run_checkKey under_int (key_int k), MapKept.run_findKey under_int h5, Result.andThen]
theorem FnsAt.no (h : FnsAt w b base ks) (hk : k ∉ ks) : (Instr.lookup 69 (.map (some b)) (.int .i64 k) true).run Try.prog w = .ok (.tuple #[.slice none 0 0, .bool false]) w := by
  obtain ⟨es, c, h1, h2, h3, h4⟩ := h
  rcases MapKept.findNow_spec (key_int k) es.toList 0 (FnsAt.keys h3) with ⟨h5, h6⟩ | ⟨j, e, h5, h6, h7⟩
  · simp [Instr.lookup, run_underlying under_fns, MapKept.run_getObj_map h1, MapKept.run_checkKey under_int (key_int k), MapKept.run_findKey under_int h5, Result.andThen]
  · obtain ⟨k', hk', e2, _⟩ := h3 e (List.mem_of_getElem? h6)
    rw [h7] at e2
    injection e2 with _ e2
    subst e2
    exact absurd hk' hk
/-- an entry more: the slice is made, and put in -/
theorem wpList_entry {ops : Array Oper} {rest : List Oper} {o1 o : Oper} {a1 : Act} {Q : Exit → Act → World → Prop} (hgd1 : o1.guard = none) (hgd : o.guard = none) (x y z : Operand) (n : Nat) (ps : Array (Nat × Operand)) (ho1 : o1.op = .buildSlice 67 n ps) (ho : o.op = .insert 69 x y z) (fs : List Mg.Fd)
    (hbs : ∀ w : World, (Instr.buildSlice 67 n (ps.map fun (i, x) => (i, a1.eval x))).run Try.prog w = .ok (.slice (some ⟨w.heap.size, 0, none⟩) fs.length fs.length) (w.alloc (.cells (fs.map fnV).toArray 72)))
    (hx : ∀ v, (a1.put o1.dst v).eval x = .map (some b)) (hy : ∀ v, (a1.put o1.dst v).eval y = .int .i64 k) (hz : ∀ v, (a1.put o1.dst v).eval z = v) (hfs : fields k = some fs) (hno : k ∉ ks) (H : FnsAt wk b base ks) (hbk : base ≤ wk.heap.size)
    (h : ∀ v w', FnsAt w' b base (ks ++ [k]) → Below base wk w' → base ≤ w'.heap.size → wpList Try.prog ops Q rest ((a1.put o1.dst v).put o.dst undef) w') : wpList Try.prog ops Q (o1 :: o :: rest) a1 wk := by
  refine wpList_plain hgd1 fun K1 hK1 => ?_
  unfold Oper.wp execOp
  simp only [ho1, Sem.run_bind, hbs wk, Result.andThen_ok, Sem.run_pure]
  refine hK1 _ _ ?_
  obtain ⟨w, hw⟩ : ∃ x, x = wk.alloc (.cells (fs.map fnV).toArray 72) := ⟨_, rfl⟩
  rw [← hw]
  obtain ⟨sv, hsv⟩ : ∃ x, x = Value.slice (some ⟨wk.heap.size, 0, none⟩) fs.length fs.length := ⟨_, rfl⟩
  rw [← hsv]
  replace h := h sv
  have hx := hx sv
  have hy := hy sv
  have hz := (hz sv).trans hsv
  obtain ⟨a, ha⟩ : ∃ a, a = a1.put o1.dst sv := ⟨_, rfl⟩
  rw [← ha] at hx hy hz h ⊢
  have hnew : BlkR 72 w wk.heap.size (fs.map fnV) := by rw [hw]; exact BlkR.new wk _ _
  have hB : Below wk.heap.size wk w := by rw [hw]; exact (Below.refl _ _).alloc (Nat.le_refl _) _
  have hbb : b < wk.heap.size := by
    obtain ⟨es, c, h1, _⟩ := H
    exact (Array.getElem?_eq_some_iff.1 h1).1
  obtain ⟨es, c, h1, h2, h3, h4⟩ := H.step hB
  have hf : Instr.findNow (.int .i64) (.int .i64 k) es.toList 0 = some none := by
    rcases MapKept.findNow_spec (key_int k) es.toList 0 (FnsAt.keys h3) with ⟨h5, _⟩ | ⟨j, e, h5, h6, h7⟩
    · exact h5
    · obtain ⟨k', hk', e2, _⟩ := h3 e (List.mem_of_getElem? h6)
      rw [h7] at e2
      injection e2 with _ e2
      subst e2
      exact absurd hk' hno
  have hrun : (Instr.mapUpdate 69 (.map (some b)) (.int .i64 k) (.slice (some ⟨wk.heap.size, 0, none⟩) fs.length fs.length)).run Try.prog w =
      .ok () { w with heap := w.heap.setIfInBounds b (.map (es.push { key := .int .i64 k, val := .slice (some ⟨wk.heap.size, 0, none⟩) fs.length fs.length, born := c }) (c + 1)) } := by
    simp [Instr.mapUpdate, run_underlying under_fns, MapKept.run_getObj_map h1, MapKept.run_checkKey under_int (key_int k), MapKept.run_findKey under_int hf, MapKept.run_setObj_map _ h1, Result.andThen]
  obtain ⟨w', hw'⟩ : ∃ w', w' = { w with heap := w.heap.setIfInBounds b (.map (es.push { key := .int .i64 k, val := .slice (some ⟨wk.heap.size, 0, none⟩) fs.length fs.length, born := c }) (c + 1)) } := ⟨_, rfl⟩
  have hset := MapKept.heap_set (o' := .map (es.push { key := .int .i64 k, val := .slice (some ⟨wk.heap.size, 0, none⟩) fs.length fs.length, born := c }) (c + 1)) h1
  have hk1 : ∀ j, j ≠ b → w'.heap[j]? = w.heap[j]? := fun j hj => by rw [hw']; exact hset.2 j hj
  have hk2 : w'.heap[b]? = some (.map (es.push { key := .int .i64 k, val := .slice (some ⟨wk.heap.size, 0, none⟩) fs.length fs.length, born := c }) (c + 1)) := by rw [hw']; exact hset.1
  have hsz : w'.heap.size = w.heap.size := by rw [hw']; simp
  have hos : w'.os = w.os ∧ w'.tape = w.tape ∧ w'.output = w.output := by rw [hw']; exact ⟨rfl, rfl, rfl⟩
  rw [← hw'] at hrun
  have keep : ∀ k v, FnVal w base k v → FnVal w' base k v := fun k v hv => hv.keep ⟨es, c, h1⟩ (fun j _ hj => hk1 j hj)
  refine wpList_plain hgd fun K hK => ?_
  unfold Oper.wp execOp
  simp only [ho, hx, hy, hz, Sem.run_bind, hrun, Result.andThen_ok, Sem.run_pure]
  refine hK _ _ (h w' ⟨_, _, hk2, h2, fun e he => ?_, fun k' hk' => ?_⟩ ⟨hos.1.trans hB.os, hos.2.1.trans hB.tape, hos.2.2.trans hB.output, by rw [hsz]; exact hB.size, fun j hj => (hk1 j (by omega)).trans (hB.block j (by omega))⟩ (by rw [hsz]; exact Nat.le_trans hbk hB.size))
  · simp only [Array.toList_push, List.mem_append, List.mem_singleton] at he
    rcases he with he | rfl
    · obtain ⟨k', hk', e1, e2⟩ := h3 e he
      exact ⟨k', List.mem_append_left _ hk', e1, keep _ _ e2⟩
    · exact ⟨k, by simp, rfl, wk.heap.size, fs, hfs, rfl, hbk, (hk1 _ (by omega)).trans hnew⟩
  · rcases List.mem_append.1 hk' with hk' | hk'
    · obtain ⟨e, he, ek⟩ := h4 k' hk'
      exact ⟨e, by simp [he], ek⟩
    · rw [List.mem_singleton] at hk'
      exact ⟨{ key := .int .i64 k, val := .slice (some ⟨wk.heap.size, 0, none⟩) fs.length fs.length, born := c }, by simp, by rw [hk']⟩
set_option maxRecDepth 100000 in
set_option maxHeartbeats 2000000 in
theorem fields_any (w : World) : Calls Try.prog 30 #[] w fun e w' => ∃ b, e = .returned (.map (some b)) ∧ FnsAt w' b w.heap.size [1, 2, 3, 4, 5, 6, 7, 8, 9, 10, 11] ∧ Below w.heap.size w w' := by
  have hmm := fun w => run_makeMap (P := Try.prog) 69 w
  have h1 := FnsAt.new w
  have b1 : Below w.heap.size w (w.alloc (.map #[] 0)) := (Below.refl _ _).alloc (Nat.le_refl _) _
  have s1 : w.heap.size ≤ (w.alloc (.map #[] 0)).heap.size := b1.size
  have H1 := Lib.hid (And.intro h1 (And.intro b1 s1))
  clear h1 b1 s1
  go_enter Try.func30, Try.ntmps30
  go_wp2_with (
    (refine wpList_entry (k := 1) (ks := []) (b := w.heap.size) (base := w.heap.size) rfl rfl (.tmp 1) (.const (.int .i64 1)) (.tmp 2) _ _ rfl rfl [.term, .recd, .stamp] (fun w => by kernel_rfl) (fun _ => rfl) (fun _ => rfl) (fun _ => rfl) rfl (by decide) H1.out.1 H1.out.2.2 ?_)
    (intro v2 w2 hf hb hs; have H2 := Lib.hid (And.intro hf (And.intro (H1.out.2.1.trans hb) hs)); clear hf hb hs)
    (try simp only [Act.put, List.setIfInBounds_toArray, List.set_cons_zero, List.set_cons_succ])
    (refine wpList_entry (k := 2) (ks := [1]) (b := w.heap.size) (base := w.heap.size) rfl rfl (.tmp 1) (.const (.int .i64 2)) (.tmp 3) _ _ rfl rfl [.term, .ok, .stamp, .recd] (fun w => by kernel_rfl) (fun _ => rfl) (fun _ => rfl) (fun _ => rfl) rfl (by decide) H2.out.1 H2.out.2.2 ?_)
    (intro v3 w3 hf hb hs; have H3 := Lib.hid (And.intro hf (And.intro (H2.out.2.1.trans hb) hs)); clear hf hb hs)
    (try simp only [Act.put, List.setIfInBounds_toArray, List.set_cons_zero, List.set_cons_succ])
    (refine wpList_entry (k := 3) (ks := [1, 2]) (b := w.heap.size) (base := w.heap.size) rfl rfl (.tmp 1) (.const (.int .i64 3)) (.tmp 4) _ _ rfl rfl [.term, .stamp] (fun w => by kernel_rfl) (fun _ => rfl) (fun _ => rfl) (fun _ => rfl) rfl (by decide) H3.out.1 H3.out.2.2 ?_)
    (intro v4 w4 hf hb hs; have H4 := Lib.hid (And.intro hf (And.intro (H3.out.2.1.trans hb) hs)); clear hf hb hs)
    (try simp only [Act.put, List.setIfInBounds_toArray, List.set_cons_zero, List.set_cons_succ])
    (refine wpList_entry (k := 4) (ks := [1, 2, 3]) (b := w.heap.size) (base := w.heap.size) rfl rfl (.tmp 1) (.const (.int .i64 4)) (.tmp 5) _ _ rfl rfl [.term, .ok, .stamp] (fun w => by kernel_rfl) (fun _ => rfl) (fun _ => rfl) (fun _ => rfl) rfl (by decide) H4.out.1 H4.out.2.2 ?_)
    (intro v5 w5 hf hb hs; have H5 := Lib.hid (And.intro hf (And.intro (H4.out.2.1.trans hb) hs)); clear hf hb hs)
    (try simp only [Act.put, List.setIfInBounds_toArray, List.set_cons_zero, List.set_cons_succ])
    (refine wpList_entry (k := 5) (ks := [1, 2, 3, 4]) (b := w.heap.size) (base := w.heap.size) rfl rfl (.tmp 1) (.const (.int .i64 5)) (.tmp 6) _ _ rfl rfl [.term, .recd] (fun w => by kernel_rfl) (fun _ => rfl) (fun _ => rfl) (fun _ => rfl) rfl (by decide) H5.out.1 H5.out.2.2 ?_)
    (intro v6 w6 hf hb hs; have H6 := Lib.hid (And.intro hf (And.intro (H5.out.2.1.trans hb) hs)); clear hf hb hs)
    (try simp only [Act.put, List.setIfInBounds_toArray, List.set_cons_zero, List.set_cons_succ])
    (refine wpList_entry (k := 6) (ks := [1, 2, 3, 4, 5]) (b := w.heap.size) (base := w.heap.size) rfl rfl (.tmp 1) (.const (.int .i64 6)) (.tmp 7) _ _ rfl rfl [.term, .ok, .recd] (fun w => by kernel_rfl) (fun _ => rfl) (fun _ => rfl) (fun _ => rfl) rfl (by decide) H6.out.1 H6.out.2.2 ?_)
    (intro v7 w7 hf hb hs; have H7 := Lib.hid (And.intro hf (And.intro (H6.out.2.1.trans hb) hs)); clear hf hb hs)
    (try simp only [Act.put, List.setIfInBounds_toArray, List.set_cons_zero, List.set_cons_succ])
    (refine wpList_entry (k := 7) (ks := [1, 2, 3, 4, 5, 6]) (b := w.heap.size) (base := w.heap.size) rfl rfl (.tmp 1) (.const (.int .i64 7)) (.tmp 8) _ _ rfl rfl [.term, .seq, .stamp, .block, .data] (fun w => by kernel_rfl) (fun _ => rfl) (fun _ => rfl) (fun _ => rfl) rfl (by decide) H7.out.1 H7.out.2.2 ?_)
    (intro v8 w8 hf hb hs; have H8 := Lib.hid (And.intro hf (And.intro (H7.out.2.1.trans hb) hs)); clear hf hb hs)
    (try simp only [Act.put, List.setIfInBounds_toArray, List.set_cons_zero, List.set_cons_succ])
    (refine wpList_entry (k := 8) (ks := [1, 2, 3, 4, 5, 6, 7]) (b := w.heap.size) (base := w.heap.size) rfl rfl (.tmp 1) (.const (.int .i64 8)) (.tmp 9) _ _ rfl rfl [.term, .seq, .ok, .stamp] (fun w => by kernel_rfl) (fun _ => rfl) (fun _ => rfl) (fun _ => rfl) rfl (by decide) H8.out.1 H8.out.2.2 ?_)
    (intro v9 w9 hf hb hs; have H9 := Lib.hid (And.intro hf (And.intro (H8.out.2.1.trans hb) hs)); clear hf hb hs)
    (try simp only [Act.put, List.setIfInBounds_toArray, List.set_cons_zero, List.set_cons_succ])
    (refine wpList_entry (k := 9) (ks := [1, 2, 3, 4, 5, 6, 7, 8]) (b := w.heap.size) (base := w.heap.size) rfl rfl (.tmp 1) (.const (.int .i64 9)) (.tmp 10) _ _ rfl rfl [.term] (fun w => by kernel_rfl) (fun _ => rfl) (fun _ => rfl) (fun _ => rfl) rfl (by decide) H9.out.1 H9.out.2.2 ?_)
    (intro v10 w10 hf hb hs; have H10 := Lib.hid (And.intro hf (And.intro (H9.out.2.1.trans hb) hs)); clear hf hb hs)
    (try simp only [Act.put, List.setIfInBounds_toArray, List.set_cons_zero, List.set_cons_succ])
    (refine wpList_entry (k := 10) (ks := [1, 2, 3, 4, 5, 6, 7, 8, 9]) (b := w.heap.size) (base := w.heap.size) rfl rfl (.tmp 1) (.const (.int .i64 10)) (.tmp 11) _ _ rfl rfl [.term, .ok, .stamp, .bits] (fun w => by kernel_rfl) (fun _ => rfl) (fun _ => rfl) (fun _ => rfl) rfl (by decide) H10.out.1 H10.out.2.2 ?_)
    (intro v11 w11 hf hb hs; have H11 := Lib.hid (And.intro hf (And.intro (H10.out.2.1.trans hb) hs)); clear hf hb hs)
    (try simp only [Act.put, List.setIfInBounds_toArray, List.set_cons_zero, List.set_cons_succ])
    (refine wpList_entry (k := 11) (ks := [1, 2, 3, 4, 5, 6, 7, 8, 9, 10]) (b := w.heap.size) (base := w.heap.size) rfl rfl (.tmp 1) (.const (.int .i64 11)) (.tmp 12) _ _ rfl rfl [.term, .bits] (fun w => by kernel_rfl) (fun _ => rfl) (fun _ => rfl) (fun _ => rfl) rfl (by decide) H11.out.1 H11.out.2.2 ?_)
    (intro v12 w12 hf hb hs; have H12 := Lib.hid (And.intro hf (And.intro (H11.out.2.1.trans hb) hs)); clear hf hb hs)
    (try simp only [Act.put, List.setIfInBounds_toArray, List.set_cons_zero, List.set_cons_succ]))
  go_ret
  exact ⟨_, rfl, H12.out.1, H12.out.2.1⟩
end
end Go.Proofs.Ytfiijnpabmocdaa
