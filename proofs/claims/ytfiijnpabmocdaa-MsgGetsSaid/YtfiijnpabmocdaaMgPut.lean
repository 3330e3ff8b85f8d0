/-
  msg.Put, at whatever message. Conditions: its numbers are ints, its bytes can be read.
-/
import Derived.Test.YtfiijnpabmocdaaMgCarry
import Derived.Test.YtfiijnpabmocdaaMgWrD
import Derived.Test.YtfiijnpabmocdaaMgBare
import Derived.Test.YtfiijnpabmocdaaMgCatch
namespace Go.Proofs.Ytfiijnpabmocdaa
open Go.RowKit Mg

theorem BlkR.allocW {E : TypeId} {w : World} {g : Nat} {xs : List Value} (h : BlkR E w g xs) (o : Obj) : BlkR E (w.alloc o) g xs := h.below ((Below.refl _ w).alloc (Nat.le_refl _) o) h.lt
def MpPost (m : M) (w : World) (e : Ending) (w' : World) : Prop :=
  ∃ A c, e = .returned (.tuple #[.slice A (Mg.putB m).length c, .int .i64 (Mg.putE m)]) ∧ c ≤ 9223372036854775807 ∧ Whole w' w.heap.size A c (Mg.putB m) ∧ Below w.heap.size w w'
/-- the first two bytes -/
def head2 (m : M) : List UInt8 := [UInt8.ofNat (m.kind % 256).toNat, UInt8.ofNat (m.src % 256).toNat]
theorem byte_of (x : Int) : ((UInt8.ofNat (x % 256).toNat).toNat : Int) = x % 256 := by
  rw [UInt8.toNat_ofNat']; omega
abbrev putW (m : M) (A : Option Addr) (c : Nat) (w : World) : World :=
  (((w.alloc (.cells #[.int .i64 m.kind, .int .i64 m.src, .int .i64 m.term, .int .i64 m.seq, .int .i64 m.stamp, .int .i64 m.block, .bool m.ok, .int .i64 m.rt, .int .i64 m.rn, .int .i64 m.rs, .int .u64 (m.bits : Int), .slice A m.data.length c] 27)).alloc (.cells #[.int .i64 0] 29)).alloc (.cells #[.int .u8 (m.kind % 256), .int .u8 (m.src % 256)] 5)).alloc (.cells #[.slice (some ⟨w.heap.size + 1 + 1, 0, none⟩) 2 2] 46)
theorem put_start (m : M) (A : Option Addr) (c : Nat) (w : World) (hr : BytesAt w w.heap.size A m.data) :
    WrAt w.heap.size w.heap.size (w.heap.size + 1 + 1 + 1) (putW m A c w) (fun k => k = w.heap.size ∨ k = w.heap.size + 1 + 1 + 1 ∨ k = w.heap.size + 1 + 1) m (head2 m) A c (w.heap.size + 1 + 1) 2 ∧
      BlkR 29 (putW m A c w) (w.heap.size + 1) [.int .i64 0] ∧ Below w.heap.size w (putW m A c w) := by
  have e1 : ∀ (w : World) o, (w.alloc o).heap.size = w.heap.size + 1 := fun w o => by simp
  have b1 := BlkR.new w (mCells m (.slice A m.data.length c)) 27
  have b2 := BlkR.new (w.alloc (.cells (mCells m (.slice A m.data.length c)).toArray 27)) [.int .i64 0] 29
  have b3 := BlkR.new ((w.alloc (.cells (mCells m (.slice A m.data.length c)).toArray 27)).alloc (.cells [Value.int .i64 0].toArray 29)) [.int .u8 (m.kind % 256), .int .u8 (m.src % 256)] 5
  have b4 := BlkR.new (((w.alloc (.cells (mCells m (.slice A m.data.length c)).toArray 27)).alloc (.cells [Value.int .i64 0].toArray 29)).alloc (.cells [Value.int .u8 (m.kind % 256), .int .u8 (m.src % 256)].toArray 5)) [.slice (some ⟨w.heap.size + 1 + 1, 0, none⟩) 2 2] 46
  simp only [e1] at b2 b3 b4
  have B : Below w.heap.size w (putW m A c w) := (((((Below.refl _ w).alloc (Nat.le_refl _) _).alloc (by rw [e1]; omega) _).alloc (by rw [e1, e1]; omega) _).alloc (by rw [e1, e1, e1]; omega) _)
  refine ⟨⟨((b1.allocW _).allocW _).allocW _, hr.below B, b4, ?_, Nat.le_refl 2, by decide, fun k => Iff.rfl, ⟨Nat.le_refl _, by omega, by omega, B.size⟩, by omega, by omega, by omega⟩, (b2.allocW _).allocW _, B⟩
  have e2 : cellsOfBytes (head2 m ++ List.replicate (2 - (head2 m).length) 0) = [.int .u8 (m.kind % 256), .int .u8 (m.src % 256)] := by
    simp only [head2, List.length_cons, List.length_nil, Nat.reduceAdd, Nat.sub_self, List.replicate_zero, List.append_nil, cellsOfBytes, List.map_cons, List.map_nil, byte_of]
  rw [e2]
  exact b3.allocW _
theorem step_no {p : Pt} {s : M × List UInt8} {er at_ : Int} (h : Mg.step wOps p s = .no er at_) : er = 5 := by
  cases p with
  | num q =>
    replace h : (wOps.num s.2 (Mg.get s.1 q) (Mg.size q) (Mg.most q)).bind (fun x => .ok (Mg.set s.1 x.1 q, x.2)) = .no er at_ := h
    simp only [wOps] at h
    split at h
    · cases h
    · cases h; rfl
  | bits => cases h
  | data =>
    replace h : (wOps.byt s.2 s.1.data).bind (fun x => .ok ({ s.1 with data := x.1 }, x.2)) = .no er at_ := h
    simp only [wOps] at h
    split at h
    · cases h
    · cases h; rfl
theorem run_no : ∀ {ps : List Pt} {s : M × List UInt8} {er at_ : Int}, run wOps ps s = .no er at_ → er = 5
  | [], _, _, _, h => by cases h
  | p :: r, s, er, at_, h => by
    have h : (Mg.step wOps p s).bind (run wOps r) = .no er at_ := h
    cases hx : Mg.step wOps p s with
    | no e a => rw [hx] at h; cases h; exact step_no hx
    | ok x => rw [hx] at h; exact run_no h
theorem carry_no {s : M × List UInt8} {er at_ : Int} (h : Mg.carry wOps s = .no er at_) : (er != 0) = true := by
  unfold Mg.carry at h
  split at h
  · cases h; rfl
  · split at h
    · rw [run_no h]; rfl
    · cases h; rfl
theorem step_wf {p : Pt} {s s' : M × List UInt8} (h : Mg.step wOps p s = .ok s') (hw : Wf s.1) : Wf s'.1 := by
  obtain ⟨h1, h2, h3, h4, h5, h6, h7, h8, h9, h10⟩ := hw
  have h0 : is64 0 := ⟨by decide, by decide⟩
  cases p with
  | num q =>
    replace h : (wOps.num s.2 (Mg.get s.1 q) (Mg.size q) (Mg.most q)).bind (fun x => .ok (Mg.set s.1 x.1 q, x.2)) = .ok s' := h
    simp only [wOps] at h
    split at h
    · cases h
      cases q <;> exact ⟨by assumption, by assumption, by assumption, by assumption, by assumption, by assumption, by assumption, by assumption, by assumption, by assumption⟩
    · cases h
  | bits =>
    cases h
    exact ⟨h1, h2, h3, h4, h5, h6, h7, h8, h9, show (0 : Nat) < 18446744073709551616 by decide⟩
  | data =>
    replace h : (wOps.byt s.2 s.1.data).bind (fun x => .ok ({ s.1 with data := x.1 }, x.2)) = .ok s' := h
    simp only [wOps] at h
    split at h
    · cases h
      exact ⟨h1, h2, h3, h4, h5, h6, h7, h8, h9, h10⟩
    · cases h
theorem run_wf : ∀ {ps : List Pt} {s s' : M × List UInt8}, run wOps ps s = .ok s' → Wf s.1 → Wf s'.1
  | [], _, _, h, hw => by cases h; exact hw
  | p :: r, s, s', h, hw => by
    have h : (Mg.step wOps p s).bind (run wOps r) = .ok s' := h
    cases hx : Mg.step wOps p s with
    | no e a => rw [hx] at h; cases h
    | ok x => rw [hx] at h; exact run_wf h (step_wf hx hw)
theorem carry_wf {s s' : M × List UInt8} (h : Mg.carry wOps s = .ok s') (hw : Wf s.1) : Wf s'.1 := by
  unfold Mg.carry at h
  split at h
  · cases h
  · split at h
    · exact run_wf h hw
    · cases h
set_option maxRecDepth 100000 in
set_option maxHeartbeats 2000000 in
theorem mput_any (m : M) (A : Option Addr) (c : Nat) (hwf : Wf m) (w : World) (hr : BytesAt w w.heap.size A m.data) : Calls Try.prog 6 #[.agg (mCells m (.slice A m.data.length c)).toArray] w (MpPost m w) := by
  have hmf : ∀ (fn : Fn) (first cap : Array Value) (w : World), (Instr.makeFunc fn first cap).run Try.prog w = .ok (.func fn first cap) w := fun _ _ _ _ => rfl
  obtain ⟨h1, he, hB⟩ := put_start m A c w hr
  have z : Calls Try.prog 19 #[.agg #[.pointer (some ⟨w.heap.size, 0, none⟩), .iface 44 (.pointer (some ⟨w.heap.size + 1 + 1 + 1, 0, none⟩))]] (putW m A c w)
      (FldPost (wrCar w.heap.size w.heap.size (w.heap.size + 1 + 1 + 1)) (putW m A c w) (fun k => k = w.heap.size ∨ k = w.heap.size + 1 + 1 + 1 ∨ k = w.heap.size + 1 + 1) (Mg.carry wOps (m, head2 m))) :=
    carry_any (wrCar w.heap.size w.heap.size (w.heap.size + 1 + 1 + 1)) ⟨A, c, _, _, h1⟩ (show (head2 m).length + 32 * 20 ≤ 1000 by simp [head2])
  obtain ⟨W, hW⟩ : ∃ x, x = putW m A c w := ⟨_, rfl⟩
  rw [← hW] at z he hB
  obtain ⟨gm, hgm⟩ : ∃ x, x = w.heap.size := ⟨_, rfl⟩
  obtain ⟨ge, hge⟩ : ∃ x, x = w.heap.size + 1 := ⟨_, rfl⟩
  obtain ⟨gw, hgw⟩ : ∃ x, x = w.heap.size + 1 + 1 + 1 := ⟨_, rfl⟩
  obtain ⟨F, hF⟩ : ∃ F : Nat → Prop, F = fun k => k = w.heap.size ∨ k = w.heap.size + 1 + 1 + 1 ∨ k = w.heap.size + 1 + 1 := ⟨_, rfl⟩
  have hne : ¬ F ge := by rw [hF, hge]; intro h; omega
  have hlo : ∀ k, F k → w.heap.size ≤ k := by rw [hF]; intro k h; omega
  rw [← hF, ← hgw] at z
  rw [← hge] at he
  have hcar : Mg.put m = match Mg.carry wOps (m, head2 m) with | .ok s => if bare s.1 then some s.2 else none | .no _ _ => none := rfl
  obtain ⟨r, hrr⟩ : ∃ r, r = Mg.carry wOps (m, head2 m) := ⟨_, rfl⟩
  rw [← hrr] at z hcar
  have HE := Lib.hid (And.intro he (And.intro hne (And.intro hlo hB)))
  clear h1 he hne hlo hB hF hr
  unfold mCells
  cases r with
  | no er at_ =>
    have hp : Mg.putB m = [] ∧ Mg.putE m = 2 := by simp only [Mg.putB, Mg.putE, hcar]; exact ⟨rfl, rfl⟩
    have hno := carry_no hrr.symm
    have HP := Lib.hid hp
    clear hp hcar hrr hwf
    go_enter_defers Try.func6, Try.ntmps6
    go_wp2_with fail
    unfold putW at hW
    rw [← hW, ← hgw, ← hge]
    refine z.mono ?_
    rintro e w2 ⟨rfl, hR⟩
    obtain ⟨he, hne, hlo, hB⟩ := HE.out
    have he2 : BlkR 29 w2 ge [.int .i64 0] := (hR.block ge he.lt hne).trans he
    refine leaves_cons (f := 17) (args := #[.pointer (some ⟨ge, 0, none⟩)]) (by simp) (by simp [go_sem]) ?_
    refine (putCatch_one ge 0 er at_ [] w2 (he2.cell rfl) (he2.frozen 0) hno).mono ?_
    rintro e u' w3 ⟨rfl, rfl, w4, hB4, rfl⟩
    have he4 := (he2.below hB4 he2.lt).set_ 0 (.int .i64 2)
    have hcell := he4.cell (k := 0) rfl
    have hfin : MpPost m w (.returned (.tuple #[.slice none 0 0, .int .i64 2])) (w4.setCell ⟨ge, 0, none⟩ (.int .i64 2)) := by
      obtain ⟨hp1, hp2⟩ := HP.out
      refine ⟨none, 0, by rw [hp1, hp2]; rfl, by decide, by rw [hp1]; exact Whole.none_, ?_⟩
      have hb2 : Below w.heap.size W w2 := hR.below hlo hB.size
      have hs2 := hB.size
      have hs3 : W.heap.size ≤ w2.heap.size := hR.size
      exact ((hB.trans hb2).trans (hB4.mono (by omega))).setCell (by show w.heap.size ≤ ge; omega) _
    clear he4 he2
    simp [Leaves, settle, results, Try.results6, go_sem, hcell]
    exact hfin
  | ok s =>
    have hwf2 := carry_wf hrr.symm hwf
    clear hrr hwf
    obtain ⟨bb, hbb⟩ : ∃ x, x = bare s.1 := ⟨_, rfl⟩
    have HB0 := Lib.hid (And.intro hbb hwf2)
    have HC := Lib.hid hcar
    clear hbb hwf2 hcar
    go_enter_defers Try.func6, Try.ntmps6
    go_wp2_with fail
    unfold putW at hW
    rw [← hW, ← hgw, ← hge]
    (with_reducible refine z.mono ?_)
    rintro e w2 hz
    obtain ⟨rfl, hcp⟩ : e = .returned (.tuple #[]) ∧ CarPost (fun w' F (s : M × List UInt8) => WrInv w.heap.size w.heap.size gw w' F s.1 s.2) W F s w2 := hz
    obtain ⟨F2, ⟨A2, c2, g2, cg2, h2⟩, hF2, hR⟩ := hcp
    rw [← hgm]
    rw [← hgm] at h2
    obtain ⟨he, hne, hlo, hB⟩ := HE.out
    have he2 : BlkR 29 w2 ge [.int .i64 0] := (hR.block ge he.lt hne).trans he
    have k0 := he2.cell (k := 0) rfl
    have f0 := he2.frozen 0
    obtain ⟨⟨m2, m3, m4, m5, m6⟩, ⟨m7, m8, m9, m10, m11⟩, m0, m1⟩ := mCells_at h2.msg
    have kw := h2.wr.cell (k := 0) rfl
    have zb := isBare_any s.1 A2 c2 HB0.out.2 w2
    have hneg : ¬ F2 ge := fun h => (hF2 ge h).elim hne (fun h => by have := he.lt; omega)
    have hb2 : Below w.heap.size w w2 := hB.trans (hR.below hlo hB.size)
    have H2 := Lib.hid (And.intro h2 (And.intro hneg (And.intro hb2 he2)))
    have HG := Lib.hid (And.intro hgm hge)
    unfold mCells at zb
    rw [← HB0.out.1] at zb
    clear he hne hlo hB he2 h2 hF2 hR hneg hb2 z hW hgm hge hgw
    cases bb with
    | false =>
      have HP := Lib.hid (show Mg.putB m = [] ∧ Mg.putE m = 2 by have h := HC.out; simp only [← HB0.out.1] at h; simp only [Mg.putB, Mg.putE, h]; exact ⟨rfl, rfl⟩)
      go_wp2_with (go_at_call 20; (with_reducible refine zb.mono ?_); (rintro e w3 ⟨rfl, B3⟩; obtain ⟨h2, hneg, hb2, he2⟩ := H2.out; have he3 := he2.below B3 he2.lt; have k3 := he3.cell (k := 0) rfl; have f3 := he3.frozen 0; have H3 := Lib.hid (And.intro B3 he3); clear B3 he3 he2 h2 hneg hb2))
      refine leaves_cons (f := 17) (args := #[.pointer (some ⟨ge, 0, none⟩)]) (by simp) (by simp [go_sem]) ?_
      refine (putCatch_none _ _).mono ?_
      rintro e u' w5 ⟨rfl, rfl, B5⟩
      obtain ⟨B3, he3⟩ := H3.out
      obtain ⟨h2, hneg, hb2, he2⟩ := H2.out
      have he4 := he3.set_ 0 (.int .i64 2)
      have hcell := (he4.below B5 he4.lt).cell (k := 0) rfl
      have hfin : MpPost m w (.returned (.tuple #[.slice none 0 0, .int .i64 2])) w5 := by
        obtain ⟨hp1, hp2⟩ := HP.out
        obtain ⟨hgm, hge⟩ := HG.out
        have s2 := hb2.size
        have hb4 : Below w.heap.size w (w3.setCell ⟨ge, 0, none⟩ (.int .i64 2)) := (step_trans hb2 B3).setCell (by show w.heap.size ≤ ge; omega) _
        exact ⟨none, 0, by rw [hp1, hp2]; rfl, by decide, by rw [hp1]; exact Whole.none_, step_trans hb4 B5⟩
      clear he4 he3 he2 h2 hneg hb2 B3 B5
      simp [Leaves, settle, results, Try.results6, go_sem, hcell]
      exact hfin
    | true =>
      have HP := Lib.hid (show Mg.putB m = s.2 ∧ Mg.putE m = 0 by have h := HC.out; simp only [← HB0.out.1] at h; simp only [Mg.putB, Mg.putE, h]; exact ⟨rfl, rfl⟩)
      go_wp2_with (go_at_call 20; (with_reducible refine zb.mono ?_); (rintro e w3 ⟨rfl, B3⟩; obtain ⟨h2, hneg, hb2, he2⟩ := H2.out; have he3 := he2.below B3 he2.lt; have k3 := he3.cell (k := 0) rfl; have f3 := he3.frozen 0; have kw3 := (h2.wr.below B3 h2.wr.lt).cell (k := 0) rfl; have H3 := Lib.hid (And.intro B3 he3); clear B3 he3 he2 h2 hneg hb2))
      refine leaves_cons (f := 17) (args := #[.pointer (some ⟨ge, 0, none⟩)]) (by simp) (by simp [go_sem]) ?_
      refine (putCatch_none _ _).mono ?_
      rintro e u' w5 ⟨rfl, rfl, B5⟩
      obtain ⟨B3, he3⟩ := H3.out
      obtain ⟨h2, hneg, hb2, he2⟩ := H2.out
      have he4 := he3.set_ 0 (.int .i64 0)
      have hcell := (he4.below B5 he4.lt).cell (k := 0) rfl
      have hfin : MpPost m w (.returned (.tuple #[.slice (some ⟨g2, 0, none⟩) s.2.length cg2, .int .i64 0])) w5 := by
        obtain ⟨hp1, hp2⟩ := HP.out
        obtain ⟨hgm, hge⟩ := HG.out
        have s2 := hb2.size
        have hb4 : Below w.heap.size w (w3.setCell ⟨ge, 0, none⟩ (.int .i64 0)) := (step_trans hb2 B3).setCell (by show w.heap.size ≤ ge; omega) _
        have hgne : g2 ≠ ge := fun e => hneg (e ▸ (h2.blk g2).2 (.inr (.inr rfl)))
        have hbuf := h2.buf.below B3 h2.buf.lt
        have hbuf2 : BlkR 5 (w3.setCell ⟨ge, 0, none⟩ (.int .i64 0)) g2 (cellsOfBytes (s.2 ++ List.replicate (cg2 - s.2.length) 0)) := (Below.heap_setCell w3 ⟨ge, 0, none⟩ (.int .i64 0) g2 hgne).trans hbuf
        have hbuf3 := hbuf2.below B5 hbuf2.lt
        have hlen := h2.len
        exact ⟨some ⟨g2, 0, none⟩, cg2, by rw [hp1, hp2], h2.cap, by rw [hp1]; exact .inr ⟨g2, cg2 - s.2.length, _, rfl, by have := h2.lo.2.2.1; omega, hbuf3, by omega⟩, step_trans hb4 B5⟩
      clear he4 he3 he2 h2 hneg hb2 B3 B5
      simp [Leaves, settle, results, Try.results6, go_sem, hcell]
      exact hfin
theorem mcheck_any (m : M) (A : Option Addr) (c : Nat) (hwf : Wf m) (w : World) (hr : BytesAt w w.heap.size A m.data) : Calls Try.prog 8 #[.agg (mCells m (.slice A m.data.length c)).toArray] w fun e w' => e = .returned (.int .i64 (Mg.putE m)) ∧ Below w.heap.size w w' := by
  have hB : Below w.heap.size w (w.alloc (.cells (mCells m (.slice A m.data.length c)).toArray 27)) := (Below.refl _ w).alloc (Nat.le_refl _) _
  have z := mput_any m A c hwf (w.alloc (.cells (mCells m (.slice A m.data.length c)).toArray 27)) (hr.step hB)
  have HB := Lib.hid hB
  clear hB hr
  unfold mCells at z HB ⊢
  go_enter Try.func8, Try.ntmps8
  go_wp2_with (go_at_call 6; (with_reducible refine z.mono ?_); (rintro e w3 ⟨A3, c3, rfl, hc3, hW3, B3⟩; have H3 := Lib.hid B3; clear hW3 B3 hc3))
  go_ret
  exact ⟨rfl, step_trans HB.out H3.out⟩
end Go.Proofs.Ytfiijnpabmocdaa
