/-
  msg.Get, at whatever bytes. Conditions: they can be read, and are at most as many as a slice may hold.
-/
import Derived.Test.YtfiijnpabmocdaaMgCarry
import Derived.Test.YtfiijnpabmocdaaMgRd
import Derived.Test.YtfiijnpabmocdaaMgCatch
namespace Go.Proofs.Ytfiijnpabmocdaa
open Go.RowKit Mg

def zCells : List Value := [.int .i64 0, .int .i64 0, .int .i64 0, .int .i64 0, .int .i64 0, .int .i64 0, .bool false, .int .i64 0, .int .i64 0, .int .i64 0, .int .u64 0, .slice none 0 0]
theorem zCells_eq : zCells = mCells Mg.zero (.slice none 0 0) := rfl
theorem RM : RowTy Try.prog 27 zCells := ⟨fun w => by kernel_rfl, by kernel_rfl, _, Try.underlying27, rfl⟩
theorem RFl : RowTy Try.prog 38 [.int .i64 0, .int .i64 0] := ⟨fun w => by kernel_rfl, by kernel_rfl, _, Try.underlying38, rfl⟩
theorem mCells_one (m : M) (A : Option Addr) (n c : Nat) : ∀ v ∈ mCells m (.slice A n c), v.oneCell' = true := by
  intro v hv
  simp only [mCells, List.mem_cons, List.not_mem_nil, or_false] at hv
  rcases hv with rfl | rfl | rfl | rfl | rfl | rfl | rfl | rfl | rfl | rfl | rfl | rfl <;> rfl
theorem flt_one (e a : Int) : ∀ v ∈ [Value.int .i64 e, .int .i64 a], v.oneCell' = true := by
  intro v hv
  simp only [List.mem_cons, List.not_mem_nil, or_false] at hv
  rcases hv with rfl | rfl <;> rfl
theorem results_cells2 {fn : Func} {p q : Tmp} {ty tz : TypeId} (h : fn.results = #[.cell p ty, .cell q tz]) (tmps : Array Value) (P : Program) (w : World) (a b : Addr) (v x : Value) (hp : tmps.getD p undef = .pointer (some a)) (hq : tmps.getD q undef = .pointer (some b)) (hl : (loadVar ty a).run P w = .ok v w) (hl2 : (loadVar tz b).run P w = .ok x w) :
    (results fn tmps).run P w = .ok (.tuple #[v, x]) w := by
  have ha : ∀ a : Addr, (asAddr (.pointer (some a))).run P w = .ok a w := fun _ => rfl
  rw [Array.getD_eq_getD_getElem?] at hp hq
  simp only [results, h]
  simp [Sem.run_bind, Result.andThen, hp, hq, ha, hl, hl2]
def MgPost (l : List UInt8) (w : World) (e : Ending) (w' : World) : Prop :=
  ∃ A c, e = .returned (.tuple #[.agg (mCells (gotM l) (.slice A (gotM l).data.length c)).toArray, flt (gotE l) (gotA l)]) ∧ c ≤ 9223372036854775807 ∧ Whole w' w.heap.size A c (gotM l).data ∧ Below w.heap.size w w'
/-- a moment within msg.Get -/
structure GtAt (l : List UInt8) (B : Option Addr) (cb : Nat) (w0 : World) (gm gr gf gz : Nat) (w : World) (m : M) (at_ : Nat) : Prop where
  rd : ∃ F A c, RdAt w0.heap.size gm gr l B cb w F m at_ A c
  res : BlkR 27 w gz zCells
  fl : BlkR 38 w gf [.int .i64 0, .int .i64 0]
  bel : Below w0.heap.size w0 w
  ne : gz ≠ gm ∧ gz ≠ gr ∧ gf ≠ gm ∧ gf ≠ gr ∧ gz ≠ gf ∧ w0.heap.size ≤ gz ∧ w0.heap.size ≤ gf
  up : gz < gm ∧ gf < gm
section
variable {l : List UInt8} {B : Option Addr} {cb : Nat} {w0 w w' : World} {gm gr gf gz : Nat} {m m' : M} {at_ a' : Nat} {F : Nat → Prop}
theorem GtAt.frame (h : GtAt l B cb w0 gm gr gf gz w m at_) (hR : Frame (fun k => k = gm ∨ k = gr) w w') : BlkR 27 w' gz zCells ∧ BlkR 38 w' gf [.int .i64 0, .int .i64 0] ∧ Below w0.heap.size w0 w' := by
  obtain ⟨F, A, c, hr⟩ := h.rd
  have n := h.ne
  have hgr := hr.lo.1
  have hgm := hr.lo.2.1
  exact ⟨(hR.block gz h.res.lt (by omega)).trans h.res, (hR.block gf h.fl.lt (by omega)).trans h.fl, h.bel.trans (hR.below (fun k hk => by omega) h.bel.size)⟩
theorem GtAt.next (h : GtAt l B cb w0 gm gr gf gz w m at_) (hF : ∀ k, F k ↔ k = gm ∨ k = gr) (hR : Frame F w w') (hI : ∃ F, RdInv w0.heap.size gm gr l B cb w' F m' a') : GtAt l B cb w0 gm gr gf gz w' m' a' := by
  obtain ⟨F', A, c, hr⟩ := hI
  obtain ⟨h1, h2, h3⟩ := h.frame (hR.mono (fun k hk => (hF k).1 hk))
  exact ⟨⟨F', A, c, hr⟩, h1, h2, h3, h.ne, h.up⟩
/-- the kind, or the node, is laid -/
theorem GtAt.lay (h : GtAt l B cb w0 gm gr gf gz w m at_) {i : Nat} {v : Value} (hc : ∀ d, (mCells m d).set i v = mCells m' d) (hd : m'.data = m.data) : GtAt l B cb w0 gm gr gf gz (w.setCell ⟨gm, i, none⟩ v) m' at_ := by
  obtain ⟨F, A, c, hr⟩ := h.rd
  obtain ⟨h1, h2, h3⟩ := h.frame ((setG_frameR w gm i v).mono (fun k hk => .inl hk))
  refine ⟨⟨F, A, c, ?_⟩, h1, h2, h3, h.ne, h.up⟩
  have e := hc (.slice A m.data.length c)
  exact hr.msgSet e (by rw [hd]) (by rw [hd]; exact hr.dat) hr.cap
theorem GtAt.cell (h : GtAt l B cb w0 gm gr gf gz w m at_) : (∃ v, w.cell? ⟨gm, 0, none⟩ = some (.int .i64 v)) ∧ (∃ v, w.cell? ⟨gm, 1, none⟩ = some (.int .i64 v)) ∧ w.frozen? ⟨gm, 0, none⟩ = false ∧ w.frozen? ⟨gm, 1, none⟩ = false := by
  obtain ⟨F, A, c, hr⟩ := h.rd
  exact ⟨⟨_, hr.msg.cell rfl⟩, ⟨_, hr.msg.cell rfl⟩, hr.msg.frozen 0, hr.msg.frozen 1⟩
/-- a number is read -/
theorem GtAt.num (h : GtAt l B cb w0 gm gr gf gz w m at_) : Calls Try.prog 27 #[.pointer (some ⟨gr, 0, none⟩), .int .i64 0, .int .i64 1, .int .i64 255] w fun e w' => match (rOps l).num at_ 0 1 255 with
    | .ok x => e = .returned (.int .i64 x.1) ∧ GtAt l B cb w0 gm gr gf gz w' m x.2
    | .no er a => e = .panicked (wrongP er a) ∧ Frame (fun k => k = gm ∨ k = gr) w w' := by
  obtain ⟨F, A, c, hr⟩ := h.rd
  refine (rNum ⟨A, c, hr⟩ 0 1 255 (.inr ⟨rfl, by decide, by decide⟩)).mono fun e w' hz => ?_
  cases hx : (rOps l).num at_ 0 1 255 with
  | ok x =>
    rw [hx] at hz
    obtain ⟨he, F2, hI, hF2, hR⟩ := hz
    exact ⟨he, h.next hr.blk hR ⟨F2, hI⟩⟩
  | no er a =>
    rw [hx] at hz
    exact ⟨hz.1, hz.2.mono (fun k hk => (hr.blk k).1 hk)⟩
theorem GtAt.car (h : GtAt l B cb w0 gm gr gf gz w m at_) : Calls Try.prog 19 #[.agg #[.pointer (some ⟨gm, 0, none⟩), .iface 57 (.pointer (some ⟨gr, 0, none⟩))]] w fun e w' => match Mg.carry (rOps l) (m, at_) with
    | .ok x => e = .returned (.tuple #[]) ∧ GtAt l B cb w0 gm gr gf gz w' x.1 x.2
    | .no er a => e = .panicked (wrongP er a) ∧ Frame (fun k => k = gm ∨ k = gr) w w' := by
  obtain ⟨F, A, c, hr⟩ := h.rd
  have z : Calls Try.prog 19 #[.agg #[.pointer (some ⟨gm, 0, none⟩), .iface 57 (.pointer (some ⟨gr, 0, none⟩))]] w (FldPost (rdCar w0.heap.size gm gr l B cb) w F (Mg.carry (rOps l) (m, at_))) := carry_any (rdCar w0.heap.size gm gr l B cb) ⟨A, c, hr⟩ trivial
  refine z.mono fun e w' hz => ?_
  cases hx : Mg.carry (rOps l) (m, at_) with
  | ok x =>
    rw [hx] at hz
    obtain ⟨he, F2, hI, hF2, hR⟩ := hz
    exact ⟨he, h.next hr.blk hR ⟨F2, hI⟩⟩
  | no er a =>
    rw [hx] at hz
    exact ⟨hz.1, hz.2.mono (fun k hk => (hr.blk k).1 hk)⟩
theorem GtAt.below (h : GtAt l B cb w0 gm gr gf gz w m at_) (hB : Below w.heap.size w w') : GtAt l B cb w0 gm gr gf gz w' m at_ := by
  obtain ⟨F, A, c, hr⟩ := h.rd
  exact ⟨⟨F, A, c, hr.step hB⟩, h.res.below hB h.res.lt, h.fl.below hB h.fl.lt, h.bel.trans (hB.mono h.bel.size), h.ne, h.up⟩
/-- the fault goes through the door -/
theorem get_no (tmps : Array Value) (w : World) (er a : Int) (hz : BlkR 27 w gz zCells) (hf : BlkR 38 w gf [.int .i64 0, .int .i64 0]) (hB : Below w0.heap.size w0 w) (hn : gz ≠ gf ∧ w0.heap.size ≤ gf) (hg : got l = .no er a) (t2 : tmps.getD 2 undef = .pointer (some ⟨gz, 0, none⟩)) (t3 : tmps.getD 3 undef = .pointer (some ⟨gf, 0, none⟩)) :
    Leaves Try.prog Try.f14 tmps (MgPost l w0) [{ target := .fn (.func 26) #[.pointer (some ⟨gf, 0, none⟩)], args := #[] }] (.panicking (wrongP er a)) w := by
  refine leaves_cons (f := 26) (args := #[.pointer (some ⟨gf, 0, none⟩)]) (by simp) (by simp [go_sem]) ?_
  refine (getCatch_one gf er a [] w hf).mono ?_
  rintro e u' w3 ⟨rfl, rfl, hf3, hR3⟩
  have hz3 : BlkR 27 w3 gz zCells := (hR3.block gz hz.lt hn.1).trans hz
  have hb3 : Below w0.heap.size w0 w3 := hB.trans (hR3.below (fun k hk => by omega) hB.size)
  have hfin : MgPost l w0 (.returned (.tuple #[.agg zCells.toArray, .agg #[.int .i64 er, .int .i64 a]])) w3 := by
    refine ⟨none, 0, ?_, by decide, ?_, hb3⟩
    · simp only [gotM, gotE, gotA, hg]; rfl
    · simp only [gotM, hg]; exact Whole.none_
  have hl1 := loadRow RM rfl hz3
  have hl2 := loadRow RFl (xs := [.int .i64 er, .int .i64 a]) rfl hf3
  exact ⟨_, results_cells2 Try.results14 tmps _ _ _ _ _ _ t2 t3 hl1 hl2, hfin⟩
end
abbrev getW (B : Option Addr) (n cb : Nat) (w : World) : World :=
  (((w.alloc (.cells #[.int .i64 0, .int .i64 0, .int .i64 0, .int .i64 0, .int .i64 0, .int .i64 0, .bool false, .int .i64 0, .int .i64 0, .int .i64 0, .int .u64 0, .slice none 0 0] 27)).alloc (.cells #[.int .i64 0, .int .i64 0] 38)).alloc (.cells #[.slice B n cb, .int .i64 0] 59)).alloc (.cells #[.int .i64 0, .int .i64 0, .int .i64 0, .int .i64 0, .int .i64 0, .int .i64 0, .bool false, .int .i64 0, .int .i64 0, .int .i64 0, .int .u64 0, .slice none 0 0] 27)
theorem get_start (l : List UInt8) (B : Option Addr) (cb : Nat) (w : World) (hlc : l.length ≤ cb) (hl : l.length ≤ 140737488351232) (hcb : cb ≤ 9223372036854775807) (hr : BytesAt w w.heap.size B l) :
    GtAt l B cb w (w.heap.size + 1 + 1 + 1) (w.heap.size + 1 + 1) (w.heap.size + 1) w.heap.size (getW B l.length cb w) Mg.zero 0 := by
  have e1 : ∀ (w : World) o, (w.alloc o).heap.size = w.heap.size + 1 := fun w o => by simp
  have b1 := BlkR.new w zCells 27
  have b2 := BlkR.new (w.alloc (.cells zCells.toArray 27)) [.int .i64 0, .int .i64 0] 38
  have b3 := BlkR.new ((w.alloc (.cells zCells.toArray 27)).alloc (.cells [Value.int .i64 0, .int .i64 0].toArray 38)) [.slice B l.length cb, .int .i64 0] 59
  have b4 := BlkR.new (((w.alloc (.cells zCells.toArray 27)).alloc (.cells [Value.int .i64 0, .int .i64 0].toArray 38)).alloc (.cells [Value.slice B l.length cb, .int .i64 0].toArray 59)) zCells 27
  simp only [e1] at b2 b3 b4
  have Bw : Below w.heap.size w (getW B l.length cb w) := (((((Below.refl _ w).alloc (Nat.le_refl _) _).alloc (by rw [e1]; omega) _).alloc (by rw [e1, e1]; omega) _).alloc (by rw [e1, e1, e1]; omega) _)
  refine ⟨⟨fun k => k = w.heap.size + 1 + 1 + 1 ∨ k = w.heap.size + 1 + 1, none, 0, b4, Whole.none_, by decide, b3.allocB _, hr.below Bw, ⟨hlc, hl, hcb⟩, Nat.zero_le _, fun k => Iff.rfl, by omega, by omega, Bw.size⟩, ((b1.allocB _).allocB _).allocB _, (b2.allocB _).allocB _, Bw, by omega, by omega⟩
set_option maxRecDepth 100000 in
set_option maxHeartbeats 4000000 in
theorem mget_any (l : List UInt8) (B : Option Addr) (cb : Nat) (w : World) (hlc : l.length ≤ cb) (hl : l.length ≤ 140737488351232) (hcb : cb ≤ 9223372036854775807) (hr : BytesAt w w.heap.size B l) : Calls Try.prog 14 #[.slice B l.length cb] w (MgPost l w) := by
  have hmf : ∀ (fn : Fn) (first cap : Array Value) (w : World), (Instr.makeFunc fn first cap).run Try.prog w = .ok (.func fn first cap) w := fun _ _ _ _ => rfl
  have g0 := get_start l B cb w hlc hl hcb hr
  obtain ⟨W, hW⟩ : ∃ x, x = getW B l.length cb w := ⟨_, rfl⟩
  rw [← hW] at g0
  obtain ⟨gm, hgm⟩ : ∃ x, x = w.heap.size + 1 + 1 + 1 := ⟨_, rfl⟩
  obtain ⟨gr, hgr⟩ : ∃ x, x = w.heap.size + 1 + 1 := ⟨_, rfl⟩
  obtain ⟨gf, hgf⟩ : ∃ x, x = w.heap.size + 1 := ⟨_, rfl⟩
  rw [← hgm, ← hgr, ← hgf] at g0
  have z1 := g0.num
  have HL := Lib.hid (And.intro hlc (And.intro hl hcb))
  have hne := g0.ne
  have HN := Lib.hid (And.intro hne.2.2.2.2.1 hne.2.2.2.2.2.2)
  have H0 := Lib.hid g0
  clear g0 hr hlc hl hcb hne
  unfold getW at hW
  go_enter_defers Try.func14, Try.ntmps14
  go_wp2_with fail
  rw [← hW, ← hgm, ← hgr, ← hgf]
  clear hW hgm hgr hgf
  (with_reducible refine z1.mono ?_)
  rintro e w2 hz
  clear z1
  have G0 : Hid (got l = ((rOps l).num 0 0 1 255).bind fun x => ((rOps l).num x.2 0 1 255).bind fun y => (Mg.carry (rOps l) ({ Mg.zero with kind := x.1, src := y.1 }, y.2)).bind fun s => if s.2 = l.length then .ok s.1 else .no 4 s.2) := Lib.hid rfl
  cases hx1 : (rOps l).num 0 0 1 255 with
  | no er a =>
    rw [hx1] at hz
    obtain ⟨rfl, hR⟩ := hz
    obtain ⟨q1, q2, q3⟩ := H0.out.frame hR
    exact get_no _ w2 er a q1 q2 q3 HN.out (by rw [G0.out, hx1]; rfl) rfl rfl
  | ok x1 =>
    rw [hx1] at hz
    obtain ⟨rfl, g1⟩ := hz
    have G1 : Hid (got l = ((rOps l).num x1.2 0 1 255).bind fun y => (Mg.carry (rOps l) ({ Mg.zero with kind := x1.1, src := y.1 }, y.2)).bind fun s => if s.2 = l.length then .ok s.1 else .no 4 s.2) := Lib.hid (by rw [G0.out, hx1]; rfl)
    clear hx1
    obtain ⟨⟨v0, c0⟩, _, f0, _⟩ := g1.cell
    have g2 : GtAt l B cb w gm gr gf w.heap.size (w2.setCell ⟨gm, 0, none⟩ (.int .i64 x1.1)) { Mg.zero with kind := x1.1 } x1.2 := g1.lay (fun d => rfl) rfl
    have H2 := Lib.hid g2
    clear g1 g2
    go_wp2_with fail
    revert H2
    generalize w2.setCell ⟨gm, 0, none⟩ (.int .i64 x1.1) = w3
    intro H2
    clear c0 f0
    (with_reducible refine H2.out.num.mono ?_)
    rintro e w4 hz
    cases hx2 : (rOps l).num x1.2 0 1 255 with
    | no er a =>
      rw [hx2] at hz
      obtain ⟨rfl, hR⟩ := hz
      obtain ⟨q1, q2, q3⟩ := H2.out.frame hR
      exact get_no _ w4 er a q1 q2 q3 HN.out (by rw [G1.out, hx2]; rfl) rfl rfl
    | ok x2 =>
      rw [hx2] at hz
      obtain ⟨rfl, g3⟩ := hz
      have G2 : Hid (got l = (Mg.carry (rOps l) ({ Mg.zero with kind := x1.1, src := x2.1 }, x2.2)).bind fun s => if s.2 = l.length then .ok s.1 else .no 4 s.2) := Lib.hid (by rw [G1.out, hx2]; rfl)
      clear hx2
      obtain ⟨_, ⟨v0, c0⟩, _, f0⟩ := g3.cell
      have g4 : GtAt l B cb w gm gr gf w.heap.size (w4.setCell ⟨gm, 1, none⟩ (.int .i64 x2.1)) { Mg.zero with kind := x1.1, src := x2.1 } x2.2 := g3.lay (fun d => rfl) rfl
      have H4 := Lib.hid g4
      clear g3 g4
      go_wp2_with fail
      revert H4
      generalize w4.setCell ⟨gm, 1, none⟩ (.int .i64 x2.1) = w5
      intro H4
      clear c0 f0
      (with_reducible refine H4.out.car.mono ?_)
      rintro e w6 hz
      cases hx3 : Mg.carry (rOps l) ({ Mg.zero with kind := x1.1, src := x2.1 }, x2.2) with
      | no er a =>
        rw [hx3] at hz
        obtain ⟨rfl, hR⟩ := hz
        obtain ⟨q1, q2, q3⟩ := H4.out.frame hR
        exact get_no _ w6 er a q1 q2 q3 HN.out (by rw [G2.out, hx3]; rfl) rfl rfl
      | ok s =>
        rw [hx3] at hz
        obtain ⟨rfl, g5⟩ := hz
        have G3 : Hid (got l = if s.2 = l.length then .ok s.1 else .no 4 s.2) := Lib.hid (by rw [G2.out, hx3]; rfl)
        clear hx3
        obtain ⟨F, A, c, h5⟩ := g5.rd
        have k1 := h5.rd.cell (k := 1) rfl
        have H5 := Lib.hid g5
        have HR5 := Lib.hid h5
        clear g5
        by_cases hlen : s.2 = l.length
        · have hb : ((s.2 : Int) != (l.length : Int)) = false := by rw [hlen]; simp
          have hgot : got l = .ok s.1 := by rw [G3.out, if_pos hlen]
          have HF := Lib.hid hgot
          clear hgot hlen h5
          have hres := H5.out.res
          have hmsg := HR5.out.msg
          have HM := Lib.hid (And.intro hmsg hres)
          clear hres hmsg
          go_wp2_with (first
            | (refine wpList_loadRow RM rfl (.tmp 5) rfl gm 0 (mCells s.1 (.slice A s.1.data.length c)) rfl rfl (rangeOf HM.out.1) ?_)
            | (refine wpList_storeRow RM rfl (.tmp 2) (.tmp 32) rfl w.heap.size (mCells s.1 (.slice A s.1.data.length c)) zCells rfl rfl rfl rfl (mCells_one _ _ _ _) HM.out.2 ?_; (intro w7 hb7 B7 hs7 hk7; have hf7 : BlkR 38 w7 gf [.int .i64 0, .int .i64 0] := (hk7 gf HN.out.1.symm).trans H5.out.fl; have H7 := Lib.hid (And.intro hb7 (And.intro B7 (And.intro hs7 (And.intro hk7 hf7)))); clear hb7 B7 hs7 hk7 hf7))
            | (refine wpList_storeRow RFl rfl (.tmp 3) (.tmp 33) rfl gf [.int .i64 0, .int .i64 0] [.int .i64 0, .int .i64 0] rfl rfl rfl rfl (flt_one _ _) H7.out.2.2.2.2 ?_; (intro w8 hb8 B8 hs8 hk8; have H8 := Lib.hid (And.intro hb8 (And.intro B8 (And.intro hs8 hk8))); clear hb8 B8 hs8 hk8)))
          refine leaves_cons (f := 26) (args := #[.pointer (some ⟨gf, 0, none⟩)]) (by simp) (by simp [go_sem]) ?_
          obtain ⟨hb8, B8, hs8, hk8⟩ := H8.out
          refine (getCatch_none gf w8 hb8).mono ?_
          rintro e u' w9 ⟨rfl, rfl, hf9, hR9⟩
          obtain ⟨hb7, B7, hs7, hk7, hf7⟩ := H7.out
          obtain ⟨hgf1, hgf2⟩ := HN.out
          have hz8 : BlkR 27 w8 w.heap.size (mCells s.1 (.slice A s.1.data.length c)) := (hk8 _ hgf1).trans hb7
          have hz9 := (hR9.block _ hz8.lt hgf1).trans hz8
          have h5 := HR5.out
          have hw7 : Whole w7 (gm + 1) A c s.1.data := h5.dat.frame (F := fun k => k = w.heap.size) ⟨B7.os, B7.tape, B7.output, Nat.le_of_eq hs7.symm, fun k _ hk => hk7 k hk⟩ (fun k hk => by have := H5.out.up; omega)
          have hw8 : Whole w8 (gm + 1) A c s.1.data := hw7.frame (F := fun k => k = gf) ⟨B8.os, B8.tape, B8.output, Nat.le_of_eq hs8.symm, fun k _ hk => hk8 k hk⟩ (fun k hk => by have := H5.out.up; omega)
          have hw9 := hw8.frame hR9 (fun k hk => by have := H5.out.up; omega)
          have hfin : MgPost l w (.returned (.tuple #[.agg (mCells s.1 (.slice A s.1.data.length c)).toArray, .agg #[.int .i64 0, .int .i64 0]])) w9 := by
            refine ⟨A, c, ?_, h5.cap, ?_, ?_⟩
            · simp only [gotM, gotE, gotA, HF.out]; rfl
            · simp only [gotM, HF.out]; exact hw9.less (by have := h5.lo; omega)
            · exact ((H5.out.bel.trans B7).trans (B8.mono hgf2)).trans (hR9.below (fun k hk => by omega) (by have := H5.out.bel.size; omega))
          have hl1 := loadRow RM (xs := mCells s.1 (.slice A s.1.data.length c)) rfl hz9
          have hl2 := loadRow RFl (xs := [.int .i64 0, .int .i64 0]) rfl hf9
          exact ⟨_, results_cells2 Try.results14 _ _ _ _ _ _ _ rfl rfl hl1 hl2, hfin⟩
        · have hb : ((s.2 : Int) != (l.length : Int)) = true := by rw [bne_iff_ne]; omega
          have HF := Lib.hid (show got l = .no 4 (s.2 : Int) by rw [G3.out, if_neg hlen])
          clear hlen h5
          go_wp2_with (go_at_call 28; (with_reducible refine (refuse_any _ _ _).mono ?_); (rintro e w7 ⟨rfl, rfl⟩))
          exact get_no _ w6 4 _ H5.out.res H5.out.fl H5.out.bel HN.out HF.out rfl rfl
end Go.Proofs.Ytfiijnpabmocdaa
