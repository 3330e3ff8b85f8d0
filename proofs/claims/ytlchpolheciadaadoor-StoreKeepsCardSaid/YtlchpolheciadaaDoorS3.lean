/-
  Several texts in one (StSurv, StMend, StOpenM, StOpen, StNoneP). Conditions: as each says.
-/
import Derived.Test.YtlchpolheciadaaDoorS2
import Derived.Sort.CutIn
import Derived.Test.YtlchpolheciadaaDoorS1
import Derived.Test.YtlchpolheciadaaDoorDiskAny
/-
  The program's survey. Conditions: a disk's methods do what the document says; the table of crc lies as the program's text lays it, beside the disk.
-/
namespace Go.Proofs.YtlchpolheciadaaDoor
open Go.RowKit Fix
attribute [local go_sem] Oper.semAt_some

section
variable {F : Fence} {n : Nat} {P : Program} {T E : TypeId} {z : Value} {bytes : Nat} {w w' : World} {B base : Nat} {v : Value} {xs ys : List Value}
theorem wpListIn_append_runR {ops : Array Oper} {rest : List Oper} {o : Oper} {a : Act} {Q : Exit → Act → World → Prop} (hgd : o.guard = none) (s x : Operand) (t : TypeId)
    (ho : o.op = .call { callee := .builtin .append, args := #[s, x], argTypes := #[t, t] }) {v u v' : Value} (hs : a.eval s = v) (hx : a.eval x = u)
    (hrun : (Builtin.append_ #[t, t] o.type #[v, u]).run P w = .ok v' w') (h : wpListIn F n P ops Q rest (a.put o.dst v') w') : wpListIn F n P ops Q (o :: rest) a w := by
  refine wpListIn_plain hgd fun K hK => ?_
  unfold Oper.wpIn
  refine ⟨by simp [Oper.about, ho, resolve, Target.leads, Sem.run_pure], ?_⟩
  rw [Oper.semAt_plain F _ _ (by rw [ho]; intro c hc; cases hc)]
  simp [execOp, ho, resolve, invoke, builtin, hs, hx, hrun, Result.andThen]
  exact hK _ _ h
theorem wpListIn_appendR {ops : Array Oper} {rest : List Oper} {o : Oper} {a : Act} {Q : Exit → Act → World → Prop} (hgd : o.guard = none) (s x : Operand) (el : Elem P T E z bytes)
    (ho : o.op = .call { callee := .builtin .append, args := #[s, x], argTypes := #[T, T] })
    (base : Nat) (v : Value) (xs : List Value) (hs : a.eval s = v) (hown : OwnR E w base v xs) (A : Option Addr) (ys : List Value) (m c B : Nat) (hx : a.eval x = .slice A m c) (hm : ys.length = m) (hr : RowAt w B A ys)
    (h1 : ∀ u ∈ ys, u.oneCell' = true) (hmax : xs.length + ys.length ≤ maxLen) (hsz : (xs.length + ys.length) * bytes ≤ 140737488355328) (hbase : base ≤ w.heap.size)
    (h : ∀ v' w', OwnR E w' base v' (xs ++ ys) → w.grownBy w' v.ownBlock → (v'.ownBlock = v.ownBlock ∨ v'.ownBlock = some w.heap.size) → wpListIn F n P ops Q rest (a.put o.dst v') w') : wpListIn F n P ops Q (o :: rest) a w := by
  obtain ⟨v', w', hrun, h2, h3, h4⟩ := run_appendR el hown hm hr h1 hmax hsz hbase o.type
  exact wpListIn_append_runR hgd s x T ho hs hx hrun (h v' w' h2 h3 h4)
end
/-- behind some rounds of survey: the loop began in W0; the store is at g, the list's variable at B, the error at E -/
structure SvI (At : World → Nat → (Nat → Prop) → DS → Prop) (b g B E : Nat) (F : Nat → Prop) (T : DS) (W0 : World) (s : StM) (bad : List Int) (v : Value) (V : World) : Prop where
  at_ : At V b F T
  st : BlkR 27 V g (stL g b s)
  var : BlkR 42 V B [v]
  own : OwnR 3 V (W0.heap.size + 2) v (iv bad)
  err : BlkR 39 V E [.int .i64 0]
  fr : Frame (fun r => r = g ∨ r = B ∨ r = E) W0 V
  far : W0.heap.size + 2 ≤ V.heap.size
def SvPost (At : World → Nat → (Nat → Prop) → DS → Prop) (b g : Nat) (F : Nat → Prop) (T : DS) (s : StM) (w : World) (en : Ending) (w' : World) : Prop :=
  ∃ A c, en = .returned (.tuple #[.slice A (St.bads T s.at_ s.n).length c, .int .i64 0]) ∧ At w' b F T ∧ BlkR 27 w' g (stL g b { s with num := St.top T s.at_ s.num s.n }) ∧ RowAt w' w'.heap.size A (iv (St.bads T s.at_ s.n)) ∧ (St.bads T s.at_ s.n).length ≤ c ∧
    (∀ ad, A = some ad → St.bads T s.at_ s.n ≠ [] → w.heap.size ≤ ad.block) ∧ Frame (fun r => r = g) w w'
/-- what does not turn while survey's loop runs -/
theorem sv_still {w W w4 V : World} {g G1 G2 n : Nat} (b1 : BlkR 24 W w.heap.size [.pointer (some ⟨g, 0, none⟩)]) (BW : Below w.heap.size w W) (ht : TabAt w) (B4 : Below W.heap.size W w4) (g1 : BlkR 3 w4 G1 [.int .i64 (n : Int)]) (g2 : BlkR 83 w4 G2 [.pointer (some ⟨w.heap.size + 1 + 1, 0, none⟩)])
    (htg : 0 ≠ g) (hgl : g < w.heap.size) (sW : W.heap.size = w.heap.size + 3) (l1 : W.heap.size ≤ G1) (l2 : W.heap.size ≤ G2) (fr : Frame (fun r => r = g ∨ r = w.heap.size + 1 ∨ r = w.heap.size + 1 + 1) w4 V) :
    BlkR 24 V w.heap.size [.pointer (some ⟨g, 0, none⟩)] ∧ BlkR 3 V G1 [.int .i64 (n : Int)] ∧ BlkR 83 V G2 [.pointer (some ⟨w.heap.size + 1 + 1, 0, none⟩)] ∧ TabAt V := by
  have htl := tab_lt ht
  exact ⟨(b1.step B4).frame fr (by omega), g1.frame fr (by omega), g2.frame fr (by omega), ((ht.below BW (Nat.le_refl _)).below B4 (Nat.le_refl _)).frame fr (by omega)⟩
theorem own_putObj {E : TypeId} {V : World} {base r : Nat} {v : Value} {xs : List Value} (h : OwnR E V base v xs) (o : Obj) (hr : r < base) : OwnR E (V.putObj r o) base v xs :=
  World.ownsRow.kept h (grownBy_putObj' V r o) (by
    rcases hv : v.ownBlock with _ | k
    · exact .inl rfl
    · refine .inr fun e => ?_
      have := (OwnR.lt h k hv).1
      cases e
      omega)
section
variable {At : World → Nat → (Nat → Prop) → DS → Prop} (D : Disks Tryd.prog At)
include D
theorem SvI.putObj {b g B E : Nat} {F : Nat → Prop} {T : DS} {W0 V : World} {s : StM} {bad : List Int} {v : Value} (h : SvI At b g B E F T W0 s bad v V) (hF : ∀ k, F k → k < W0.heap.size) (hg : g < W0.heap.size) (hB : B < W0.heap.size) (hE : E < W0.heap.size) (r : Nat) (o : Obj) (hr : r = W0.heap.size ∨ r = W0.heap.size + 1) :
    SvI At b g B E F T W0 s bad v (V.putObj r o) := by
  obtain ⟨h1, h2, h3, h4, h5, h6, h7⟩ := h
  exact ⟨D.keep V _ b F T h1 (by rw [World.putObj_size]; exact Nat.le_refl _) fun k hk => World.putObj_heap_other (by have := hF k hk; omega), (World.putObj_heap_other (by omega)).trans h2, (World.putObj_heap_other (by omega)).trans h3,
    own_putObj h4 o (by omega), (World.putObj_heap_other (by omega)).trans h5, h6.putObj o (.inr (by omega)), by rw [World.putObj_size]; exact h7⟩
omit D in
theorem bads_len (T : DS) (p : Int) : ∀ k, (St.bads T p k).length ≤ k
  | 0 => Nat.le_refl _
  | k + 1 => by
    have := bads_len T p k
    unfold St.bads
    split
    · omega
    · rw [List.length_append]; simp; omega
/-- what a round turns -/
def SvX (g B E L : Nat) (r : Nat) : Prop := r = g ∨ r = B ∨ r = E ∨ L + 2 ≤ r
omit D in
theorem sv_round {b g B E : Nat} {F : Nat → Prop} {T : DS} {W0 V V' : World} {s s' : StM} {bad' : List Int} {v' : Value} {k : Nat} (a : Act) (h : SvI At b g B E F T W0 s' bad' v' V') (fr : Frame (SvX g B E W0.heap.size) V V') (hs : W0.heap.size + 2 ≤ V.heap.size) (hg : g < W0.heap.size) (hB : B < W0.heap.size) (hE : E < W0.heap.size)
    (hb : bad' = St.bads T s.at_ (k + 1)) (hn : s' = { s with num := St.top T s.at_ s.num (k + 1) }) : RndPost W0.heap.size (fun x V => x = 0 ∧ ∃ v, SvI At b g B E F T W0 { s with num := St.top T s.at_ s.num (k + 1) } (St.bads T s.at_ (k + 1)) v V) V .normal a V' := by
  subst hb hn
  exact ⟨fr.block _ (by omega) (by unfold SvX; omega), fr.block _ (by omega) (by unfold SvX; omega), 0, rfl, v', h⟩
/-- the number is raised -/
theorem sv_num {b g B E : Nat} {F : Nat → Prop} {T : DS} {W0 V V1 : World} {s : StM} {bad : List Int} {v : Value} (h : SvI At b g B E F T W0 s bad v V) (_hF : ∀ k, F k → k < W0.heap.size) (hgF : ¬ F g) (hBg : B ≠ g) (hEg : E ≠ g) (hg : g < W0.heap.size) (B1 : Below V.heap.size V V1) (n : Nat) (z : Int) (hz : z = (n : Int)) :
    SvI At b g B E F T W0 { s with num := n } bad v (V1.setCell ⟨g, 4, none⟩ (.int .i64 z)).drew ∧ Frame (SvX g B E W0.heap.size) V (V1.setCell ⟨g, 4, none⟩ (.int .i64 z)).drew := by
  subst hz
  obtain ⟨h1, h2, h3, h4, h5, h6, h7⟩ := h
  have fr : Frame (fun r => r = g) V1 (V1.setCell ⟨g, 4, none⟩ (.int .i64 (n : Int))).drew := Frame.drawn ((Frame.refl (fun r => r = g) V1).setAt ⟨g, 4, none⟩ (.int .i64 (n : Int)) rfl)
  have s1 := B1.size
  have s2 := fr.size
  refine ⟨⟨at_beside D (At_step D h1 B1) fr hgF, (h2.step B1).set_ 4 _, (h3.step B1).frame fr hBg, ?_, (h5.step B1).frame fr hEg, ?_, by omega⟩, ?_⟩
  · refine World.ownsRow.kept (row := some g) (h4.below B1 (Nat.le_refl _)) ⟨fr.os, fr.tape, fr.output, fr.size, fun r hr hne => fr.block r hr fun e => hne (by rw [e])⟩ ?_
    rcases hv : v.ownBlock with _ | r
    · exact .inl rfl
    · refine .inr fun e => ?_
      have := (OwnR.lt h4 r hv).1
      cases e
      omega
  · exact (h6.trans (Frame.of_below (F := fun _ => False) B1) fun _ x => x.elim).trans fr fun r e => .inl (.inl e)
  · exact (Frame.of_below (F := SvX g B E W0.heap.size) B1).trans fr fun r e => .inl (.inl e)
/-- the error is none -/
theorem sv_ok {b g B E : Nat} {F : Nat → Prop} {T : DS} {W0 V V0 : World} {s : StM} {bad : List Int} {v : Value} (h : SvI At b g B E F T W0 s bad v V) (fr0 : Frame (SvX g B E W0.heap.size) V0 V) (hEF : ¬ F E) (hBE : B ≠ E) (hEg : E ≠ g) (hE : E < W0.heap.size) :
    SvI At b g B E F T W0 s bad v (V.setCell ⟨E, 0, none⟩ (.int .i64 0)) ∧ Frame (SvX g B E W0.heap.size) V0 (V.setCell ⟨E, 0, none⟩ (.int .i64 0)) := by
  obtain ⟨h1, h2, h3, h4, h5, h6, h7⟩ := h
  have fr : Frame (fun r => r = E) V (V.setCell ⟨E, 0, none⟩ (.int .i64 0)) := (Frame.refl _ _).setAt _ _ rfl
  have s2 := fr.size
  refine ⟨⟨at_beside D h1 fr hEF, h2.frame fr (Ne.symm hEg), h3.frame fr hBE, ?_, h5.set_ 0 _, h6.trans fr fun r e => .inl (.inr (.inr e)), by omega⟩, fr0.trans fr fun r e => .inl (.inr (.inr (.inl e)))⟩
  refine World.ownsRow.kept (row := some E) h4 ⟨fr.os, fr.tape, fr.output, fr.size, fun r hr hne => fr.block r hr fun e => hne (by rw [e])⟩ ?_
  rcases hv : v.ownBlock with _ | r
  · exact .inl rfl
  · refine .inr fun e => ?_
    have := (OwnR.lt h4 r hv).1
    cases e
    omega
/-- a block is bad -/
theorem sv_append {b g B E : Nat} {F : Nat → Prop} {T : DS} {W0 V V0 w' : World} {s : StM} {bad : List Int} {v v' : Value} {i : Int} (h : SvI At b g B E F T W0 s bad v V) (fr0 : Frame (SvX g B E W0.heap.size) V0 V) (hF : ∀ k, F k → k < W0.heap.size) (hBF : ¬ F B) (hBE : B ≠ E) (hBg : B ≠ g) (hg : g < W0.heap.size) (hB : B < W0.heap.size) (hE : E < W0.heap.size) (o : Obj)
    (ho : OwnR 3 w' (W0.heap.size + 2) v' (iv bad ++ [.int .i64 i])) (hg' : (V.alloc o).grownBy w' v.ownBlock) :
    BlkR 42 w' B [v] ∧ SvI At b g B E F T W0 s (bad ++ [i]) v' (w'.setCell ⟨B, 0, none⟩ v') ∧ Frame (SvX g B E W0.heap.size) V0 (w'.setCell ⟨B, 0, none⟩ v') := by
  obtain ⟨h1, h2, h3, h4, h5, h6, h7⟩ := h
  have B0 : Below V.heap.size V (V.alloc o) := (Below.refl _ _).alloc (Nat.le_refl _) _
  have s0 := B0.size
  have s1 := hg'.size
  have low : ∀ r, v.ownBlock = some r → W0.heap.size + 2 ≤ r := fun r hr => (OwnR.lt h4 r hr).1
  have fr1 : Frame (fun r => W0.heap.size + 2 ≤ r) (V.alloc o) w' := ⟨hg'.os, hg'.tape, hg'.output, hg'.size, fun r hr hn => hg'.block r hr fun e => hn (low r e.symm)⟩
  have fr2 : Frame (fun r => W0.heap.size + 2 ≤ r) V w' := (Frame.of_below B0).trans fr1 fun r e => .inl e
  have fr3 : Frame (fun r => r = B) w' (w'.setCell ⟨B, 0, none⟩ v') := (Frame.refl _ _).setAt _ _ rfl
  have s3 := fr3.size
  have hB2 := h3.frame fr2 (by omega)
  have hat : At w' b F T := D.keep V w' b F T h1 fr2.size fun k hk => fr2.block k (D.lt V b F T h1 k hk) (by have := hF k hk; omega)
  refine ⟨hB2, ⟨at_beside D hat fr3 hBF, (h2.frame fr2 (by omega)).frame fr3 (Ne.symm hBg), hB2.set_ 0 v', ?_, (h5.frame fr2 (by omega)).frame fr3 (Ne.symm hBE), ?_, by omega⟩, ?_⟩
  · rw [iv_append]
    refine World.ownsRow.kept (row := some B) ho ⟨fr3.os, fr3.tape, fr3.output, fr3.size, fun r hr hne => fr3.block r hr fun e => hne (by rw [e])⟩ ?_
    rcases hv : v'.ownBlock with _ | r
    · exact .inl rfl
    · refine .inr fun e => ?_
      have := (OwnR.lt ho r hv).1
      cases e
      omega
  · exact (h6.trans fr2 fun r e => .inr (by omega)).trans fr3 fun r e => .inl (.inr (.inl e))
  · exact (fr0.trans fr2 fun r e => .inl (.inr (.inr (.inr e)))).trans fr3 fun r e => .inl (.inr (.inl e))
/-- behind the loop -/
theorem sv_fin {b g : Nat} {F : Nat → Prop} {T : DS} {w w4 V : World} {s : StM} {v : Value} (hv : SvI At b g (w.heap.size + 1) (w.heap.size + 1 + 1) F T w4 { s with num := St.top T s.at_ s.num s.n } (St.bads T s.at_ s.n) v V)
    (B : Below w.heap.size w w4) (hlt : w.heap.size + 3 ≤ w4.heap.size) (hF : ∀ k, F k → k < w.heap.size) (hg : g < w.heap.size) (nq : Nat) (o : Obj) : SvPost At b g F T s w (.returned (.tuple #[v, .int .i64 0])) ((V.drewN nq).putObj w4.heap.size o) := by
  have h2 := hv.putObj D (fun k hk => by have := hF k hk; omega) (by omega) (by omega) (by omega) w4.heap.size o (.inl rfl)
  have h3 : SvI At b g (w.heap.size + 1) (w.heap.size + 1 + 1) F T w4 { s with num := St.top T s.at_ s.num s.n } (St.bads T s.at_ s.n) v ((V.drewN nq).putObj w4.heap.size o) := by
    obtain ⟨h1, h2, h3, h4, h5, h6, h7⟩ := h2
    exact ⟨D.keep _ _ b F T h1 (by rw [World.putObj_size, World.putObj_size]; exact Nat.le_refl _) fun k hk => rfl, h2, h3, h4, h5, ⟨h6.os, h6.tape, h6.output, h6.size, h6.block⟩, h7⟩
  obtain ⟨A, c, rfl, hc, _⟩ := h3.own.form
  rw [iv_length] at hc ⊢
  refine ⟨A, c, rfl, h3.at_, h3.st, h3.own.row, hc, fun ad e hne => ?_, ((Frame.of_below (F := fun r => r = g) B).trans h3.fr fun r e => ?_)⟩
  · subst e
    have hpos : 0 < (iv (St.bads T s.at_ s.n)).length := by rw [iv_length]; exact List.length_pos_iff.2 hne
    obtain ⟨k, cap, e, h5, _⟩ := World.ownsRow.form h3.own hpos
    injection e with e1 _ _
    injection e1 with e1
    subst e1
    show w.heap.size ≤ k
    omega
  · rcases e with e | e | e
    · exact .inl e
    · exact .inr (by omega)
    · exact .inr (by omega)
set_option maxRecDepth 100000 in
set_option maxHeartbeats 2000000 in
theorem stSurvey_any (w : World) (b g : Nat) (F : Nat → Prop) (T : DS) (s : StM) (ht : TabAt w) (h : At w b F T) (hb : BlkR 27 w g (stL g b s)) (hgF : ¬ F g) (hf : StFit s) (hok : ∀ i, i < s.n → St.bE T s.at_ (i : Int) = 0 ∨ St.bE T s.at_ (i : Int) = 11) (hn0 : ∀ i, i < s.n → St.bN T s.at_ (i : Int) ≤ 1099511627776) :
    Calls Tryd.prog 32 #[.pointer (some ⟨g, 0, none⟩)] w (SvPost At b g F T s w) := by
  obtain ⟨W, hW⟩ : ∃ W, W = ((w.alloc (.cells #[.pointer (some ⟨g, 0, none⟩)] 24)).alloc (.cells #[.slice none 0 0] 42)).alloc (.cells #[.int .i64 0] 39) := ⟨_, rfl⟩
  have sW : W.heap.size = w.heap.size + 3 := by rw [hW]; simp
  have hgl := hb.lt
  obtain ⟨w1, hw1⟩ : ∃ w1, w1 = w.alloc (.cells #[.pointer (some ⟨g, 0, none⟩)] 24) := ⟨_, rfl⟩
  obtain ⟨w2, hw2⟩ : ∃ w2, w2 = w1.alloc (.cells #[.slice none 0 0] 42) := ⟨_, rfl⟩
  have hw3 : W = w2.alloc (.cells #[.int .i64 0] 39) := by rw [hW, hw2, hw1]
  have s1 : w1.heap.size = w.heap.size + 1 := by rw [hw1]; simp
  have s2 : w2.heap.size = w.heap.size + 1 + 1 := by rw [hw2]; simp [s1]
  have C1 : Below w.heap.size w w1 := by rw [hw1]; exact (Below.refl _ _).alloc (Nat.le_refl _) _
  have C2 : Below w1.heap.size w1 w2 := by rw [hw2]; exact (Below.refl _ _).alloc (Nat.le_refl _) _
  have C3 : Below w2.heap.size w2 W := by rw [hw3]; exact (Below.refl _ _).alloc (Nat.le_refl _) _
  have b1 : BlkR 24 w1 w.heap.size [.pointer (some ⟨g, 0, none⟩)] := by rw [hw1]; exact BlkR.new w _ _
  have b2 : BlkR 42 w2 w1.heap.size [.slice none 0 0] := by rw [hw2]; exact BlkR.new w1 _ _
  have b3 : BlkR 39 W w2.heap.size [.int .i64 0] := by rw [hw3]; exact BlkR.new w2 _ _
  have BW := step_trans C1 (step_trans C2 C3)
  rw [s1] at b2
  rw [s2] at b3
  replace b1 := (b1.step C2).step C3
  replace b2 := b2.step C3
  have x3 : W.cell? ⟨g, 3, none⟩ = some (.int .i64 (s.n : Int)) := (st_rd (hb.step BW)).2.2.2.1
  have x3 := hW ▸ x3
  have zt := fun w E => through_any (s.n : Int) E w
  unfold ThrPost at zt
  have HH := Lib.hid (And.intro b1 (And.intro b2 (And.intro b3 (And.intro BW (And.intro sW (And.intro ht (And.intro h (And.intro hb (And.intro hgF (And.intro hf (And.intro hok hn0)))))))))))
  have HG := Lib.hid hgl
  clear b1 b2 b3 BW sW ht h hb hgF hf hok hn0 C1 C2 C3 s1 s2 hw1 hw2 hw3 hgl
  refine calls_of_wp_marks Tryd.func32 rfl ?_
  simp only [Tryd.ntmps32, List.size_toArray, List.length_cons, List.length_nil, Nat.reduceAdd, Nat.reduceSub, Array.replicate_succ, Array.replicate_zero, List.push_toArray, List.append_toArray, List.nil_append, List.cons_append]
  go_wp2_with (go_at_call 36; rw [← hW]; refine (zt W _).mono ?_; (rintro e w4 ⟨G1, G2, rfl, g1, g2, l1, l2, B4⟩))
  clear hW x3
  have HB4 := Lib.hid B4
  have HGG := Lib.hid (And.intro g1 (And.intro g2 (And.intro l1 l2)))
  clear g1 g2 l1 l2 B4 zt
  have still := fun V fr => sv_still (V := V) HH.out.1 HH.out.2.2.2.1 HH.out.2.2.2.2.2.1 HB4.out HGG.out.1 HGG.out.2.1 (st_notab HH.out.2.2.2.2.2.1 HH.out.2.2.2.2.2.2.2.1) HG.out HH.out.2.2.2.2.1 HGG.out.2.2.1 HGG.out.2.2.2 fr
  have HST := Lib.hid still
  clear still
  have hlt : w.heap.size + 3 ≤ w4.heap.size := by have := HH.out.2.2.2.2.1; have := HB4.out.size; omega
  have HLT := Lib.hid hlt
  have hF : ∀ k, F k → k < w.heap.size := D.lt w b F T HH.out.2.2.2.2.2.2.1
  have HF := Lib.hid hF
  have hg4 : g < w4.heap.size := by have := HG.out; omega
  have HI : Hid (∀ (k : Nat) (x : Int) (V : World), (x = 0 ∧ ∃ v, SvI At b g (w.heap.size + 1) (w.heap.size + 1 + 1) F T w4 { s with num := St.top T s.at_ s.num k } (St.bads T s.at_ k) v V) → ThAt V G1 G2 (w.heap.size + 1 + 1) s.n x) := Lib.hid fun k x V h => by
    obtain ⟨rfl, v, hv⟩ := h
    obtain ⟨_, c1, c2, _⟩ := HST.out V hv.fr
    exact ⟨c1.cell rfl, c2.cell rfl, hv.err.cell rfl⟩
  have HPU : Hid (∀ (k : Nat) (x : Int) (V : World) (r : Nat) (o : Obj), r = w4.heap.size ∨ r = w4.heap.size + 1 → (x = 0 ∧ ∃ v, SvI At b g (w.heap.size + 1) (w.heap.size + 1 + 1) F T w4 { s with num := St.top T s.at_ s.num k } (St.bads T s.at_ k) v V) → (x = 0 ∧ ∃ v, SvI At b g (w.heap.size + 1) (w.heap.size + 1 + 1) F T w4 { s with num := St.top T s.at_ s.num k } (St.bads T s.at_ k) v (V.putObj r o))) := Lib.hid fun k x V r o hr h => by
    obtain ⟨h0, v, hv⟩ := h
    exact ⟨h0, v, hv.putObj D (fun k hk => by have := hF k hk; omega) hg4 (by omega) (by omega) r o hr⟩
  have H0 : Hid (∀ o1 o2, ((0 : Int) = 0 ∧ ∃ v, SvI At b g (w.heap.size + 1) (w.heap.size + 1 + 1) F T w4 { s with num := St.top T s.at_ s.num 0 } (St.bads T s.at_ 0) v ((w4.alloc o1).alloc o2))) := Lib.hid fun o1 o2 => by
    obtain ⟨b1, b2, b3, BW, sW, ht, h, hb, hgF, hf, hok, hn0⟩ := HH.out
    have B5 : Below w4.heap.size w4 ((w4.alloc o1).alloc o2) := ((Below.refl _ _).alloc (Nat.le_refl _) _).alloc (by simp) _
    have B6 := step_trans HB4.out B5
    exact ⟨rfl, _, At_step D (At_step D h BW) B6, (hb.step BW).step B6, b2.step B6, OwnR.nil_, b3.step B6, Frame.of_below B5, by simp⟩
  clear hlt hF hg4
  refine wp_through G1 G2 (w.heap.size + 1 + 1) s.n HH.out.2.2.2.2.2.2.2.2.2.1.n64 rfl rfl (fun k x V => x = 0 ∧ ∃ v, SvI At b g (w.heap.size + 1) (w.heap.size + 1 + 1) F T w4 { s with num := St.top T s.at_ s.num k } (St.bads T s.at_ k) v V) 0 HI.out HPU.out H0.out
    (fun k => { tmps := #[.pointer (some ⟨g, 0, none⟩), .pointer (some ⟨w.heap.size, 0, none⟩), .slice none 0 0, .int .i64 0, .pointer (some ⟨w.heap.size + 1, 0, none⟩), .pointer (some ⟨w.heap.size + 1 + 1, 0, none⟩), .int .i64 (k : Int), undef, undef, undef, .pointer (some ⟨g, 0, none⟩), .pointer (some ⟨g, 0, none⟩), .pointer (some ⟨g, 3, none⟩), .int .i64 (s.n : Int), .func (.func 55) #[] #[.pointer (some ⟨G1, 0, none⟩), .pointer (some ⟨G2, 0, none⟩)], .int .i64 (k : Int), undef, undef, undef, undef, undef, undef, undef, undef, undef, undef, undef, undef, undef, undef, undef, undef, undef, undef, undef, undef, undef, undef, undef, undef, undef], defers := [] }) ?assign ?body ?done
  case assign =>
    intro l k V K hK
    gi_wp2
    exact hK
  case body =>
    intro l k V hk hs hI
    obtain ⟨_, v, hv⟩ := hI
    obtain ⟨b1, b2, b3, BW, sW, ht, h, hb, hgF, hf, hok, hn0⟩ := HH.out
    obtain ⟨p1, _, _, tV⟩ := HST.out V hv.fr
    have y0 := p1.cell (k := 0) rfl
    have zl := stLook_any D V b F T g _ k tV hv.at_ hv.st (by show s.at_ < 1024; have := hf.far; omega) (by have := hf.n64; omega)
    unfold LkPost at zl
    obtain ⟨N, hN⟩ : ∃ N, N = St.bN T s.at_ (k : Int) := ⟨_, rfl⟩
    obtain ⟨bs, hbs⟩ : ∃ l, l = St.bB T s.at_ (k : Int) := ⟨_, rfl⟩
    obtain ⟨X, hX⟩ : ∃ X, X = St.bE T s.at_ (k : Int) := ⟨_, rfl⟩
    have hXc := hok k hk
    have hNl := hn0 k hk
    rw [← hX] at hXc
    rw [← hN] at hNl
    have zl : Calls Tryd.prog 29 #[.pointer (some ⟨g, 0, none⟩), .int .i64 (k : Int)] V fun en w' => ∃ A c, en = .returned (.tuple #[.int .i64 (N : Int), .slice A bs.length c, .int .i64 X]) ∧ c ≤ 9223372036854775807 ∧ Whole w' V.heap.size A c bs ∧ Below V.heap.size V w' := by rw [hN, hbs, hX]; exact zl
    obtain ⟨a, ha⟩ : ∃ a, a = St.top T s.at_ s.num k := ⟨_, rfl⟩
    rw [← ha] at hv
    have HV := Lib.hid hv
    have HX := Lib.hid (And.intro hX (And.intro hN (And.intro hXc (And.intro hNl ha))))
    clear b1 b2 b3 BW sW ht h hb hgF hf hok hn0 p1 tV hv hN hbs hX ha hNl
    gi_wp2_with (first
      | (refine ⟨trivial, ?_⟩; gi_at_call 29; refine (CallsIn.inRound l (callsIn_wide.2 zl)).mono ?_; (rintro e V1 ⟨A1, c1, rfl, hc1, o1, B1⟩)))
    have mixed : Tryd.prog.follows .mixedOrders = true := by kernel_rfl
    have x0 := ((HST.out V HV.out.fr).1.step B1).cell (k := 0) rfl
    have x4 := (st_rd (HV.out.st.step B1)).2.2.2.2.1
    have f4 := (HV.out.st.step B1).frozen 4
    have HB1 := Lib.hid B1
    have HX2 : Hid (SvI At b g (w.heap.size + 1) (w.heap.size + 1 + 1) F T w4 { s with num := St.top T s.at_ s.num (k + 1) } (St.bads T s.at_ k) v (V1.setCell ⟨g, 4, none⟩ (.int .i64 (max (a : Int) (N : Int)))).drew ∧ Frame (SvX g (w.heap.size + 1) (w.heap.size + 1 + 1) w4.heap.size) V (V1.setCell ⟨g, 4, none⟩ (.int .i64 (max (a : Int) (N : Int)))).drew) := Lib.hid <| by
      obtain ⟨hX, hN, _, _, ha⟩ := HX.out
      have hlt := HLT.out
      have hgl := HG.out
      have := sv_num D HV.out (fun k hk => by have := HF.out k hk; omega) HH.out.2.2.2.2.2.2.2.2.1 (by omega) (by omega) (by omega) B1 (max a N) (max (a : Int) (N : Int)) (by omega)
      rw [show St.top T s.at_ s.num (k + 1) = max a N by rw [ha, hN]; rfl]
      exact this
    clear B1 o1 zl y0
    gi_cut [] from 23 (fun wx => wx = (V1.setCell ⟨g, 4, none⟩ (.int .i64 (max (a : Int) (N : Int)))).drew)
    case first =>
      gi_region_o
      all_goals (gi_wp2; gi_meet; exact rfl)
    case rest =>
      have hsz := HX2.out
      rw [← hcut] at hsz
      obtain ⟨m1, f1⟩ := hsz
      have hlt := HLT.out
      have hgl := HG.out
      have y4 := m1.var.cell (k := 0) rfl
      have z4 := m1.var.frozen 0
      have y5 := m1.err.cell (k := 0) rfl
      have z5 := m1.err.frozen 0
      have hFE : ¬ F (w.heap.size + 1 + 1) := fun x => by have := HF.out _ x; omega
      have hFB : ¬ F (w.heap.size + 1) := fun x => by have := HF.out _ x; omega
      have hl := bads_len T s.at_ k
      have hk64 : k < 64 := by have := HH.out.2.2.2.2.2.2.2.2.2.1.n64; omega
      obtain ⟨hX, hN, hXc, _, ha⟩ := HX.out
      have HM := Lib.hid (And.intro m1 f1)
      have HK := Lib.hid (And.intro hk (And.intro hs hX))
      rcases hXc with hXc | hXc
      · subst hXc
        have hfin : Hid (∀ a : Act, RndPost w4.heap.size (fun x V => x = 0 ∧ ∃ v, SvI At b g (w.heap.size + 1) (w.heap.size + 1 + 1) F T w4 { s with num := St.top T s.at_ s.num (k + 1) } (St.bads T s.at_ (k + 1)) v V) V .normal a (wc.setCell ⟨w.heap.size + 1 + 1, 0, none⟩ (.int .i64 0))) := Lib.hid fun a => by
          obtain ⟨m2, f2⟩ := sv_ok D m1 f1 hFE (by omega) (by omega) (by omega)
          exact sv_round a m2 f2 hs (by omega) (by omega) (by omega) ((if_pos hX.symm : (if St.bE T s.at_ (k : Int) = 0 then St.bads T s.at_ k else St.bads T s.at_ k ++ [(k : Int)]) = St.bads T s.at_ k).symm) rfl
        clear m1 f1 hX hN ha hl hk64 hFE hFB hlt hgl hcut hk hs
        gi_wp2
        exact hfin.out _
      · subst hXc
        have hmax : (iv (St.bads T s.at_ k)).length + [Value.int .i64 (k : Int)].length ≤ maxLen := by rw [iv_length]; unfold maxLen; simp; omega
        have hsz : ((iv (St.bads T s.at_ k)).length + [Value.int .i64 (k : Int)].length) * 8 ≤ 140737488355328 := by rw [iv_length]; simp; omega
        have hrow : RowAt (wc.alloc (.cells #[.int .i64 (k : Int)] 3)) (wc.alloc (.cells #[.int .i64 (k : Int)] 3)).heap.size (some ⟨wc.heap.size, 0, none⟩) [.int .i64 (k : Int)] := (BlkR.new wc [.int .i64 (k : Int)] 3).row ⟨[], by simp⟩ (by simp)
        have hbase : w4.heap.size + 2 ≤ (wc.alloc (.cells #[.int .i64 (k : Int)] 3)).heap.size := by have := m1.far; simp; omega
        have hown := m1.own.alloc (.cells #[.int .i64 (k : Int)] 3)
        have HA := Lib.hid (And.intro hmax (And.intro hsz (And.intro hrow (And.intro hbase hown))))
        have hfin : Hid (∀ (a : Act) (v' : Value) w', OwnR 3 w' (w4.heap.size + 2) v' (iv (St.bads T s.at_ k) ++ [.int .i64 (k : Int)]) → (wc.alloc (.cells #[.int .i64 (k : Int)] 3)).grownBy w' v.ownBlock → BlkR 42 w' (w.heap.size + 1) [v] ∧ RndPost w4.heap.size (fun x V => x = 0 ∧ ∃ v, SvI At b g (w.heap.size + 1) (w.heap.size + 1 + 1) F T w4 { s with num := St.top T s.at_ s.num (k + 1) } (St.bads T s.at_ (k + 1)) v V) V .normal a (w'.setCell ⟨w.heap.size + 1, 0, none⟩ v')) := Lib.hid fun a v' w' ho hg' => by
          obtain ⟨r1, m2, f2⟩ := sv_append D m1 f1 (fun k hk => by have := HF.out k hk; omega) hFB (by omega) (by omega) (by omega) (by omega) (by omega) _ ho hg'
          exact ⟨r1, sv_round a m2 f2 hs (by omega) (by omega) (by omega) (by conv => rhs; unfold St.bads; rw [if_neg (by rw [← hX]; decide)]) rfl⟩
        clear m1 f1 hX hN ha hl hk64 hFE hFB hlt hgl hcut hk hs hmax hsz hrow hbase hown
        gi_wp2_with (gi_at_builtin; refine wpListIn_appendR rfl (.tmp 34) (.tmp 36) elI rfl (w4.heap.size + 2) v (iv (St.bads T s.at_ k)) rfl HA.out.2.2.2.2 (some ⟨wc.heap.size, 0, none⟩) [.int .i64 (k : Int)] 1 1 _ rfl rfl HA.out.2.2.1 (by intro u hu; rw [List.mem_singleton.1 hu]; rfl) HA.out.1 HA.out.2.1 HA.out.2.2.2.1 ?_; (intro v' w' ho hg' _; obtain ⟨A', c', rfl, _, _⟩ := ho.form; have r1 := (hfin.out { tmps := #[], defers := [] } _ w' ho hg').1; have r2 := fun a => (hfin.out a _ w' ho hg').2; have q0 := r1.cell (k := 0) rfl; have q1 := r1.frozen 0; have r2 := Lib.hid r2; have ho := Lib.hid ho))
        rw [show (iv (St.bads T s.at_ k)).length + 1 = (iv (St.bads T s.at_ k) ++ [Value.int .i64 (k : Int)]).length by simp]
        exact r2.out _
  case done =>
    intro k x V hk hx hI hD
    obtain ⟨rfl, v, hv⟩ := hI
    rcases hx with rfl | hx
    · have y0 := hv.var.cell (k := 0) rfl
      have y1 := hv.err.cell (k := 0) rfl
      have BW4 := step_trans HH.out.2.2.2.1 HB4.out
      have hfin : Hid (∀ (nq : Nat) (o : Obj), SvPost At b g F T s w (.returned (.tuple #[v, .int .i64 0])) ((V.drewN nq).putObj w4.heap.size o)) := Lib.hid fun nq o => sv_fin D hv BW4 HLT.out HF.out HG.out nq o
      have HD := Lib.hid hD
      clear hv hD hk BW4
      go_wp2
      go_quiet (fail)
      go_wp2
      refine ⟨by simp, .inl ⟨_, _, rfl, run_takeDeferred HD.out, ?_⟩⟩
      refine ⟨_, results_tmp2 Tryd.results32 _ _ _, ?_⟩
      exact hfin.out _ _
    · exact absurd rfl hx
end
end Go.Proofs.YtlchpolheciadaaDoor
/-
  The program's mend. Conditions: a disk's methods do what the document says; at most so many changes; the table of crc lies as the program's text lays it, beside the disk.
-/
namespace Go.Proofs.YtlchpolheciadaaDoor
open Go.RowKit Fix

theorem last_may {S : DS} {i : Int} (h : Jn.lastE S i = 0) : S.readE i = 0 ∧ Jn.may (Jn.lastV S i) = true := by
  by_cases hr : S.readE i = 0
  · obtain ⟨h1, h2⟩ := Jn.last_in hr
    rw [h1] at h
    by_cases hx : Jn.right (S.readB i) = true
    · refine ⟨hr, ?_⟩
      rw [h2, Jn.readV_yes hx]
      exact ((Jn.right_iff _).1 hx).2.1
    · rw [if_neg hx] at h
      cases h
  · unfold Jn.lastE at h
    rw [if_neg hr] at h
    exact absurd h hr
theorem bad_num {S : DS} {p i : Int} (h : St.bE S p i ≠ 0) : St.bN S p i = 0 := by
  by_cases hr : S.readE (p + 1 + i) = 0
  · obtain ⟨h1, h2, _⟩ := St.bE_in hr
    rw [h1] at h
    rw [h2]
    unfold Blk.readN
    rw [if_neg (fun x => h ((Blk.readE_zero _ _).2 x))]
  · exact (St.bE_out hr).2.1
theorem heals_iff {S : DS} {p : Int} {m : Nat} : St.heals S p m = true ↔ Jn.lastE S p = 0 ∧ (Jn.lastV S p).b < (m : Int) ∧ (St.bN S p (Jn.lastV S p).b : Int) < (Jn.lastV S p).n := by
  unfold St.heals
  rw [Bool.and_eq_true, Bool.and_eq_true, Bool.or_eq_true, decide_eq_true_iff, decide_eq_true_iff, decide_eq_true_iff, decide_eq_true_iff]
  constructor
  · rintro ⟨⟨h1, h2⟩, h3⟩
    refine ⟨h1, h2, ?_⟩
    rcases h3 with h3 | h3
    · rw [bad_num h3]
      obtain ⟨a, n, e, _, hn, _⟩ := Jn.may_nat (last_may h1).2
      rw [e]
      show ((0 : Nat) : Int) < (n : Int)
      omega
    · exact h3
  · rintro ⟨h1, h2, h3⟩
    exact ⟨⟨h1, h2⟩, .inr h3⟩
theorem mended_no {S : DS} {p : Int} {m : Nat} (h : ¬ (Jn.lastE S p = 0 ∧ (Jn.lastV S p).b < (m : Int) ∧ (St.bN S p (Jn.lastV S p).b : Int) < (Jn.lastV S p).n)) : St.mended S p m = (S, 0) := by
  unfold St.mended
  rw [if_neg fun x => h (heals_iff.1 x)]
theorem mended_yes {S : DS} {p : Int} {m : Nat} (h : Jn.lastE S p = 0 ∧ (Jn.lastV S p).b < (m : Int) ∧ (St.bN S p (Jn.lastV S p).b : Int) < (Jn.lastV S p).n) : St.mended S p m = St.lay S p (Jn.lastV S p) := by
  unfold St.mended
  rw [if_pos (heals_iff.2 h)]
/-- what lies behind the entry's being read: a variable of its own -/
def LaPost (V : Ent) (E : Int) (w : World) (p g : Value) (wx : World) : Prop :=
  ∃ B A c, p = .pointer (some ⟨B, 0, none⟩) ∧ g = .int .i64 E ∧ w.heap.size ≤ B ∧ BlkR 79 wx B (entL V A c) ∧ BytesAt wx wx.heap.size A V.d ∧ (∀ ad, A = some ad → V.d ≠ [] → w.heap.size ≤ ad.block) ∧ Below w.heap.size w wx
/-- a world in which the number is told -/
structure MnAt (At : World → Nat → (Nat → Prop) → DS → Prop) (b g : Nat) (F : Nat → Prop) (S : DS) (s : StM) (B : Nat) (V : Ent) (A : Option Addr) (c : Nat) (w wx : World) : Prop where
  tab : TabAt wx
  at_ : At wx b F S
  st : BlkR 27 wx g (stL g b s)
  en : BlkR 79 wx B (entL V A c)
  dat : BytesAt wx wx.heap.size A V.d
  fr : Frame (fun k => F k ∨ k = g) w wx
/-- what mend promises -/
def MdPost (At : World → Nat → (Nat → Prop) → DS → Prop) (b g : Nat) (F : Nat → Prop) (R : DS × Int) (s' : StM) (w : World) (en : Ending) (w' : World) : Prop :=
  ∃ F', en = .returned (.int .i64 R.2) ∧ At w' b F' R.1 ∧ (∀ k, F' k → F k ∨ w.heap.size ≤ k) ∧ Frame (fun k => F k ∨ k = g) w w' ∧ BlkR 27 w' g (stL g b s')
section
variable {At : World → Nat → (Nat → Prop) → DS → Prop} (D : Disks Tryd.prog At)
include D
theorem MnAt.step {b g : Nat} {F : Nat → Prop} {S : DS} {s : StM} {B : Nat} {V : Ent} {A : Option Addr} {c : Nat} {w wx wy : World} (h : MnAt At b g F S s B V A c w wx) (hb : Below wx.heap.size wx wy) : MnAt At b g F S s B V A c w wy :=
  ⟨h.tab.below hb (Nat.le_refl _), At_step D h.at_ hb, h.st.step hb, h.en.step hb, h.dat.step hb, h.fr.trans (Frame.of_below (F := fun _ => False) hb) fun _ x => x.elim⟩
set_option maxRecDepth 100000 in
set_option maxHeartbeats 2000000 in
theorem stMend_any (w : World) (b g : Nat) (F : Nat → Prop) (S : DS) (s : StM) (ht : TabAt w) (h : At w b F S) (hb : BlkR 27 w g (stL g b s)) (hgF : ¬ F g) (hf : StFit s) (hn : s.num = 0) (ho : S.ops ≤ 900000) :
    Calls Tryd.prog 31 #[.pointer (some ⟨g, 0, none⟩)] w (MdPost At b g F (St.mended S s.at_ s.n) { s with num := St.begin_ S s.at_ } w) := by
  obtain ⟨x0, x1, x2, x3, x4, x5⟩ := st_rd hb
  have KX : Hid (∀ w', Below w.heap.size w w' → w'.cell? ⟨g, 1, none⟩ = some (.pointer (some ⟨b, 0, none⟩)) ∧ w'.cell? ⟨g, 2, none⟩ = some (.int .i64 (s.at_ : Int))) := Lib.hid fun w' B => by
    obtain ⟨_, y1, y2, _⟩ := st_rd (hb.step B)
    exact ⟨y1, y2⟩
  have zl : Hid (∀ w', Below w.heap.size w w' → _) := Lib.hid fun w' B => journalLast_any D w' b F S (s.at_ : Int) (ht.below B (Nat.le_refl _)) (At_step D h B)
  obtain ⟨V, hV⟩ : ∃ V, V = Jn.lastV S s.at_ := ⟨_, rfl⟩
  obtain ⟨E, hE⟩ : ∃ E, E = Jn.lastE S s.at_ := ⟨_, rfl⟩
  replace zl := zl.out
  unfold JlPost at zl
  rw [← hV, ← hE] at zl
  unfold entL at zl
  obtain ⟨R, hR⟩ : ∃ R, R = St.mended S s.at_ s.n := ⟨_, rfl⟩
  obtain ⟨N, hN⟩ : ∃ N, N = St.begin_ S s.at_ := ⟨_, rfl⟩
  rw [← hR, ← hN]
  have HVE := Lib.hid (And.intro hV (And.intro hE (And.intro hR hN)))
  have HH := Lib.hid (And.intro ht (And.intro h (And.intro hb (And.intro hgF (And.intro hf (And.intro hn ho))))))
  unfold MdPost
  clear hV hE ht h hb hgF hf hn ho hR hN
  have Bd := (Below.refl w.heap.size w).drew
  have Ba := step_alloc Bd (.cells #[.int .i64 0, .int .i64 0, .slice none 0 0] 79)
  go_enter Tryd.func31, Tryd.ntmps31
  go_upto_region 1 with fail
  go_cut [3, 4] from 8 to 19 (fun p g wx => LaPost V E w p g wx)
  case first =>
    go_region_held3 (fun w' => w'.cell? ⟨g, 1, none⟩ = some (.pointer (some ⟨b, 0, none⟩)) ∧ w'.cell? ⟨g, 2, none⟩ = some (.int .i64 (s.at_ : Int))) (first | assumption | exact ⟨x1, x2⟩ | exact KX.out _ (by assumption) | exact KX.out _ Bd | exact KX.out _ Ba | exact KX.out _ C1 | exact KX.out _ (step_alloc C1 _) | exact KX.out _ (((C1.setCell (p := ⟨_, 0, none⟩) hB _).setCell (p := ⟨_, 1, none⟩) hB _).setCell (p := ⟨_, 2, none⟩) hB _)) (first
      | (go_at_call 50; first
        | (refine (zl w.drew Bd).mono ?_; (rintro e w1 ⟨A, c, rfl, hc, o1, B1⟩; have C1 := step_trans Bd B1; have bx := BlkR.new w1 entZ 79; have s0 := bx.cell (k := 0) rfl; have s1 := bx.cell (k := 1) rfl; have s2 := bx.cell (k := 2) rfl; have f0 := bx.frozen 0; have f1 := bx.frozen 1; have f2 := bx.frozen 2; have bx := Lib.hid bx))
        | (refine (zl (w.drew.alloc (.cells #[.int .i64 0, .int .i64 0, .slice none 0 0] 79)) Ba).mono ?_; (rintro e w1 ⟨A, c, rfl, hc, o1, B1⟩; have C1 := step_trans Ba B1; have bx : BlkR 79 w1 w.heap.size entZ := (BlkR.new w.drew entZ 79).step B1; have s0 := bx.cell (k := 0) rfl; have s1 := bx.cell (k := 1) rfl; have s2 := bx.cell (k := 2) rfl; have f0 := bx.frozen 0; have f1 := bx.frozen 1; have f2 := bx.frozen 2; have bx := Lib.hid bx; have hB : w.heap.size ≤ w.heap.size := Nat.le_refl _))))
    all_goals (go_wp2_with fail; go_meet)
    · exact ⟨_, A, c, rfl, rfl, C1.size, BlkR.new w1 (entL V A c) _, o1.bytes.step (step_alloc (Below.refl _ _) _), fun ad e hl => o1.new ad e hl, step_alloc C1 _⟩
    · have fr : Frame (fun k => k = w.heap.size) w1 (((w1.setCell ⟨w.heap.size, 0, none⟩ (.int .i64 V.b)).setCell ⟨w.heap.size, 1, none⟩ (.int .i64 V.n)).setCell ⟨w.heap.size, 2, none⟩ (.slice A V.d.length c)) := (((Frame.refl (fun k => k = w.heap.size) w1).setAt ⟨w.heap.size, 0, none⟩ (.int .i64 V.b) rfl).setAt ⟨w.heap.size, 1, none⟩ (.int .i64 V.n) rfl).setAt ⟨w.heap.size, 2, none⟩ (.slice A V.d.length c) rfl
      exact ⟨_, A, c, rfl, rfl, hB, ((bx.out.set_ 0 _).set_ 1 _).set_ 2 _, fun hl => fr.bytes o1.bytes (fun ad e x => by have h1 := o1.new ad e hl; rw [World.size_alloc] at h1; change w.heap.size + 1 ≤ _ at h1; change ad.block = w.heap.size at x; omega) hl, fun ad e hl => (by have h1 := o1.new ad e hl; rw [World.size_alloc] at h1; change w.heap.size + 1 ≤ _ at h1; omega), ((C1.setCell (p := ⟨_, 0, none⟩) hB _).setCell (p := ⟨_, 1, none⟩) hB _).setCell (p := ⟨_, 2, none⟩) hB _⟩
  case rest =>
    obtain ⟨B, A, c, rfl, rfl, hB, be, ha, hna, BC⟩ := hcut
    obtain ⟨ht, h, hb, hgF, hf, hn, ho⟩ := HH.out
    have hgl := hb.lt
    have hgt := st_notab ht hb
    clear x0 x1 x2 x3 x4 x5 zl Bd Ba KX
    have bg := hb.step BC
    obtain ⟨x0, x1, x2, x3, x4, x5⟩ := st_rd bg
    have z4 := bg.frozen 4
    obtain ⟨e0, e1, e2⟩ := ent_cells be
    by_cases hE0 : E = 0
    · subst hE0
      obtain ⟨hV, hE, hR, hN⟩ := HVE.out
      have hL : Jn.lastE S s.at_ = 0 := hE.symm
      obtain ⟨bn, m, hVe, hb64, hm1, hm2, hd32⟩ := Jn.may_nat (last_may hL).2
      rw [← hV] at hVe hd32
      have hNm : N = m := by
        rw [hN]
        unfold St.begin_
        rw [if_pos hL, ← hV, hVe]
        exact Int.toNat_natCast m
      have hVb : V.b = (bn : Int) := by rw [hVe]
      have hVn : V.n = (m : Int) := by rw [hVe]
      have hd2 : V.d = (⟨(bn : Int), (m : Int), V.d⟩ : Ent).d := rfl
      clear hVe
      have fr0 : Frame (fun k => k = g) wc (wc.setCell ⟨g, 4, none⟩ (.int .i64 (m : Int))) := (Frame.refl _ wc).setAt ⟨g, 4, none⟩ (.int .i64 (m : Int)) rfl
      have hBg : B ≠ g := by omega
      have hgB : g ≠ B := by omega
      have frw : Frame (fun k => F k ∨ k = g) w (wc.setCell ⟨g, 4, none⟩ (.int .i64 (m : Int))) := (Frame.of_below BC).trans fr0 fun k e => .inl (.inr e)
      have W1 := (ht.below BC (Nat.le_refl _)).frame fr0 hgt
      have W2 := at_beside D (At_step D h BC) fr0 hgF
      have W3 : BlkR 27 (wc.setCell ⟨g, 4, none⟩ (.int .i64 (m : Int))) g (stL g b { s with num := m }) := bg.set_ 4 (.int .i64 (m : Int))
      have W4 := be.frame fr0 hBg
      have W5 : BytesAt (wc.setCell ⟨g, 4, none⟩ (.int .i64 (m : Int))) (wc.setCell ⟨g, 4, none⟩ (.int .i64 (m : Int))).heap.size A V.d := fun hl => fr0.bytes ha (fun ad e x => by have h1 := hna ad e hl; change ad.block = g at x; omega) hl
      have HW : Hid (∀ nq, MnAt At b g F S { s with num := m } B V A c w ((wc.setCell ⟨g, 4, none⟩ (.int .i64 (m : Int))).drewN nq)) := Lib.hid fun nq =>
        ⟨W1, D.keep _ _ b F S W2 (Nat.le_refl _) fun _ _ => rfl, W3, W4, W5, ⟨frw.os, frw.tape, frw.output, frw.size, frw.block⟩⟩
      clear W1 W2 W3 W4 W5
      have HF := Lib.hid (And.intro hf (And.intro ho (And.intro hb64 (And.intro hm1 (And.intro hd32 (And.intro hVb hVn))))))
      rw [hVb] at e0
      rw [hVn] at e1
      have HL := Lib.hid (And.intro hL (And.intro hR (And.intro hV (And.intro hNm hN))))
      by_cases hbn : (s.n : Int) ≤ (bn : Int)
      · have hlt : ¬ (bn : Int) < (s.n : Int) := by omega
        have HLT := Lib.hid hlt
        clear ht h hb hgF hf hn ho bg hV hE hR hN hL hb64 hm1 hm2 hd32 hNm hVb hVn hd2 fr0 frw ha hna be BC
        go_wp2
        go_quiet (fail)
        go_wp2
        go_ret
        have M := HW.out nq
        obtain ⟨hL, hR, hV, hNm, hN⟩ := HL.out
        obtain ⟨hf, ho, hb64, hm1, hd32, hVb, hVn⟩ := HF.out
        rw [hR, mended_no fun x => (by have h2 := x.2.1; rw [← hV, hVb] at h2; have := HLT.out; omega), hNm]
        exact ⟨F, rfl, M.at_, fun k hk => .inl hk, M.fr, M.st⟩
      · have hlt : (bn : Int) < (s.n : Int) := by omega
        obtain ⟨X, hX⟩ : ∃ X, X = St.bE S s.at_ (bn : Int) := ⟨_, rfl⟩
        obtain ⟨bs, hbs⟩ : ∃ bs, bs = St.bB S s.at_ (bn : Int) := ⟨_, rfl⟩
        obtain ⟨M, hM⟩ : ∃ M, M = St.bN S s.at_ (bn : Int) := ⟨_, rfl⟩
        have zk : ∀ nq, Calls Tryd.prog 29 #[.pointer (some ⟨g, 0, none⟩), .int .i64 (bn : Int)] ((wc.setCell ⟨g, 4, none⟩ (.int .i64 (m : Int))).drewN nq) (LkPost X M bs ((wc.setCell ⟨g, 4, none⟩ (.int .i64 (m : Int))).drewN nq)) := fun nq => by
          have K := HW.out nq
          rw [hX, hM, hbs]
          exact stLook_any D _ b F S g { s with num := m } bn K.tab K.at_ K.st (by show s.at_ < 1024; have := hf.far; omega) hb64
        unfold LkPost at zk
        have HM := Lib.hid hM
        have hn1 : ¬ (s.n : Int) ≤ (bn : Int) := hbn
        by_cases hnm : (m : Int) ≤ (M : Int)
        · clear ht h hb hgF hf hn ho bg hV hE hR hN hL hb64 hm1 hm2 hd32 hNm hVb hVn hd2 fr0 frw ha hna be BC hbs hM hX
          go_wp2
          go_quiet (fail)
          go_wp2_with (go_at_call 29; refine (zk nq).mono ?_; (rintro e w3 ⟨A3, c3, rfl, _, _, B3⟩; have K3 := (HW.out nq).step D B3; have q1 := (ent_cells K3.en).2.1; rw [HF.out.2.2.2.2.2.2] at q1; have K3 := Lib.hid K3))
          go_ret
          have K := K3.out
          obtain ⟨hL, hR, hV, hNm, hN⟩ := HL.out
          obtain ⟨hf, ho, hb64, hm1, hd32, hVb, hVn⟩ := HF.out
          rw [hR, mended_no fun x => by
            have h3 := x.2.2
            rw [← hV, hVb, hVn, ← HM.out] at h3
            omega, hNm]
          exact ⟨F, rfl, K.at_, fun k hk => .inl hk, K.fr, K.st⟩
        · obtain ⟨q, hq⟩ : ∃ q, q = (s.at_ : Int) + 1 + (bn : Int) := ⟨_, rfl⟩
          have zs := fun w => sectorOf_any s.at_ bn w (by have := hf.far; omega) (by omega)
          rw [← hq] at zs
          obtain ⟨T, hT⟩ : ∃ T, T = Slot.put1 S q (Blk.bytesB V.b V.n V.d) := ⟨_, rfl⟩
          have zy : ∀ wz, MnAt At b g F S { s with num := m } B V A c w wz → _ := fun wz K => stLay_any D wz b F S q V A c K.tab K.at_ (by omega) K.dat
          rw [← hT] at zy
          unfold entL ChgPost at zy
          rw [hVb, hVn] at zy
          obtain ⟨dl, hdl⟩ : ∃ dl, dl = V.d.length := ⟨_, rfl⟩
          rw [← hdl] at zy e2
          have HBF : Hid (¬ F B ∧ ¬ F g) := Lib.hid ⟨fun x => by have := D.lt w b F S h B x; omega, hgF⟩
          have KX : Hid (∀ wz, BlkR 27 wz g (stL g b { s with num := m }) → BlkR 79 wz B (entL V A c) → wz.cell? ⟨g, 1, none⟩ = some (.pointer (some ⟨b, 0, none⟩)) ∧ wz.cell? ⟨g, 2, none⟩ = some (.int .i64 (s.at_ : Int)) ∧ wz.cell? ⟨B, 0, none⟩ = some (.int .i64 (bn : Int)) ∧ wz.cell? ⟨B, 1, none⟩ = some (.int .i64 (m : Int)) ∧ wz.cell? ⟨B, 2, none⟩ = some (.slice A dl c)) := Lib.hid fun wz K1 K2 => by
            obtain ⟨_, y1, y2, _⟩ := st_rd K1
            obtain ⟨u0, u1, u2⟩ := ent_cells K2
            rw [hVb] at u0
            rw [hVn] at u1
            rw [← hdl] at u2
            exact ⟨y1, y2, u0, u1, u2⟩
          have HT := Lib.hid (And.intro hq hT)
          clear ht h hb hgF hf hn ho bg hV hE hR hN hL hb64 hm1 hm2 hd32 hNm hVb hVn hd2 fr0 frw ha hna be BC hbs hM hX hq hT hdl
          go_wp2
          go_quiet (fail)
          go_wp2_with (go_at_call 29; refine (zk nq).mono ?_; (rintro e w3 ⟨A3, c3, rfl, _, _, B3⟩; have K3 := (HW.out nq).step D B3; have K4 := K3.step D (Below.refl w3.heap.size w3).drew; obtain ⟨v1, v2, v3, v4, v5⟩ := KX.out w3 K3.st K3.en; have K3 := Lib.hid K3; have K4 := Lib.hid K4))
          go_region_held3 (fun w' => w'.cell? ⟨g, 1, none⟩ = some (.pointer (some ⟨b, 0, none⟩)) ∧ w'.cell? ⟨g, 2, none⟩ = some (.int .i64 (s.at_ : Int)) ∧ w'.cell? ⟨B, 0, none⟩ = some (.int .i64 (bn : Int)) ∧ w'.cell? ⟨B, 1, none⟩ = some (.int .i64 (m : Int)) ∧ w'.cell? ⟨B, 2, none⟩ = some (.slice A dl c)) (first | assumption | exact KX.out _ K3.out.st K3.out.en | exact KX.out _ K4.out.st K4.out.en | exact J4) (first
            | (go_at_call 38; refine (zs _).mono ?_; (rintro e w' ⟨rfl, rfl⟩))
            | (go_at_call 51; refine (zy w3.drew K4.out).mono ?_; (rintro e w4 ⟨F4, rfl, h4, hF4, fr4⟩; have J4 := KX.out w4 (K4.out.st.frame fr4 HBF.out.2) (K4.out.en.frame fr4 HBF.out.1))))
          go_wp2
          go_ret
          have K := K4.out
          obtain ⟨hL, hR, hV, hNm, hN⟩ := HL.out
          obtain ⟨hf, ho, hb64, hm1, hd32, hVb, hVn⟩ := HF.out
          have hRT : R = T := by
            rw [hR, mended_yes ⟨hL, by rw [← hV, hVb]; exact hlt, by rw [← hV, hVb, hVn, ← HM.out]; omega⟩, HT.out.2, HT.out.1, ← hV]
            unfold St.lay
            rw [hVb]
          rw [hRT, hNm]
          exact ⟨F4, rfl, h4, fun k hk => (hF4 k hk).imp id fun y => Nat.le_trans K.fr.size y, K.fr.trans fr4 fun k hk => .inl (.inl hk), K.st.frame fr4 HH.out.2.2.2.1⟩
    · have hne : (E != 0) = true := by simpa using hE0
      have hfin : Hid (MdPost At b g F R { s with num := N } w (.returned (.int .i64 0)) wc) := Lib.hid <| by
        obtain ⟨hV, hE, hR, hN⟩ := HVE.out
        have hL : ¬ Jn.lastE S s.at_ = 0 := hE ▸ hE0
        rw [hR, mended_no fun x => hL x.1, hN, show St.begin_ S s.at_ = 0 by unfold St.begin_; rw [if_neg hL]]
        exact ⟨F, rfl, At_step D h BC, fun k hk => .inl hk, Frame.of_below BC, by rw [← hn]; exact bg⟩
      clear ht h hb hgF hf hn ho bg z4 hE0
      go_wp2
      go_ret
      exact hfin.out
end
end Go.Proofs.YtlchpolheciadaaDoor
/-
  What a disk that was opened reads: plain mathematics. Conditions: none.
-/
namespace Go.Proofs.YtlchpolheciadaaDoor
open Go.RowKit Fix

theorem flush_ok {S : DS} (h : S.flush.2 = 0) : S.flush.1.out = false ∧ S.flush.1.n = S.n := by
  unfold DS.flush at h ⊢
  split at h
  · cases h
  · rename_i ho
    rw [if_neg ho]
    have ho' : S.out = false := by simpa using ho
    unfold DS.chg at h ⊢
    rcases hl : S.left with _ | _ | k
    · exact ⟨ho', rfl⟩
    · rw [hl] at h; cases h
    · exact ⟨ho', rfl⟩
theorem write_n (S : DS) (i : Int) (b : List UInt8) : (S.write i b).1.n = S.n := by
  unfold DS.write DS.chg
  split
  · rfl
  · split
    · rfl
    · split
      · rfl
      · rcases hl : S.left with _ | _ | k <;> rfl
theorem flush_n (S : DS) : S.flush.1.n = S.n := by
  unfold DS.flush DS.chg
  split
  · rfl
  · rcases hl : S.left with _ | _ | k <;> rfl
theorem put1_ok {S : DS} {q : Int} {l : List UInt8} (h : (Slot.put1 S q l).2 = 0) : (Slot.put1 S q l).1.out = false ∧ (Slot.put1 S q l).1.n = S.n := by
  unfold Slot.put1 at h ⊢
  split at h
  · rename_i hw
    rw [if_pos hw]
    obtain ⟨h1, h2⟩ := flush_ok h
    exact ⟨h1, h2.trans (write_n S q l)⟩
  · rename_i hw
    exact absurd h hw
theorem mended_ok {S : DS} {p : Int} {m : Nat} (ho : S.out = false) (h : (St.mended S p m).2 = 0) : (St.mended S p m).1.out = false ∧ (St.mended S p m).1.n = S.n := by
  unfold St.mended at h ⊢
  split at h
  · rename_i hh
    rw [if_pos hh]
    exact put1_ok h
  · rename_i hh
    rw [if_neg hh]
    exact ⟨ho, rfl⟩
theorem mended_ops (S : DS) (p : Int) (m : Nat) : (St.mended S p m).1.ops ≤ S.ops + 2 := by
  unfold St.mended
  split
  · exact ops_put1 S _ _
  · exact Nat.le_add_right _ _
theorem mended_n (S : DS) (p : Int) (m : Nat) : (St.mended S p m).1.n = S.n := by
  unfold St.mended
  split
  · unfold St.lay Slot.put1
    split
    · rw [flush_n, write_n]
    · rw [write_n]
  · rfl
/-- each block of a store that lies on a disk is right, or bad -/
theorem bE_two {T : DS} (ok : T.Ok) (ho : T.out = false) {p i : Nat} (hi : p + 1 + i < T.n) : (St.bE T p (i : Int) = 0 ∨ St.bE T p (i : Int) = 11) ∧ St.bN T p (i : Int) ≤ 1099511627776 := by
  have hr : T.readE ((p : Int) + 1 + (i : Int)) = 0 := by
    have ht : T.there ((p : Int) + 1 + (i : Int)) = true := by rw [T.there_iff]; omega
    unfold DS.readE
    rw [if_neg (by rw [ho]; decide), if_neg (by rw [ht]; decide)]
  obtain ⟨h1, h2, _⟩ := St.bE_in hr
  have hl := DS.readB_length ok hr
  rw [h1, h2]
  by_cases hx : Blk.right (i : Int) (T.readB ((p : Int) + 1 + (i : Int))) = true
  · refine ⟨.inl ((Blk.readE_zero _ _).2 hx), ?_⟩
    obtain ⟨h3, _⟩ := Blk.sect_read (i : Int) _ ((Blk.readE_zero _ _).2 hx)
    have := (Blk.bytesE_zero _ _ _).1 h3
    omega
  · refine ⟨.inr (Blk.readE_bad hl (by simpa using hx)), ?_⟩
    unfold Blk.readN
    rw [if_neg hx]
    exact Nat.zero_le _
theorem bN_le (T : DS) (p i : Int) : St.bN T p i ≤ 1099511627776 := by
  unfold St.bN
  split
  · by_cases hx : Blk.right i (T.readB (p + 1 + i)) = true
    · obtain ⟨h3, _⟩ := Blk.sect_read i _ ((Blk.readE_zero _ _).2 hx)
      have := (Blk.bytesE_zero _ _ _).1 h3
      omega
    · unfold Blk.readN
      rw [if_neg hx]
      exact Nat.zero_le _
  · exact Nat.zero_le _
theorem begin_le (S : DS) (p : Int) : St.begin_ S p ≤ 1099511627776 := by
  unfold St.begin_
  split
  · rename_i h
    obtain ⟨a, n, e, _, _, hn, _⟩ := Jn.may_nat (last_may h).2
    rw [e]
    show (n : Int).toNat ≤ _
    omega
  · exact Nat.zero_le _
theorem top_le (T : DS) (p : Int) (a : Nat) (ha : a ≤ 1099511627776) : ∀ k : Nat, (∀ i, i < k → St.bN T p (i : Int) ≤ 1099511627776) → St.top T p a k ≤ 1099511627776
  | 0, _ => ha
  | k + 1, h => by
    unfold St.top
    exact Nat.max_le.2 ⟨top_le T p a ha k fun i hi => h i (by omega), h k (by omega)⟩
end Go.Proofs.YtlchpolheciadaaDoor
/-
  The program's Open; what the program's calls do, gathered. Conditions: at most so many changes; the table of crc lies as the program's text lays it.
-/
namespace Go.Proofs.YtlchpolheciadaaDoor
open Go.RowKit Fix

section
variable {At : World → Nat → (Nat → Prop) → DS → Prop} (D : Disks Tryd.prog At) (TI : Tight At)
include D TI
omit TI in
set_option maxRecDepth 100000 in
set_option maxHeartbeats 2000000 in
theorem stOpen_no (w : World) (b : Nat) (F : Nat → Prop) (S : DS) (p m : Int) (h : At w b F S) (hr : St.room S p m ≠ 0) : Calls Tryd.prog 10 #[.pointer (some ⟨b, 0, none⟩), .int .i64 p, .int .i64 m] w (StOpened At StAt b F S p m w) := by
  have zr := stRoom_any D w b F S p m h
  obtain ⟨x, hx⟩ : ∃ x, x = St.room S p m := ⟨_, rfl⟩
  have hE : St.openE S p m = x := by unfold St.openE; rw [if_neg hr, hx]
  have hS : St.openS S p m = S := by unfold St.openS; rw [if_neg hr]
  rw [← hx] at zr hr
  have hne : (x != 0) = true := by simpa using hr
  have HH := Lib.hid (And.intro hE (And.intro hS (And.intro hr h)))
  clear hE hS hr hx h
  go_enter Tryd.func10, Tryd.ntmps10
  go_wp2_with (go_at_call 30; refine zr.mono ?_; (rintro e w1 ⟨rfl, B1⟩))
  go_ret3
  obtain ⟨hE, hS, hr, h⟩ := HH.out
  unfold StOpened
  rw [hE, hS]
  exact ⟨fun x => absurd x hr, fun _ => ⟨F, rfl, At_step D h B1, fun k hk => .inl hk, Frame.of_below B1⟩⟩
omit TI in
set_option maxRecDepth 100000 in
set_option maxHeartbeats 2000000 in
theorem stOpen_go (w : World) (b : Nat) (F : Nat → Prop) (S : DS) (p m : Nat) (ht : TabAt w) (h : At w b F S) (hT : ¬ F 0) (ho : S.ops ≤ 900000) (hr : St.room S p m = 0) : Calls Tryd.prog 10 #[.pointer (some ⟨b, 0, none⟩), .int .i64 (p : Int), .int .i64 (m : Int)] w (StOpened At StAt b F S p m w) := by
  have zr := stRoom_any D w b F S p m h
  rw [hr] at zr
  have zm : Hid (∀ w3 g, BlkR 27 w3 g (stL g b ⟨p, m, 0, false⟩) → Below w.heap.size w w3 → w.heap.size ≤ g → Calls Tryd.prog 31 #[.pointer (some ⟨g, 0, none⟩)] w3 (MdPost At b g F (St.mended S p m) ⟨p, m, St.begin_ S p, false⟩ w3)) := Lib.hid fun w3 g hb B hg => by
    obtain ⟨_, h1, h2, _, h4⟩ := room_zero hr
    have hn := (D.ok w b F S h).n2
    exact stMend_any D w3 b g F S ⟨p, m, 0, false⟩ (ht.below B (Nat.le_refl _)) (At_step D h B) hb (fun x => by have := D.lt w b F S h g x; omega) ⟨by show 1 ≤ m; omega, by show m ≤ 64; omega, by show p + m < 1024; omega, by show 0 ≤ _; omega⟩ rfl ho
  have hp0 : ((p : Int)).toNat = p := Int.toNat_natCast p
  have hm0 : ((m : Int)).toNat = m := Int.toNat_natCast m
  have hoE : St.openE S p m = (St.mended S p m).2 := by unfold St.openE; rw [if_pos hr, hm0]
  have hoS : St.openS S p m = (St.mended S p m).1 := by unfold St.openS; rw [if_pos hr, hm0]
  have hoO : St.opened S p m = ⟨p, m, St.top (St.mended S p m).1 p (St.begin_ S p) m, false⟩ := by unfold St.opened; rw [hoS, hp0, hm0]
  obtain ⟨hout, h1, h2, _, h4⟩ := room_zero hr
  have hn := (D.ok w b F S h).n2
  have hops := mended_ops S p m
  have hmok := fun e => mended_ok (p := p) (m := m) hout e
  have hlt := D.lt w b F S h
  have htl := tab_lt ht
  obtain ⟨R, hR⟩ : ∃ R, R = St.mended S p m := ⟨_, rfl⟩
  obtain ⟨N, hN⟩ : ∃ N, N = St.begin_ S p := ⟨_, rfl⟩
  have hNle : N ≤ 1099511627776 := hN ▸ begin_le S p
  rw [← hR] at hoE hoS hoO hmok hops
  rw [← hN] at hoO
  rw [← hR, ← hN] at zm
  unfold StOpened
  rw [hoE, hoS, hoO, hm0]
  have HB : Hid (∀ w1, Below w.heap.size w w1 → Below w.heap.size w (w1.alloc (.cells #[.pointer (some ⟨w1.heap.size, 0, none⟩), .pointer (some ⟨b, 0, none⟩), .int .i64 (p : Int), .int .i64 (m : Int), .int .i64 0, .bool false] 27)) ∧
      Calls Tryd.prog 31 #[.pointer (some ⟨w1.heap.size, 0, none⟩)] (w1.alloc (.cells #[.pointer (some ⟨w1.heap.size, 0, none⟩), .pointer (some ⟨b, 0, none⟩), .int .i64 (p : Int), .int .i64 (m : Int), .int .i64 0, .bool false] 27))
        (MdPost At b w1.heap.size F R ⟨p, m, N, false⟩ (w1.alloc (.cells #[.pointer (some ⟨w1.heap.size, 0, none⟩), .pointer (some ⟨b, 0, none⟩), .int .i64 (p : Int), .int .i64 (m : Int), .int .i64 0, .bool false] 27)))) := Lib.hid fun w1 B1 =>
    ⟨step_alloc B1 _, zm.out _ _ (BlkR.new w1 (stL w1.heap.size b ⟨p, m, 0, false⟩) _) (step_alloc B1 _) B1.size⟩
  unfold MdPost at HB
  have HH := Lib.hid (And.intro ht (And.intro h (And.intro hT (And.intro hmok (And.intro hops (And.intro hlt htl))))))
  have HK := Lib.hid (And.intro h1 (And.intro h2 (And.intro h4 (And.intro hn (And.intro hNle ho)))))
  clear ht h hT ho hr hmok hops hlt htl h1 h2 h4 hn hNle hoE hoS hoO hR hN hp0 hm0 hout zm
  by_cases hR0 : R.2 = 0
  · rw [hR0] at HB
    rw [hR0]
    obtain ⟨ht, h, hT, hmok, hops, hlt, htl⟩ := HH.out
    obtain ⟨h1, h2, h4, hn, hNle, ho⟩ := HK.out
    have HV : Hid (∀ w3 w4 F4 g, Below w.heap.size w w3 → w.heap.size ≤ g → At w4 b F4 R.1 → (∀ k, F4 k → F k ∨ w3.heap.size ≤ k) → Frame (fun k => F k ∨ k = g) w3 w4 → g < w3.heap.size → BlkR 27 w4 g (stL g b ⟨p, m, N, false⟩) →
        Calls Tryd.prog 32 #[.pointer (some ⟨g, 0, none⟩)] w4 (SvPost At b g F4 R.1 ⟨p, m, N, false⟩ w4)) := Lib.hid fun w3 w4 F4 g B3 hg a4 o4 fr4 hg3 b4 => by
      obtain ⟨ho1, hn1⟩ := hmok hR0
      have hok := D.ok w4 b F4 R.1 a4
      have two := fun i (hi : i < m) => bE_two hok ho1 (p := p) (i := i) (by omega)
      exact stSurvey_any D w4 b g F4 R.1 ⟨p, m, N, false⟩ ((ht.below B3 (Nat.le_refl _)).frame fr4 (fun x => x.elim hT fun e => by omega)) a4 b4 (fun x => (o4 g x).elim (fun y => by have := hlt g y; omega) fun y => by omega)
        ⟨by show 1 ≤ m; omega, by show m ≤ 64; omega, by show p + m < 1024; omega, hNle⟩ (fun i hi => (two i hi).1) fun i hi => (two i hi).2
    unfold SvPost at HV
    have HF : Hid (StFit ⟨p, m, St.top R.1 p N m, false⟩) := Lib.hid ⟨by show 1 ≤ m; omega, by show m ≤ 64; omega, by show p + m < 1024; omega, top_le R.1 p N hNle m fun i _ => bN_le R.1 p i⟩
    clear ht h hT hmok hops hlt htl h1 h2 h4 hn hNle ho
    obtain ⟨bl, hbl⟩ : ∃ bl, bl = St.bads R.1 p m := ⟨_, rfl⟩
    obtain ⟨N', hN'⟩ : ∃ N', N' = St.top R.1 p N m := ⟨_, rfl⟩
    have e1 : (⟨p, m, N, false⟩ : StM).at_ = p := rfl
    rw [← hbl, ← hN']
    rw [← hN'] at HF
    have HV : Hid (∀ w3 w4 F4 g, Below w.heap.size w w3 → w.heap.size ≤ g → At w4 b F4 R.1 → (∀ k, F4 k → F k ∨ w3.heap.size ≤ k) → Frame (fun k => F k ∨ k = g) w3 w4 → g < w3.heap.size → BlkR 27 w4 g (stL g b ⟨p, m, N, false⟩) →
        Calls Tryd.prog 32 #[.pointer (some ⟨g, 0, none⟩)] w4 fun en w' => ∃ A c, en = .returned (.tuple #[.slice A bl.length c, .int .i64 0]) ∧ At w' b F4 R.1 ∧ BlkR 27 w' g (stL g b ⟨p, m, N', false⟩) ∧ RowAt w' w'.heap.size A (iv bl) ∧ bl.length ≤ c ∧
          (∀ ad, A = some ad → bl ≠ [] → w4.heap.size ≤ ad.block) ∧ Frame (fun r => r = g) w4 w') := by rw [hbl, hN']; exact HV
    clear hbl hN' e1
    go_enter Tryd.func10, Tryd.ntmps10
    go_wp2_with (first
      | (go_at_call 30; refine zr.mono ?_; (rintro e w1 ⟨rfl, B1⟩; obtain ⟨B3, z3⟩ := HB.out w1 B1; have hg3 := Nat.lt_of_lt_of_le (Nat.lt_succ_self w1.heap.size) (Nat.le_of_eq (World.size_alloc w1 (.cells #[.pointer (some ⟨w1.heap.size, 0, none⟩), .pointer (some ⟨b, 0, none⟩), .int .i64 (p : Int), .int .i64 (m : Int), .int .i64 0, .bool false] 27)).symm); have B3 := Lib.hid B3; have HG := Lib.hid hg3; clear hg3))
      | (go_at_call 31; refine z3.mono ?_; (rintro e w4 ⟨F4, rfl, h4, hF4, fr4, b4⟩; have z4 := HV.out _ w4 F4 _ B3.out B1.size h4 hF4 fr4 HG.out b4; have H4 := Lib.hid (And.intro h4 (And.intro hF4 (And.intro fr4 b4))); clear h4 hF4 fr4 b4 z3))
      | (go_at_call 32; refine z4.mono ?_; (rintro e w5 ⟨A, c, rfl, a5, b5, r5, hc5, n5, fr5⟩)))
    go_ret3
    obtain ⟨h4, hF4, fr4, b4⟩ := H4.out
    have hlt4 := D.lt w4 b F4 R.1 h4
    have hg4 := b4.lt
    have nF : ¬ F4 w1.heap.size := fun x => (hF4 _ x).elim (fun y => by have := D.lt w b F S HH.out.2.1 _ y; have := B1.size; omega) fun y => by have := HG.out; omega
    have fr : Frame F w w4 := (Frame.of_below B3.out).trans fr4 fun k e => e.imp id fun e => by rw [e]; exact B1.size
    refine ⟨fun _ => ⟨w1.heap.size, fun k => k = w1.heap.size, F4, A, c, rfl, a5, ⟨b5, fun k => Iff.rfl, HF.out⟩, fun k ⟨x, y⟩ => nF (y ▸ x), fun k hk => (hF4 k hk).imp id fun y => Nat.le_trans B3.out.size y, fun k e => by rw [e]; exact B1.size, r5, hc5, fun ad e hne => ?_, fr.trans fr5 fun k e => .inr (by rw [e]; exact B1.size)⟩, fun x => absurd rfl x⟩
    have h5 := n5 ad e hne
    have h6 := fr.size
    exact ⟨by omega, fun x => by have := hlt4 _ x; omega, fun x => by omega⟩
  · have hne : (R.2 != 0) = true := by simpa using hR0
    obtain ⟨x, hx⟩ : ∃ x, x = R.2 := ⟨_, rfl⟩
    rw [← hx] at hne HB hR0 ⊢
    clear hx
    go_enter Tryd.func10, Tryd.ntmps10
    go_wp2_with (first
      | (go_at_call 30; refine zr.mono ?_; (rintro e w1 ⟨rfl, B1⟩; obtain ⟨B3, z3⟩ := HB.out w1 B1; have B3 := Lib.hid B3))
      | (go_at_call 31; refine z3.mono ?_; (rintro e w4 ⟨F4, rfl, h4, hF4, fr4, b4⟩)))
    go_ret3
    have fr : Frame F w w4 := (Frame.of_below B3.out).trans fr4 fun k e => e.imp id fun e => by rw [e]; exact B1.size
    exact ⟨fun e => absurd e hR0, fun _ => ⟨F4, rfl, h4, fun k hk => (hF4 k hk).imp id fun y => Nat.le_trans B3.out.size y, fr⟩⟩
set_option maxRecDepth 100000 in
theorem stOpen_any (w : World) (b : Nat) (F : Nat → Prop) (S : DS) (p m : Int) (ht : TabAt w) (h : At w b F S) (ho : S.ops ≤ 900000) : Calls Tryd.prog 10 #[.pointer (some ⟨b, 0, none⟩), .int .i64 p, .int .i64 m] w (StOpened At StAt b F S p m w) := by
  by_cases hr : St.room S p m = 0
  · obtain ⟨F0, h0, hF0, hT⟩ := TI w b F S ht h
    obtain ⟨_, h1, h2, h3, h4⟩ := room_zero hr
    obtain ⟨pn, rfl⟩ : ∃ k : Nat, p = (k : Int) := ⟨p.toNat, by omega⟩
    obtain ⟨mn, rfl⟩ : ∃ k : Nat, m = (k : Int) := ⟨m.toNat, by omega⟩
    refine (stOpen_go D w b F0 S pn mn ht h0 hT ho hr).mono fun e w' z => ⟨fun x => ?_, fun x => ?_⟩
    · obtain ⟨g, G, F', A, c, e1, e2, e3, e4, e5, e6, e7, e8, e9, e10⟩ := z.1 x
      exact ⟨g, G, F', A, c, e1, e2, e3, e4, fun k hk => (e5 k hk).imp (hF0 k) id, e6, e7, e8, e9, e10.mono hF0⟩
    · obtain ⟨F', e1, e2, e3, e4⟩ := z.2 x
      exact ⟨F', e1, e2, fun k hk => (e3 k hk).imp (hF0 k) id, e4.mono hF0⟩
  · exact stOpen_no D w b F S p m h hr
end
/-- the program's disk, beside the table of crc -/
theorem disk_tight : Tight DiskAt := by
  intro w b F S ht h
  obtain ⟨g, c, m, nn, D, h⟩ := h
  have h0 := ht 0 (by decide)
  refine ⟨fun k => k = b ∨ k = g ∨ k = m, ⟨g, c, m, nn, D, { h with Fb := .inl rfl, Fg := .inr (.inl rfl), Fm := .inr (.inr rfl), lt := fun k hk => h.lt k (hk.elim (fun e => e ▸ h.Fb) fun e => e.elim (fun e => e ▸ h.Fg) fun e => e ▸ h.Fm) }⟩, fun k hk => hk.elim (fun e => e ▸ h.Fb) fun e => e.elim (fun e => e ▸ h.Fg) fun e => e ▸ h.Fm, fun x => ?_⟩
  rcases x with e | e | e
  · have h1 := h.cell0
    rw [← e, h0] at h1
    cases h1
  · have h1 := h.rows 0 h.ok.n1 0 (.int .u8 (((S.firm 0).getD 0 0).toNat : Int)) (by rw [cellsOfBytes_get _ 0 (by rw [h.ok.firm 0 h.ok.n1]; decide)])
    rw [← e, Nat.zero_mul, Nat.zero_add, h0] at h1
    cases h1
  · obtain ⟨es, clock, hb, _⟩ := h.map
    unfold World.cell? at h0
    rw [e, hb] at h0
    cases h0
/-- the program's store does what the document says, method by method -/
theorem stores : Stores DiskAt StAt where
  lt := fun _ _ _ _ _ h => h.lt
  keep := fun _ _ _ _ _ _ h _ hk => h.keep hk
  make_ := fun w b F S p m ht h ho => stMake_any disks disk_tight w b F S p m ht h ho
  open_ := fun w b F S p m ht h ho => stOpen_any disks disk_tight w b F S p m ht h ho
  put := fun w b F S g G s i A d c ht h hs hFG ho hr => stPut_any disks disk_tight w b F S g G s i A d c ht h hs hFG ho hr
  get := fun w b F S g G s i ht h hs hFG => stGet_any disks w b F S g G s i ht h hs hFG
  blocks := fun w g _ b s h => (stBlocks_any w g b s (st_rd h.1)).mono fun _ _ ⟨e, x⟩ => ⟨e, x ▸ Below.refl _ _⟩
  number := fun w g _ b s h => (stNumber_any w g b s (st_rd h.1)).mono fun _ _ ⟨e, x⟩ => ⟨e, x ▸ Below.refl _ _⟩
end Go.Proofs.YtlchpolheciadaaDoor
/-
  A store that is nil, or that nobody made; none on no disk: what the program's calls do. Conditions: none.
-/
namespace Go.Proofs.YtlchpolheciadaaDoor
open Go.RowKit Fix

def NoSt (w : World) (p : Value) : Prop := p = .pointer none ∨ ∃ g, p = .pointer (some ⟨g, 0, none⟩) ∧ w.cell? ⟨g, 0, none⟩ = some (.pointer none)
theorem NoSt.step {w w' : World} {p : Value} (h : NoSt w p) (B : Below w.heap.size w w') : NoSt w' p := by
  rcases h with h | ⟨g, h, h0⟩
  · exact .inl h
  · exact .inr ⟨g, h, (B.cell (World.block_lt_of_cell? w _ h0)).trans h0⟩
set_option maxRecDepth 100000 in
theorem stMade_no (w : World) (p : Value) (h : NoSt w p) : Calls Tryd.prog 34 #[p] w fun e w' => e = .returned (.bool false) ∧ w = w' := by
  rcases h with rfl | ⟨g, rfl, h0⟩
  · go_enter Tryd.func34, Tryd.ntmps34
    go_wp2
    go_ret
    exact ⟨rfl, rfl⟩
  · have he : ∀ w, (binOp .eql 24 (.pointer none) (.pointer (some ⟨g, 0, none⟩))).run Tryd.prog w = .ok (.bool false) w := fun w => by kernel_rfl
    go_enter Tryd.func34, Tryd.ntmps34
    go_wp2
    go_ret
    exact ⟨rfl, rfl⟩
section
variable {w : World} {p : Value} (h : NoSt w p)
include h
set_option maxRecDepth 100000 in
theorem stCheck_no (i : Int) : Calls Tryd.prog 28 #[p, .int .i64 i] w fun e w' => e = .returned (.int .i64 1) ∧ w = w' := by
  have zm := stMade_no w p h
  clear h
  go_enter Tryd.func28, Tryd.ntmps28
  go_wp2_with (go_at_call 34; refine zm.mono ?_; (rintro e w1 ⟨rfl, rfl⟩))
  go_ret
  exact ⟨rfl, rfl⟩
set_option maxRecDepth 100000 in
theorem stGet_no (i : Int) : Calls Tryd.prog 9 #[p, .int .i64 i] w fun e w' => e = .returned (.tuple #[.slice none 0 0, .int .i64 1]) ∧ w = w' := by
  have zm := stCheck_no h i
  clear h
  go_enter Tryd.func9, Tryd.ntmps9
  go_wp2_with (go_at_call 28; refine zm.mono ?_; (rintro e w1 ⟨rfl, rfl⟩))
  go_ret2
  exact ⟨rfl, rfl⟩
set_option maxRecDepth 100000 in
theorem stPut_no (i : Int) (A : Option Addr) (n c : Nat) : Calls Tryd.prog 11 #[p, .int .i64 i, .slice A n c] w fun e w' => e = .returned (.int .i64 1) ∧ w = w' := by
  have zm := stCheck_no h i
  clear h
  go_enter Tryd.func11, Tryd.ntmps11
  go_wp2_with (go_at_call 28; refine zm.mono ?_; (rintro e w1 ⟨rfl, rfl⟩))
  go_ret
  exact ⟨rfl, rfl⟩
set_option maxRecDepth 100000 in
theorem stBlocks_no : Calls Tryd.prog 12 #[p] w fun e w' => e = .returned (.int .i64 0) ∧ w = w' := by
  have zm := stMade_no w p h
  clear h
  go_enter Tryd.func12, Tryd.ntmps12
  go_wp2_with (go_at_call 34; refine zm.mono ?_; (rintro e w1 ⟨rfl, rfl⟩))
  go_ret
  exact ⟨rfl, rfl⟩
set_option maxRecDepth 100000 in
theorem stNumber_no : Calls Tryd.prog 13 #[p] w fun e w' => e = .returned (.int .i64 0) ∧ w = w' := by
  have zm := stMade_no w p h
  clear h
  go_enter Tryd.func13, Tryd.ntmps13
  go_wp2_with (go_at_call 34; refine zm.mono ?_; (rintro e w1 ⟨rfl, rfl⟩))
  go_ret
  exact ⟨rfl, rfl⟩
end
section
variable {w : World} {p : Value} (h : NoDisk w p)
include h
set_option maxRecDepth 100000 in
theorem stRoom_no (i m : Int) : Calls Tryd.prog 30 #[p, .int .i64 i, .int .i64 m] w fun e w' => e = .returned (.int .i64 1) ∧ w = w' := by
  have zm := noSectors h
  clear h
  go_enter Tryd.func30, Tryd.ntmps30
  go_wp2_with (go_at_call 49; refine zm.mono ?_; (rintro e w1 ⟨rfl, rfl⟩))
  go_ret
  exact ⟨rfl, rfl⟩
set_option maxRecDepth 100000 in
theorem stMake_no (i m : Int) : Calls Tryd.prog 14 #[p, .int .i64 i, .int .i64 m] w fun e w' => e = .returned (.int .i64 1) ∧ Below w.heap.size w w' := by
  obtain ⟨q, rfl⟩ : ∃ q, p = .pointer q := h.elim (fun e => ⟨_, e⟩) fun ⟨_, e, _⟩ => ⟨_, e⟩
  obtain ⟨W, hW⟩ : ∃ W, W = (w.alloc (.cells #[.pointer q] 25)).alloc (.cells #[.int .i64 i] 3) := ⟨_, rfl⟩
  have BW : Below w.heap.size w W := by rw [hW]; exact ((Below.refl _ w).alloc (Nat.le_refl _) _).alloc (by simp) _
  have zm := stRoom_no (h.step BW) i m
  have HB := Lib.hid BW
  clear h BW
  go_enter Tryd.func14, Tryd.ntmps14
  go_wp2_with (go_at_call 30; rw [← hW]; refine zm.mono ?_; (rintro e w1 ⟨rfl, rfl⟩))
  go_ret
  exact ⟨rfl, hW ▸ HB.out⟩
set_option maxRecDepth 100000 in
theorem stOpenN_no (i m : Int) : Calls Tryd.prog 10 #[p, .int .i64 i, .int .i64 m] w fun e w' => e = .returned (.tuple #[.pointer none, .slice none 0 0, .int .i64 1]) ∧ w = w' := by
  have zm := stRoom_no h i m
  clear h
  go_enter Tryd.func10, Tryd.ntmps10
  go_wp2_with (go_at_call 30; refine zm.mono ?_; (rintro e w1 ⟨rfl, rfl⟩))
  go_ret3
  exact ⟨rfl, rfl⟩
end
theorem still {f : FuncId} {args : Array Value} {w : World} {v : Value} (h : Calls Tryd.prog f args w fun e w' => e = .returned v ∧ w = w') : Calls Tryd.prog f args w fun e w' => e = .returned v ∧ Below w.heap.size w w' :=
  h.mono fun _ _ ⟨e, x⟩ => ⟨e, x ▸ Below.refl _ _⟩
theorem noStores : NoStores stZ NoSt where
  nil := fun _ => .inl rfl
  zero := fun _ g h => .inr ⟨g, rfl, h.cell rfl⟩
  step := fun _ _ _ h B => h.step B
  get := fun _ _ i h => still (stGet_no h i)
  put := fun _ _ i A n c h => still (stPut_no h i A n c)
  blocks := fun _ _ h => still (stBlocks_no h)
  number := fun _ _ h => still (stNumber_no h)
  make_ := fun _ _ i m h => stMake_no h i m
  open_ := fun _ _ i m h => still (stOpenN_no h i m)
end Go.Proofs.YtlchpolheciadaaDoor
