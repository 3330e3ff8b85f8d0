/-
  Several texts in one (StRng, StMakeP, StMakeQ). Conditions: as each says.
-/
import Derived.Test.YtlchpolheciadaaDoorS1
import Derived.RangeFuncNested
import Derived.RangeFuncBound
import Derived.RangeFuncCalls
import Derived.RangeFuncLeaves
import Derived.Shelf.Abstract
import Derived.Shelf.RegionOpen
import Derived.WalkKit
import Derived.OwnWalkIn
import Derived.TacticsInMore
import Derived.LoopNIn
import Derived.LoopIn
/-
  'for place := range through(blocks, &err)': what the iterator does, and the statement, over whatever body. Conditions: none.
-/
namespace Go.Proofs.YtlchpolheciadaaDoor
open Go.RowKit Go.Shelf
attribute [local go_sem] Oper.semAt_some

/-- what the iterator reads: how many blocks (a variable at B1), where the error is (a variable at B2), the error (at E) -/
structure ThAt (w : World) (B1 B2 E m : Nat) (x : Int) : Prop where
  cnt : w.cell? ⟨B1, 0, none⟩ = some (.int .i64 (m : Int))
  ptr : w.cell? ⟨B2, 0, none⟩ = some (.pointer (some ⟨E, 0, none⟩))
  err : w.cell? ⟨E, 0, none⟩ = some (.int .i64 x)
def vTh : Value → Nat
  | .int _ q => q.toNat
  | _ => none.getD 0
def ThPost (J : Nat → Int → World → Prop) (m : Nat) (e : Ending) (W' : World) : Prop := (∃ v, e = .returned v) ∧ ∃ k x, k ≤ m ∧ (k = m ∨ x ≠ 0) ∧ J k x W'
set_option maxRecDepth 100000 in
set_option maxHeartbeats 1000000 in
theorem through1_in (F : Fence) (n : Nat) (hF : F.fn 55) (hro : F.round = none) (hn : 1 ≤ n) (l B1 B2 E m : Nat) (hm : m ≤ 64) (J : Nat → Int → World → Prop)
    (hJ : ∀ k x W, J k x W → ThAt W B1 B2 E m x)
    (hY : ∀ k W, k < m → J k 0 W → YieldAt F (n - 1) Tryd.prog l #[.int .i64 (k : Int)] W fun e W' => e = .returned (.bool true) ∧ ∃ x, J (k + 1) x W')
    (W : World) (x0 : Int) (h0 : J 0 x0 W) :
    CallsIn F n Tryd.prog 55 #[.func (.yield l) #[] #[], .pointer (some ⟨B1, 0, none⟩), .pointer (some ⟨B2, 0, none⟩)] W (ThPost J m) := by
  have c1 := (hJ _ _ _ h0).cnt
  have HJ := Lib.hid hJ
  have HY := Lib.hid hY
  have H0 := Lib.hid h0
  clear hJ hY h0
  refine callsIn_of_wp Tryd.func55 rfl hF ?_ hro
  simp only [Tryd.ntmps55, List.size_toArray, List.length_cons, List.length_nil, Nat.reduceAdd, Nat.reduceSub, Array.replicate_succ, Array.replicate_zero, List.push_toArray, List.append_toArray, List.nil_append, List.cons_append]
  gi_wp2
  gi_loopw [6] (fun p wr => ∃ (k : Nat) (x : Int), k ≤ m ∧ p = .int .i64 (k : Int) ∧ J k x wr) (fun p _ => m - vTh p)
  case atStart => exact ⟨0, x0, Nat.zero_le _, rfl, H0.out⟩
  case round =>
    obtain ⟨k, x, hk, rfl, hj⟩ := hrel
    obtain ⟨_, c2, c3⟩ := HJ.out _ _ _ hj
    by_cases hkm : k < m
    · by_cases hx : x = 0
      · subst hx
        obtain ⟨fn, tmps, assign, body, hy, hR⟩ := HY.out k wr hkm hj
        have hw : IntKind.i64.wrap ((k : Int) + 1) = (k : Int) + 1 := IntWalk.i64_in _ (by omega)
        have HM := Lib.hid hkm
        have hkm' : (k : Int) < (m : Int) := by omega
        clear hkm hk hj
        gi_wp2
        refine hR.mono ?_
        rintro e W' ⟨rfl, x', hj'⟩
        gi_wp2
        go_roundw
        case rel => exact ⟨k + 1, x', HM.out, by go_num, hj'⟩
        case measure => have := HM.out; simp [vTh]; omega
      · have hne : (x != 0) = true := by simpa using hx
        have hkm' : (k : Int) < (m : Int) := by omega
        have HP := Lib.hid (show ThPost J m (.returned (.tuple #[])) wr from ⟨⟨_, rfl⟩, k, x, hk, .inr hx, hj⟩)
        clear hkm hk hj hx
        gi_wp2
        refine ⟨fun _ h => (by cases h), ?_⟩
        gi_wp2
        refine bodyPost_ret (results_none rfl _ _ _) rfl ?_
        exact HP.out
    · obtain rfl : k = m := by omega
      have HP := Lib.hid (show ThPost J k (.returned (.tuple #[])) wr from ⟨⟨_, rfl⟩, k, x, hk, .inl rfl, hj⟩)
      clear hkm hk hj
      gi_wp2
      go_end0
      exact HP.out

/-- how a round is left: it goes on, and both of the loop's own blocks lie as they lay -/
def RndPost (h : Nat) (I : Int → World → Prop) (W : World) : Exit → Act → World → Prop
  | .normal, _, W' => W'.heap[h]? = W.heap[h]? ∧ W'.heap[h + 1]? = W.heap[h + 1]? ∧ ∃ x, I x W'
  | _, _, _ => False
/-- the statement: I k x: behind k rounds, the error being x -/
theorem wp_through {g : Operand} {ps : Array Tmp} {assign body : Code} {Q : Exit → Act → World → Prop} {a : Act} {w : World} (B1 B2 E m : Nat) (hm : m ≤ 64)
    (hg : a.eval g = .func (.func 55) #[] #[.pointer (some ⟨B1, 0, none⟩), .pointer (some ⟨B2, 0, none⟩)]) (hps : ps.size = 1)
    (I : Nat → Int → World → Prop) (x0 : Int)
    (hI : ∀ k x W, I k x W → ThAt W B1 B2 E m x)
    (hput : ∀ k x W r o, r = w.heap.size ∨ r = w.heap.size + 1 → I k x W → I k x (W.putObj r o))
    (h0 : ∀ o1 o2, I 0 x0 ((w.alloc o1).alloc o2)) (a₁ : Nat → Act)
    (hassign : ∀ (l k : Nat) (W : World) (K : Act → World → Prop), K (a₁ k) W →
      assign.wpIn (Fence.wide.inRound l) 1 Tryd.prog (Exit.then K (fun _ _ _ => False)) { tmps := (ps.zip #[Value.int .i64 (k : Int)]).foldl (fun t (p, v) => t.setIfInBounds p v) a.tmps, defers := [] } W)
    (hbody : ∀ (l k : Nat) (W : World), k < m → w.heap.size + 2 ≤ W.heap.size → I k 0 W → body.wpIn (Fence.wide.inRound l) 1 Tryd.prog (RndPost w.heap.size (I (k + 1)) W) (a₁ k) W)
    (hdone : ∀ (k : Nat) (x : Int) (W : World), k ≤ m → (k = m ∨ x ≠ 0) → I k x W → W.heap[w.heap.size]? = some (.deferred (some [])) → Q .normal { a with defers := { target := .collected w.heap.size, args := #[] } :: a.defers } W) :
    (Code.rangeFunc g ps assign body).wp Tryd.prog Q a w := by
  refine (wpIn_wide (n := 3)).1 (wpIn_rangeFunc fun fn hfn => ?_)
  obtain ⟨rec, hrec⟩ : ∃ rec : LoopState → Loop, rec = fun st => { state := st, pending := none, fn, tmps := a.tmps, params := ps, assign, body, defers := w.heap.size } := ⟨_, rfl⟩
  obtain ⟨W1, hW1⟩ : ∃ W1, W1 = (w.alloc (.deferred (some []))).alloc (.loop (rec .ready)) := ⟨_, rfl⟩
  have s1 : W1.heap.size = w.heap.size + 2 := by rw [hW1]; simp
  have hL1 : W1.heap[w.heap.size + 1]? = some (.loop (rec .ready)) := by
    have := World.alloc_heap_new (w.alloc (.deferred (some []))) (.loop (rec .ready))
    rw [World.size_alloc] at this
    rw [hW1]; exact this
  have hD1 : W1.heap[w.heap.size]? = some (.deferred (some [])) := by
    rw [hW1]; exact (Below.heap_alloc _ _ _ (by simp)).trans (World.alloc_heap_new w _)
  have hI1 : I 0 x0 W1 := by rw [hW1]; exact h0 _ _
  have main : CallsIn Fence.wide 2 Tryd.prog 55 #[.func (.yield (w.heap.size + 1)) #[] #[], .pointer (some ⟨B1, 0, none⟩), .pointer (some ⟨B2, 0, none⟩)] W1
      (ThPost (fun k x W => I k x W ∧ w.heap.size + 2 ≤ W.heap.size ∧ W.heap[w.heap.size + 1]? = some (.loop (rec .ready)) ∧ W.heap[w.heap.size]? = some (.deferred (some []))) m) := by
    refine through1_in Fence.wide 2 trivial rfl (by decide) (w.heap.size + 1) B1 B2 E m hm _ (fun k x W h => hI k x W h.1) (fun k W hk ⟨hi, hs, hl, hd⟩ => ?_) W1 x0 ⟨hI1, by omega, hL1, hD1⟩
    have hy := run_yield (P := Tryd.prog) (args := #[Value.int .i64 (k : Int)]) hl (by rw [hrec]; exact hps.symm)
    rw [hrec] at hy
    refine ⟨fn, _, assign, body, hy, roundIn_of_wpIn hfn (hassign _ k W _ ⟨_, run_beginRound hl (by rw [hrec]), ?_⟩)⟩
    have hlt : w.heap.size + 1 < W.heap.size := by omega
    have hl2 : (W.putObj (w.heap.size + 1) (.loop { rec .ready with state := .busy })).heap[w.heap.size + 1]? = some (.loop { rec .ready with state := .busy }) := World.putObj_heap_same hlt
    have hd2 : (W.putObj (w.heap.size + 1) (.loop { rec .ready with state := .busy })).heap[w.heap.size]? = some (.deferred (some [])) := (World.putObj_heap_other (by omega)).trans hd
    refine wpIn_mono (hbody _ k _ hk (by rw [World.putObj_size]; exact hs) (hput k 0 W _ _ (.inr rfl) hi)) ?_
    rintro e a3 W3 hp
    cases e with
    | normal =>
      obtain ⟨e1, e2, x, hx⟩ := hp
      have hl3 := e2.trans hl2
      have hd3 := e1.trans hd2
      have hr := run_endRound (P := Tryd.prog) none hl3
      refine ⟨_, _, hr, rfl, x, hput _ _ _ _ _ (.inr rfl) hx, ?_, ?_, (World.putObj_heap_other (by omega)).trans hd3⟩
      · have := (Array.getElem?_eq_some_iff.1 hl3).1
        rw [World.putObj_size]; omega
      · rw [World.putObj_heap_same (Array.getElem?_eq_some_iff.1 hl3).1, hrec]
        rfl
    | ret => exact hp.elim
    | exit id => exact hp.elim
    | goto t => exact hp.elim
    | panic ch => exact hp.elim
    | outgrown => exact hp.elim
  refine ⟨w.heap.size + 1, [{ target := .collected w.heap.size, args := #[] }], W1, { target := .fn (.func 55) #[.pointer (some ⟨B1, 0, none⟩), .pointer (some ⟨B2, 0, none⟩)], args := #[.func (.yield (w.heap.size + 1)) #[] #[]] }, W1, 55, _, W1, ?_, ?_, fun _ _ => trivial, ?_, fun h => (by cases h), main.mono ?_⟩
  · rw [hW1, hrec]; exact run_enterLoop_outer _ _ _ _ _
  · simp only [resolve, hg]
    simp [go_sem]
  · simp [invoke, go_sem]
  · rintro e W2 ⟨⟨v, rfl⟩, k, x, hk, hx, hi, hs, hl, hd⟩
    have hend := run_endLoop (P := Tryd.prog) hl (by rw [hrec]; simp)
    rw [show (rec .ready).pending = none by rw [hrec]] at hend
    exact ⟨none, _, hend, hdone k x _ hk hx (hput _ _ _ _ _ (.inr rfl) hi) ((World.putObj_heap_other (by omega)).trans hd)⟩
/-- a function's contract out of its body, where such a loop stands in it -/
theorem calls_of_wp_marks {f : FuncId} {fn : Func} {c : Code} {args : Array Value} {w : World} {R : Ending → World → Prop} (hf : Tryd.prog.funcs[f]? = some fn) (hb : fn.body = some c)
    (h : c.wp Tryd.prog (bodyPostM Fence.wide 3 Tryd.prog fn R) { tmps := args ++ Array.replicate (fn.ntmps - args.size) undef, defers := [] } w) : Calls Tryd.prog f args w R :=
  (callsIn_wide (n := 3)).1 (callsIn_of_wp_marks hf hb trivial (wpIn_wide.2 h))
/-- what through makes: the iterator, with both variables that it reads -/
def ThrPost (m : Int) (E : Nat) (w : World) (e : Ending) (w' : World) : Prop :=
  ∃ B1 B2, e = .returned (.func (.func 55) #[] #[.pointer (some ⟨B1, 0, none⟩), .pointer (some ⟨B2, 0, none⟩)]) ∧ BlkR 3 w' B1 [.int .i64 m] ∧ BlkR 83 w' B2 [.pointer (some ⟨E, 0, none⟩)] ∧ w.heap.size ≤ B1 ∧ w.heap.size ≤ B2 ∧ Below w.heap.size w w'
set_option maxRecDepth 100000 in
theorem through_any (m : Int) (E : Nat) (w : World) : Calls Tryd.prog 36 #[.int .i64 m, .pointer (some ⟨E, 0, none⟩)] w (ThrPost m E w) := by
  have hmf : ∀ (fn : Fn) (first cap : Array Value) (w : World), (Instr.makeFunc fn first cap).run Tryd.prog w = .ok (.func fn first cap) w := fun _ _ _ _ => rfl
  unfold ThrPost
  go_enter Tryd.func36, Tryd.ntmps36
  go_wp2
  go_ret
  have B1 : Below w.heap.size w (w.alloc (.cells #[.int .i64 m] 3)) := (Below.refl _ _).alloc (Nat.le_refl _) _
  have B2 : Below (w.alloc (.cells #[.int .i64 m] 3)).heap.size (w.alloc (.cells #[.int .i64 m] 3)) ((w.alloc (.cells #[.int .i64 m] 3)).alloc (.cells #[.pointer (some ⟨E, 0, none⟩)] 83)) := (Below.refl _ _).alloc (Nat.le_refl _) _
  have b2 := BlkR.new (w.alloc (.cells #[.int .i64 m] 3)) [.pointer (some ⟨E, 0, none⟩)] 83
  rw [World.size_alloc] at b2
  exact ⟨w.heap.size, w.heap.size + 1, rfl, (BlkR.new w [.int .i64 m] _).step B2, b2, Nat.le_refl _, Nat.le_succ _, step_trans B1 B2⟩
end Go.Proofs.YtlchpolheciadaaDoor
/-
  The program's Make. Conditions: a disk's methods do what the document says; at most so many changes; the table of crc lies as the program's text lays it, beside the disk.
-/
namespace Go.Proofs.YtlchpolheciadaaDoor
open Go.RowKit Fix
attribute [local go_sem] Oper.semAt_some

theorem Frame.newObj {F : Nat → Prop} {a w : World} (h : Frame F a w) (o : Obj) : Frame F a (w.alloc o) := h.trans (Frame.of_below (F := F) ((Below.refl _ _).alloc (Nat.le_refl _) o)) fun _ x => .inl x
theorem Frame.drawn {F : Nat → Prop} {a w : World} (h : Frame F a w) : Frame F a w.drew := ⟨h.os, h.tape, h.output, h.size, h.block⟩
/-- behind the first Write of Make: the disk's pointer and the place lie at h, h + 1, the error at E -/
structure MkB (At : World → Nat → (Nat → Prop) → DS → Prop) (w : World) (b : Nat) (F : Nat → Prop) (T : DS) (p x : Int) (E : Nat) (F1 : Nat → Prop) (wx : World) : Prop where
  at_ : At wx b F1 T
  own : ∀ k, F1 k → F k ∨ w.heap.size ≤ k
  fr : Frame F w wx
  ed : BlkR 25 wx w.heap.size [.pointer (some ⟨b, 0, none⟩)]
  ep : BlkR 3 wx (w.heap.size + 1) [.int .i64 p]
  ee : BlkR 39 wx E [.int .i64 x]
  far : w.heap.size + 2 ≤ E
  nd : ¬ F1 w.heap.size
  np : ¬ F1 (w.heap.size + 1)
  ne : ¬ F1 E
/-- behind some rounds: the loop began in W0 -/
def MkI (At : World → Nat → (Nat → Prop) → DS → Prop) (b E : Nat) (F1 : Nat → Prop) (W0 : World) (T : DS) (x : Int) (V : World) : Prop :=
  ∃ F', At V b F' T ∧ (∀ k, F' k → F1 k ∨ W0.heap.size + 2 ≤ k) ∧ Frame (fun k => F1 k ∨ k = E) W0 V ∧ BlkR 39 V E [.int .i64 x] ∧ W0.heap.size + 2 ≤ V.heap.size
theorem Frame.putObj {F : Nat → Prop} {a w : World} (h : Frame F a w) {r : Nat} (o : Obj) (hr : F r ∨ a.heap.size ≤ r) : Frame F a (w.putObj r o) :=
  ⟨h.os, h.tape, h.output, by rw [World.putObj_size]; exact h.size, fun k hk hf => (World.putObj_heap_other (fun e => by subst e; exact hr.elim hf fun y => by omega)).trans (h.block k hk hf)⟩
theorem fill_stays (S : DS) (p : Int) (k : Nat) (h : (St.fill S p k).2 ≠ 0) : ∀ j, St.fill S p (k + j) = St.fill S p k
  | 0 => rfl
  | j + 1 => by
    have := fill_stays S p k h j
    show (if (St.fill S p (k + j)).2 = 0 then _ else St.fill S p (k + j)) = _
    rw [this, if_neg h]
theorem fill_end {S : DS} {p : Int} {k m : Nat} (hk : k ≤ m) (h : k = m ∨ (St.fill S p k).2 ≠ 0) : St.fill S p m = St.fill S p k := by
  rcases h with rfl | h
  · rfl
  · have := fill_stays S p k h (m - k)
    rwa [Nat.add_sub_cancel' hk] at this
theorem fill_ops (S : DS) (p : Int) : ∀ k, (St.fill S p k).1.ops ≤ S.ops + 1 + k
  | 0 => ops_write S p Slot.nots
  | k + 1 => by
    have := fill_ops S p k
    show (if (St.fill S p k).2 = 0 then (St.fill S p k).1.write _ _ else St.fill S p k).1.ops ≤ _
    split
    · have := ops_write (St.fill S p k).1 (p + 1 + (k : Int)) (Blk.bytesB (k : Int) 1 St.zeros)
      omega
    · omega
section
variable {At : World → Nat → (Nat → Prop) → DS → Prop} (D : Disks Tryd.prog At)
include D
theorem at_set {V : World} {b E : Nat} {F : Nat → Prop} {T : DS} (v : Value) (h : At V b F T) (hE : ¬ F E) : At (V.setCell ⟨E, 0, none⟩ v) b F T :=
  D.keep V _ b F T h ((Frame.refl (fun _ => True) V).setAt ⟨E, 0, none⟩ v trivial).size fun j hj => Below.heap_setCell V ⟨E, 0, none⟩ v j fun e => hE (by rw [← (show j = E from e)]; exact hj)
/-- the end of a round of Make -/
theorem mk_round {V V1 V2 w4 : World} {b E c k : Nat} {F1 F' F2 : Nat → Prop} {S : DS} {p : Int} {R : DS × Int} (a : Act) (g2 : ∀ k, F' k → F1 k ∨ w4.heap.size + 2 ≤ k) (g3 : Frame (fun k => F1 k ∨ k = E) w4 V) (hs : w4.heap.size + 2 ≤ V.heap.size)
    (hl1 : ∀ k, F1 k → k < c) (s4 : c ≤ w4.heap.size) (lE : E < c) (nE : ¬ F' E) (C1 : Below V.heap.size V V1) (fr0 : Frame F' V1.drew V2) (h2 : At V2 b F2 R.1) (hF2 : ∀ k, F2 k → F' k ∨ V1.heap.size ≤ k) (e2 : BlkR 39 V2 E [.int .i64 0]) (g8 : St.fill S p (k + 1) = R) :
    RndPost w4.heap.size (fun x V => x = (St.fill S p (k + 1)).2 ∧ MkI At b E F1 w4 (St.fill S p (k + 1)).1 x V) V .normal a (V2.setCell ⟨E, 0, none⟩ (.int .i64 R.2)) := by
  rw [g8]
  have fr2 : Frame F' V1 V2 := ⟨fr0.os, fr0.tape, fr0.output, fr0.size, fr0.block⟩
  have s1 := C1.size
  have s2 := fr2.size
  have old : ∀ r, w4.heap.size ≤ r → r < w4.heap.size + 2 → (V2.setCell ⟨E, 0, none⟩ (.int .i64 R.2)).heap[r]? = V.heap[r]? := fun r hr hr2 => by
    rw [Below.heap_setCell V2 ⟨E, 0, none⟩ _ r (by show r ≠ E; omega), fr2.block r (by omega) (fun x => (g2 _ x).elim (fun y => by have := hl1 _ y; omega) fun y => by omega), C1.block r (by omega)]
  have nE2 : ¬ F2 E := fun x => (hF2 _ x).elim nE fun y => by omega
  refine ⟨old _ (Nat.le_refl _) (by omega), old _ (by omega) (by omega), R.2, rfl, F2, at_set D _ h2 nE2, fun j hj => ?_, ?_, e2.set_ 0 _, ?_⟩
  · exact (hF2 j hj).elim (g2 j) fun y => .inr (by omega)
  · have f1 := (g3.trans (Frame.of_below (F := fun _ => False) C1) fun _ x => x.elim).trans fr2 fun j x => (g2 j x).elim (fun y => .inl (.inl y)) fun y => .inr (by omega)
    exact f1.setAt _ _ (.inr rfl)
  · have := ((Frame.refl (fun _ => True) V2).setAt ⟨E, 0, none⟩ (.int .i64 R.2) trivial).size
    omega
/-- the end of Make -/
theorem mk_fin {w wc V V2 w4 : World} {b E : Nat} {F F1 F' F2 : Nat → Prop} {T0 U : DS} {p x0 : Int} (h2 : ∀ k, F' k → F1 k ∨ w4.heap.size + 2 ≤ k) (h3 : Frame (fun k => F1 k ∨ k = E) w4 V) (h5 : w4.heap.size + 2 ≤ V.heap.size) (M : MkB At w b F T0 p x0 E F1 wc)
    (B4 : Below wc.heap.size wc w4) (hl1 : ∀ k, F1 k → k < wc.heap.size) (hD : V.heap[w4.heap.size]? = some (.deferred (some []))) (y : Int) (a2 : At V2 b F2 U) (b2 : ∀ j, F2 j → F' j ∨ V.heap.size ≤ j) (f2 : Frame F' V V2) :
    V2.heap[w4.heap.size]? = some (.deferred (some [])) ∧ ChgIs At b F (U, y) w (.returned (.int .i64 y)) (V2.putObj w4.heap.size (.deferred none)) := by
  have s4 := B4.size
  have sc := M.fr.size
  have hE := M.far
  have nF' : ¬ F' w4.heap.size := fun x => (h2 _ x).elim (fun y => by have := hl1 _ y; omega) fun y => by omega
  have nF2 : ¬ F2 w4.heap.size := fun x => (b2 _ x).elim nF' fun y => by omega
  have hK : V2.heap[w4.heap.size]? = some (.deferred (some [])) := (f2.block _ (by omega) nF').trans hD
  refine ⟨hK, F2, rfl, D.keep V2 _ b F2 U a2 (by rw [World.putObj_size]; exact Nat.le_refl _) fun j hj => World.putObj_heap_other fun e => nF2 (e ▸ hj), fun j hj => ?_, ?_⟩
  · rcases b2 j hj with z | z
    · exact (h2 j z).elim (fun v => M.own j v) fun v => .inr (by omega)
    · exact .inr (by have := h5; omega)
  · have f1 := M.fr.trans (Frame.of_below (F := fun _ => False) B4) fun _ x => x.elim
    have f3 := f1.trans h3 fun j x => x.elim (M.own j) fun e => .inr (by omega)
    have f4 := f3.trans f2 fun j x => (h2 j x).elim (M.own j) fun v => .inr (by omega)
    exact f4.putObj _ (.inr (by omega))
set_option maxRecDepth 100000 in
set_option maxHeartbeats 2000000 in
theorem stMake_go (w : World) (b : Nat) (F : Nat → Prop) (S : DS) (p m : Nat) (hp : p < 1024) (hm : m ≤ 64) (ht : TabAt w) (h : At w b F S) (hT : ¬ F 0) (ho : S.ops ≤ 900000) (hr : St.room S p m = 0) : Calls Tryd.prog 14 #[.pointer (some ⟨b, 0, none⟩), .int .i64 (p : Int), .int .i64 (m : Int)] w (ChgIs At b F (St.make S p m) w) := by
  obtain ⟨RR, hRR⟩ : ∃ RR, RR = St.make S p m := ⟨_, rfl⟩
  rw [← hRR]
  have HRR := Lib.hid hRR
  clear hRR
  have zr := fun w h => stRoom_any D w b F S (p : Int) (m : Int) h
  rw [hr] at zr
  have hF := D.lt w b F S h
  -- the boxes
  obtain ⟨W, hW⟩ : ∃ W, W = (w.alloc (.cells #[.pointer (some ⟨b, 0, none⟩)] 25)).alloc (.cells #[.int .i64 (p : Int)] 3) := ⟨_, rfl⟩
  have sW : W.heap.size = w.heap.size + 2 := by rw [hW]; simp
  have BW : Below w.heap.size w W := by rw [hW]; exact ((Below.refl _ w).alloc (Nat.le_refl _) _).alloc (by simp) _
  have ed : BlkR 25 W w.heap.size [.pointer (some ⟨b, 0, none⟩)] := by rw [hW]; exact (BlkR.new w [.pointer (some ⟨b, 0, none⟩)] _).step ((Below.refl _ _).alloc (Nat.le_refl _) _)
  have ep : BlkR 3 W (w.heap.size + 1) [.int .i64 (p : Int)] := by
    have := BlkR.new (w.alloc (.cells #[.pointer (some ⟨b, 0, none⟩)] 25)) [.int .i64 (p : Int)] 3
    rw [hW]
    rwa [World.size_alloc] at this
  have hW0 := At_step D h BW
  have zr1 := zr W hW0
  -- the first Write
  obtain ⟨x0, hx0⟩ : ∃ x, x = (S.write p Slot.nots).2 := ⟨_, rfl⟩
  obtain ⟨T0, hT0⟩ : ∃ x, x = (S.write p Slot.nots).1 := ⟨_, rfl⟩
  have zw : ∀ wy rb, Below w.heap.size w wy → BytesAt wy wy.heap.size (some ⟨rb, 0, none⟩) Slot.nots → Calls Tryd.prog 35 #[.pointer (some ⟨b, 0, none⟩), .int .i64 (p : Int), .slice (some ⟨rb, 0, none⟩) 64 64] wy fun e w' => ∃ F', e = .returned (.int .i64 x0) ∧ At w' b F' T0 ∧ (∀ k, F' k → F k ∨ wy.heap.size ≤ k) ∧ Frame F wy w' := fun wy rb B r => by
    have := D.write wy b F S p (some ⟨rb, 0, none⟩) Slot.nots 64 64 (At_step D h B) (by omega) r (by rfl) (Nat.le_refl _)
    rw [← hx0, ← hT0] at this
    exact this
  have KX : Hid (∀ w', Frame (fun k => F k ∨ w.heap.size + 2 ≤ k) W w' → w'.cell? ⟨w.heap.size, 0, none⟩ = some (.pointer (some ⟨b, 0, none⟩)) ∧ w'.cell? ⟨w.heap.size + 1, 0, none⟩ = some (.int .i64 (p : Int))) := Lib.hid fun w' fr =>
    ⟨(ed.frame fr fun x => x.elim (fun y => by have := hF _ y; omega) fun y => by omega).cell rfl, (ep.frame fr fun x => x.elim (fun y => by have := hF _ y; omega) fun y => by omega).cell rfl⟩
  have hmk : ∀ w : World, (Instr.makeSlice 22 (.int .i64 64) (.int .i64 64)).run Tryd.prog w = .ok (.slice (some ⟨w.heap.size, 0, none⟩) 64 64) (w.alloc (row0 64)) := make_bytes 64 (by decide)
  have row := fun v : World => row0_facts v 64
  have HH := Lib.hid (And.intro ed (And.intro ep (And.intro hF (And.intro BW (And.intro sW (And.intro ht (And.intro hT row)))))))
  have HR := Lib.hid hr
  have HX := Lib.hid (And.intro hx0 hT0)
  have HO := Lib.hid ho
  clear ed ep hF BW sW ht hT hr hx0 hT0 ho h hW0 zr row
  refine calls_of_wp_marks Tryd.func14 rfl ?_
  simp only [Tryd.ntmps14, List.size_toArray, List.length_cons, List.length_nil, Nat.reduceAdd, Nat.reduceSub, Array.replicate_succ, Array.replicate_zero, List.push_toArray, List.append_toArray, List.nil_append, List.cons_append]
  go_wp2_with (go_at_call 30; rw [← hW]; refine zr1.mono ?_; (rintro e w1 ⟨rfl, B1⟩; clear hW; have C1 := step_trans HH.out.2.2.2.1 B1; have P1 : Frame (fun k => F k ∨ w.heap.size + 2 ≤ k) W w1 := Frame.of_below B1; obtain ⟨y0, y1⟩ := KX.out w1 P1))
  have n1 : w.heap.size + 2 ≤ w1.heap.size := by have := HH.out.2.2.2.2.1; have := B1.size; omega
  have HN := Lib.hid n1
  have P0 := P1.drawn
  clear n1
  have mk : Hid (∀ wy E w2 F2, Below w.heap.size w wy → Frame (fun k => F k ∨ w.heap.size + 2 ≤ k) W wy → BlkR 39 wy E [.int .i64 0] → w.heap.size + 2 ≤ E → At w2 b F2 T0 → (∀ k, F2 k → F k ∨ wy.heap.size ≤ k) → Frame F wy w2 → BlkR 39 w2 E [.int .i64 0] ∧ MkB At w b F T0 p x0 E F2 (w2.setCell ⟨E, 0, none⟩ (.int .i64 x0))) := Lib.hid fun wy E w2 F2 By Py ey hE h2 hF2 fr2 => by
    obtain ⟨ed, ep, hF, BW, sW, ht, hT, row⟩ := HH.out
    have nFE : ¬ F E := fun x => by have := hF _ x; omega
    have ey2 := ey.frame fr2 nFE
    have edy : BlkR 25 wy w.heap.size [.pointer (some ⟨b, 0, none⟩)] := ed.frame Py fun x => x.elim (fun y => by have := hF _ y; omega) fun y => by omega
    have epy : BlkR 3 wy (w.heap.size + 1) [.int .i64 (p : Int)] := ep.frame Py fun x => x.elim (fun y => by have := hF _ y; omega) fun y => by omega
    have hEl := ey.lt
    have hdl := edy.lt
    have hpl := epy.lt
    have n2 : ∀ k, w.heap.size ≤ k → k < wy.heap.size → ¬ F2 k := fun k hk hl x => (hF2 k x).elim (fun y => by have := hF _ y; omega) fun y => by omega
    have hne := n2 E (by omega) hEl
    refine ⟨ey2, D.keep w2 _ b F2 T0 h2 ((Frame.refl (fun _ => True) w2).setAt ⟨E, 0, none⟩ (.int .i64 x0) trivial).size fun k hk => Below.heap_setCell w2 ⟨E, 0, none⟩ _ k fun e => hne (by rw [← (show k = E from e)]; exact hk), fun k x => (hF2 k x).imp id fun y => Nat.le_trans By.size y, ?_, ?_, ?_, ey2.set_ 0 _, hE, n2 _ (Nat.le_refl _) hdl, n2 _ (by omega) hpl, hne⟩
    · have f1 := (Frame.of_below (F := F) By).trans fr2 fun k x => .inl x
      exact f1.trans (show Frame (fun k => k = E) w2 _ from (Frame.refl _ _).setAt _ _ rfl) fun k e => .inr (by omega)
    · exact (edy.frame fr2 fun x => by have := hF _ x; omega).other _ _ (by show w.heap.size ≠ E; omega)
    · exact (epy.frame fr2 fun x => by have := hF _ x; omega).other _ _ (by show w.heap.size + 1 ≠ E; omega)
  have mk2 : Hid (∀ wy w2 F2, Below w.heap.size w wy → Frame (fun k => F k ∨ w.heap.size + 2 ≤ k) W wy → At w2 b F2 T0 → (∀ k, F2 k → F k ∨ wy.heap.size ≤ k) → Frame F wy w2 → MkB At w b F T0 p x0 w2.heap.size F2 (w2.alloc (.cells #[.int .i64 x0] 39))) := Lib.hid fun wy w2 F2 By Py h2 hF2 fr2 => by
    obtain ⟨ed, ep, hF, BW, sW, ht, hT, row⟩ := HH.out
    have edy : BlkR 25 wy w.heap.size [.pointer (some ⟨b, 0, none⟩)] := ed.frame Py fun x => x.elim (fun y => by have := hF _ y; omega) fun y => by omega
    have epy : BlkR 3 wy (w.heap.size + 1) [.int .i64 (p : Int)] := ep.frame Py fun x => x.elim (fun y => by have := hF _ y; omega) fun y => by omega
    have hdl := edy.lt
    have hpl := epy.lt
    have hs2 := fr2.size
    have hsP := Py.size
    have n2 : ∀ k, w.heap.size ≤ k → k < wy.heap.size → ¬ F2 k := fun k hk hl x => (hF2 k x).elim (fun y => by have := hF _ y; omega) fun y => by omega
    have B2 : Below w2.heap.size w2 (w2.alloc (.cells #[.int .i64 x0] 39)) := (Below.refl _ _).alloc (Nat.le_refl _) _
    refine ⟨At_step D h2 B2, fun k x => (hF2 k x).imp id fun y => Nat.le_trans By.size y, ((Frame.of_below (F := F) By).trans fr2 fun k x => .inl x).newObj _, (edy.frame fr2 fun x => by have := hF _ x; omega).step B2, (epy.frame fr2 fun x => by have := hF _ x; omega).step B2, BlkR.new w2 [.int .i64 x0] _, by omega, n2 _ (Nat.le_refl _) hdl, n2 _ (by omega) hpl, fun x => ?_⟩
    have := D.lt w2 b F2 T0 h2 _ x
    omega
  go_cut [8] from 19 to 22 (fun q wx => ∃ E F1, q = .pointer (some ⟨E, 0, none⟩) ∧ MkB At w b F T0 p x0 E F1 wx)
  case first =>
    obtain ⟨oE, hoE⟩ : ∃ o : Obj, o = .cells #[.int .i64 0] 39 := ⟨_, rfl⟩
    have nE := fun v : World => show BlkR 39 (v.alloc oE) v.heap.size [.int .i64 0] from by rw [hoE]; exact BlkR.new v [.int .i64 0] _
    obtain ⟨wA, hA⟩ : ∃ x, x = ((w1.alloc oE).alloc (row0 64)).drew := ⟨_, rfl⟩
    obtain ⟨wB, hB⟩ : ∃ x, x = ((w1.alloc (row0 64)).alloc oE).drew := ⟨_, rfl⟩
    obtain ⟨wC, hC⟩ : ∃ x, x = (w1.alloc (row0 64)).drew := ⟨_, rfl⟩
    have P0 := P1.drawn
    have al := fun (v : World) o => show Below v.heap.size v (v.alloc o) from (Below.refl _ _).alloc (Nat.le_refl _) o
    have BA : Below w.heap.size w wA := by rw [hA]; exact (step_trans (step_trans C1 (al _ _)) (al _ _)).drew
    have BB : Below w.heap.size w wB := by rw [hB]; exact (step_trans (step_trans C1 (al _ _)) (al _ _)).drew
    have BC : Below w.heap.size w wC := by rw [hC]; exact (step_trans C1 (al _ _)).drew
    have PA : Frame (fun k => F k ∨ w.heap.size + 2 ≤ k) W wA := by rw [hA]; exact ((P1.newObj _).newObj _).drawn
    have PB : Frame (fun k => F k ∨ w.heap.size + 2 ≤ k) W wB := by rw [hB]; exact ((P1.newObj _).newObj _).drawn
    have PC : Frame (fun k => F k ∨ w.heap.size + 2 ≤ k) W wC := by rw [hC]; exact (P1.newObj _).drawn
    have sA : (w1.alloc oE).heap.size = w1.heap.size + 1 := by simp
    have sB : (w1.alloc (row0 64)).heap.size = w1.heap.size + 1 := by simp
    have rA : BytesAt wA wA.heap.size (some ⟨w1.heap.size + 1, 0, none⟩) Slot.nots := by rw [hA, ← sA]; exact ((row0_facts _ 64).1).all.drew
    have rB : BytesAt wB wB.heap.size (some ⟨w1.heap.size, 0, none⟩) Slot.nots := by rw [hB]; exact (((row0_facts w1 64).1).step (al _ _)).all.drew
    have rC : BytesAt wC wC.heap.size (some ⟨w1.heap.size, 0, none⟩) Slot.nots := by rw [hC]; exact ((row0_facts w1 64).1).all.drew
    have eA : BlkR 39 wA w1.heap.size [.int .i64 0] := by rw [hA]; exact ((nE w1).step (al _ _)).step (Below.refl _ _).drew
    have eB : BlkR 39 wB (w1.heap.size + 1) [.int .i64 0] := by rw [hB, ← sB]; exact nE _
    have zA := zw wA _ BA rA
    have zB := zw wB _ BB rB
    have zC := zw wC _ BC rC
    have oA := KX.out _ ((P1.newObj (.cells #[.int .i64 0] 39)).newObj (row0 64)).drawn
    have oB := KX.out _ ((P1.newObj (row0 64)).newObj (.cells #[.int .i64 0] 39)).drawn
    have oC := KX.out _ (P1.newObj (row0 64)).drawn
    have oD := KX.out _ (P1.newObj (.cells #[.int .i64 0] 39)).drawn
    have mA := fun w2 F2 => mk.out wA w1.heap.size w2 F2 BA PA eA HN.out
    have mB := fun w2 F2 => mk.out wB (w1.heap.size + 1) w2 F2 BB PB eB (Nat.le_succ_of_le HN.out)
    have mC := fun w2 F2 => mk2.out wC w2 F2 BC PC
    have HM := Lib.hid (And.intro mA (And.intro mB mC))
    have HS := Lib.hid (And.intro PA (And.intro PB PC))
    clear mA mB mC BA BB BC rA rB rC eA eB sA sB al zw PA PB PC nE
    go_region_held3 (fun w' => w'.cell? ⟨w.heap.size, 0, none⟩ = some (.pointer (some ⟨b, 0, none⟩)) ∧ w'.cell? ⟨w.heap.size + 1, 0, none⟩ = some (.int .i64 (p : Int))) (first | assumption | exact ⟨y0, y1⟩ | exact KX.out _ P0) (first
      | (go_at_call 35; first
        | (rw [← hoE, ← hA]; refine zA.mono ?_; (rintro e w2 ⟨F2, rfl, h2, hF2, fr2⟩; obtain ⟨e2, M⟩ := HM.out.1 w2 F2 h2 hF2 fr2; have P2 := HS.out.1.trans fr2 (fun k x => .inl (.inl x)); have K2 := KX.out w2 P2; have K3 := KX.out _ (P2.setAt ⟨w1.heap.size, 0, none⟩ (.int .i64 x0) (.inr HN.out)); have j0 := e2.cell (k := 0) rfl; have j1 := e2.frozen 0; have M := Lib.hid M; have e2 := Lib.hid e2))
        | (rw [← hoE, ← hB]; refine zB.mono ?_; (rintro e w2 ⟨F2, rfl, h2, hF2, fr2⟩; obtain ⟨e2, M⟩ := HM.out.2.1 w2 F2 h2 hF2 fr2; have P2 := HS.out.2.1.trans fr2 (fun k x => .inl (.inl x)); have K2 := KX.out w2 P2; have K3 := KX.out _ (P2.setAt ⟨w1.heap.size + 1, 0, none⟩ (.int .i64 x0) (.inr (Nat.le_succ_of_le HN.out))); have j0 := e2.cell (k := 0) rfl; have j1 := e2.frozen 0; have M := Lib.hid M; have e2 := Lib.hid e2))
        | (rw [← hC]; refine zC.mono ?_; (rintro e w2 ⟨F2, rfl, h2, hF2, fr2⟩; have M := Lib.hid (HM.out.2.2 w2 F2 h2 hF2 fr2); have P2 := HS.out.2.2.trans fr2 (fun k x => .inl (.inl x)); have K2 := KX.out w2 P2; have K3 := KX.out _ (P2.newObj (.cells #[.int .i64 0] 39)); have K4 := KX.out _ (P2.newObj (.cells #[.int .i64 x0] 39))))))
    all_goals (go_wp2_with fail; go_meet; exact ⟨_, _, rfl, M.out⟩)
  case rest =>
    obtain ⟨E, F1, rfl, hM⟩ := hcut
    have zt := fun w => through_any (m : Int) E w
    unfold ThrPost at zt
    have HM := Lib.hid hM
    have HP := Lib.hid (And.intro hp hm)
    have hmk : ∀ w : World, (Instr.makeSlice 22 (.int .i64 32) (.int .i64 32)).run Tryd.prog w = .ok (.slice (some ⟨w.heap.size, 0, none⟩) 32 32) (w.alloc (row0 32)) := make_bytes 32 (by decide)
    clear hM zw zr1 y0 y1 P1 C1 mk mk2 B1 P0 hp hm
    go_wp2_with (go_at_call 36; refine (zt wc).mono ?_; (rintro e w4 ⟨G1, G2, rfl, g1, g2, l1, l2, B4⟩))
    obtain ⟨ed, ep, hF, BW, sW, ht, hT, row⟩ := HH.out
    obtain ⟨M1, M2, M3, M4, M5, M6, M7, M8, M9, M10⟩ := HM.out
    have hl1 := D.lt wc b F1 T0 M1
    have s4 := B4.size
    have sc := M3.size
    have lE := M6.lt
    have lT := tab_lt ht
    have nT1 : ¬ F1 0 := fun x => (M2 _ x).elim hT fun y => by omega
    have tE : 0 ≠ E := by omega
    -- what does not turn while the loop runs
    have still : ∀ V, Frame (fun k => F1 k ∨ k = E) w4 V → BlkR 25 V w.heap.size [.pointer (some ⟨b, 0, none⟩)] ∧ BlkR 3 V (w.heap.size + 1) [.int .i64 (p : Int)] ∧ BlkR 3 V G1 [.int .i64 (m : Int)] ∧ BlkR 83 V G2 [.pointer (some ⟨E, 0, none⟩)] ∧ TabAt V := fun V fr => by
      refine ⟨(M4.step B4).frame fr fun x => x.elim M8 fun y => by omega, (M5.step B4).frame fr fun x => x.elim M9 fun y => by omega, g1.frame fr fun x => x.elim (fun y => by have := hl1 _ y; omega) fun y => by omega, g2.frame fr fun x => x.elim (fun y => by have := hl1 _ y; omega) fun y => by omega, ?_⟩
      exact ((ht.frame M3 hT).below B4 (Nat.le_refl _)).frame fr fun x => x.elim nT1 tE
    have hI : ∀ (k : Nat) (x : Int) (V : World), (x = (St.fill S p k).2 ∧ MkI At b E F1 w4 (St.fill S p k).1 x V) → ThAt V G1 G2 E m x := fun k x V h => by
      obtain ⟨_, F', h1, h2, h3, h4, h5⟩ := h
      obtain ⟨_, _, c1, c2, _⟩ := still V h3
      exact ⟨c1.cell rfl, c2.cell rfl, h4.cell rfl⟩
    have hput : ∀ (k : Nat) (x : Int) (V : World) (r : Nat) (o : Obj), r = w4.heap.size ∨ r = w4.heap.size + 1 → (x = (St.fill S p k).2 ∧ MkI At b E F1 w4 (St.fill S p k).1 x V) → (x = (St.fill S p k).2 ∧ MkI At b E F1 w4 (St.fill S p k).1 x (V.putObj r o)) := fun k x V r o hr h => by
      obtain ⟨h0, F', h1, h2, h3, h4, h5⟩ := h
      refine ⟨h0, F', D.keep V _ b F' _ h1 (by rw [World.putObj_size]; exact Nat.le_refl _) fun j hj => World.putObj_heap_other fun e => ?_, h2, h3.putObj o (.inr (by omega)), (World.putObj_heap_other (by omega)).trans h4, by rw [World.putObj_size]; exact h5⟩
      subst e
      exact (h2 _ hj).elim (fun y => by have := hl1 _ y; omega) fun y => by omega
    have h0 : ∀ o1 o2, (x0 = (St.fill S p 0).2 ∧ MkI At b E F1 w4 (St.fill S p 0).1 x0 ((w4.alloc o1).alloc o2)) := fun o1 o2 => by
      have B5 : Below w4.heap.size w4 ((w4.alloc o1).alloc o2) := ((Below.refl _ _).alloc (Nat.le_refl _) _).alloc (by simp) _
      refine ⟨HX.out.1, F1, ?_, fun k hk => .inl hk, Frame.of_below B5, (M6.step B4).step B5, by simp⟩
      have := At_step D (At_step D M1 B4) B5
      rw [HX.out.2] at this
      exact this
    have HST := Lib.hid still
    have HI := Lib.hid hI
    have HPU := Lib.hid hput
    have H0 := Lib.hid h0
    have HZ := Lib.hid (And.intro hl1 (And.intro s4 (And.intro sc (And.intro lE lT))))
    have HB4 := Lib.hid B4
    clear still hI hput h0 hl1 s4 sc lE lT tE M1 M2 M3 M4 M5 M6 M7 M8 M9 M10 ed ep hF BW sW ht hT row g1 g2 B4 nT1
    refine wp_through G1 G2 E m HP.out.2 rfl rfl (fun k x V => x = (St.fill S p k).2 ∧ MkI At b E F1 w4 (St.fill S p k).1 x V) x0 HI.out HPU.out H0.out
      (fun k => { tmps := #[.pointer (some ⟨b, 0, none⟩), .int .i64 (p : Int), .int .i64 (m : Int), .pointer (some ⟨w.heap.size, 0, none⟩), .pointer (some ⟨w.heap.size + 1, 0, none⟩), undef, .int .i64 0, .int .i64 0, .pointer (some ⟨E, 0, none⟩), .int .i64 (k : Int), undef, undef, .pointer (some ⟨b, 0, none⟩), .int .i64 (p : Int), .int .i64 (m : Int), .int .i64 0, .int .i64 0, .bool false, undef, u19, u20, u21, u22, .int .i64 (m : Int), .func (.func 55) #[] #[.pointer (some ⟨G1, 0, none⟩), .pointer (some ⟨G2, 0, none⟩)], .int .i64 (k : Int), undef, undef, undef, undef, undef, undef, undef, undef, undef, undef, undef, undef, undef, undef, undef, undef, undef], defers := [] }) ?assign ?body ?done
    case assign =>
      intro l k V K hK
      gi_wp2
      exact hK
    case body =>
      intro l k V hk hs hI
      obtain ⟨hx, F', h1, h2, h3, h4, h5⟩ := hI
      obtain ⟨d1, d2, _, _, tV⟩ := HST.out V h3
      have hk64 : k < 64 := by have := HP.out.2; omega
      obtain ⟨q, hq⟩ : ∃ q, q = (p : Int) + 1 + (k : Int) := ⟨_, rfl⟩
      have hfill : St.fill S p (k + 1) = (St.fill S p k).1.write q (Blk.bytesB (k : Int) 1 St.zeros) := by
        show (if (St.fill S p k).2 = 0 then _ else _) = _
        rw [if_pos hx.symm, hq]
      have hops : (St.fill S p k).1.ops ≤ 1000000 := by have := fill_ops S p k; have := HO.out; omega
      obtain ⟨T, hT⟩ : ∃ T, T = (St.fill S p k).1 := ⟨_, rfl⟩
      rw [← hT] at h1 hfill hops
      obtain ⟨bs, hbs⟩ : ∃ l, l = Blk.bytesB (k : Int) 1 St.zeros := ⟨_, rfl⟩
      rw [← hbs] at hfill
      obtain ⟨R, hR⟩ : ∃ R, R = T.write q bs := ⟨_, rfl⟩
      rw [← hR] at hfill
      have BV : Below V.heap.size V (V.alloc (row0 32)) := (Below.refl _ _).alloc (Nat.le_refl _) _
      have zb := blockBytes_any (k : Int) 1 (some ⟨V.heap.size, 0, none⟩) St.zeros 32 32 rfl (V.alloc (row0 32)) (tV.below BV (Nat.le_refl _)) ((row0_facts V 32).1).all
      unfold BbPost at zb
      rw [← hbs] at zb
      have zs := fun v => sectorOf_any p k v (by have := HP.out.1; omega) (by omega)
      rw [← hq] at zs
      have zw := fun V2 A c (a : At V2 b F' T) r (hc : bs.length ≤ c) => D.write V2 b F' T q A bs bs.length c a hops r rfl hc
      rw [← hR] at zw
      have HV := Lib.hid (And.intro h2 (And.intro h3 (And.intro h4 (And.intro h5 (And.intro d1 (And.intro d2 (And.intro h1 hfill)))))))
      have HL := Lib.hid hs
      clear hx h1 h2 h3 h4 h5 d1 d2 tV hq hfill hops hT hbs hR BV hk hs hk64
      gi_wp2_with (first
        | (refine ⟨trivial, ?_⟩; gi_at_call 37; refine (CallsIn.inRound l (callsIn_wide.2 zb)).mono ?_; (rintro e V1 ⟨A1, c1, rfl, hc1, o1, B1⟩)))
      have BV : Below V.heap.size V (V.alloc (row0 32)) := (Below.refl _ _).alloc (Nat.le_refl _) _
      have C1 := step_trans BV B1
      have y0 := (HV.out.2.2.2.2.1.step C1).cell (k := 0) rfl
      have y1 := (HV.out.2.2.2.2.2.1.step C1).cell (k := 0) rfl
      have a1 := At_step D (At_step D HV.out.2.2.2.2.2.2.1 C1) (Below.refl V1.heap.size V1).drew
      have zw1 := zw V1.drew A1 c1 a1 o1.bytes o1.cap
      have nE : ¬ F' E := fun x => (HV.out.1 _ x).elim HM.out.ne fun y => by have := HZ.out.2.2.2.1; have := HZ.out.2.1; omega
      have HE : Hid (∀ V2, Frame F' V1.drew V2 → BlkR 39 V2 E [.int .i64 0]) := Lib.hid fun V2 fr => ((HV.out.2.2.1.step C1).step (Below.refl _ _).drew).frame fr nE
      have FIN : Hid (∀ (a : Act) V2 F2, At V2 b F2 R.1 → (∀ k, F2 k → F' k ∨ V1.heap.size ≤ k) → Frame F' V1.drew V2 → BlkR 39 V2 E [.int .i64 0] → RndPost w4.heap.size (fun x V => x = (St.fill S p (k + 1)).2 ∧ MkI At b E F1 w4 (St.fill S p (k + 1)).1 x V) V .normal a (V2.setCell ⟨E, 0, none⟩ (.int .i64 R.2))) :=
        Lib.hid fun a V2 F2 h2 hF2 fr2 e2 => mk_round D a HV.out.1 HV.out.2.1 HL.out HZ.out.1 HZ.out.2.1 HZ.out.2.2.2.1 nE C1 fr2 h2 hF2 e2 (by rw [HV.out.2.2.2.2.2.2.2])
      have mixed : Tryd.prog.follows .mixedOrders = true := by kernel_rfl
      have HO1 := Lib.hid o1
      have HC1 := Lib.hid C1
      obtain ⟨n, hn⟩ : ∃ n, n = bs.length := ⟨_, rfl⟩
      rw [← hn] at zw1 ⊢
      clear BV B1 C1 o1 zb zw a1 hn hmk
      gi_region_with_o (first
        | (refine ⟨trivial, ?_⟩; gi_at_call 38; refine (CallsIn.inRound l (callsIn_wide.2 (zs _))).mono ?_; (rintro e v ⟨rfl, rfl⟩))
        | (refine ⟨trivial, ?_⟩; gi_at_call 35; refine (CallsIn.inRound l (callsIn_wide.2 zw1)).mono ?_; (rintro e V2 ⟨F2, rfl, h2, hF2, fr2⟩; have e2 := HE.out V2 fr2; have j0 := e2.cell (k := 0) rfl; have j1 := e2.frozen 0; have e2 := Lib.hid e2)))
      all_goals (unfold Exit.inBlock; exact FIN.out _ V2 F2 h2 hF2 fr2 e2.out)
    case done =>
      intro k x V hk hx hI hD
      obtain ⟨h0, F', h1, h2, h3, h4, h5⟩ := hI
      obtain ⟨d1, d2, _, _, tV⟩ := HST.out V h3
      have y0 := d1.cell (k := 0) rfl
      have y1 := h4.cell (k := 0) rfl
      have hmk : St.make S p m = (if (St.fill S p k).2 = 0 then (St.fill S p k).1.flush else St.fill S p k) := by
        unfold St.make
        rw [if_pos HR.out, Int.toNat_natCast, fill_end hk (hx.imp id fun y => by rw [← h0]; exact y)]
      have hops : (St.fill S p k).1.ops ≤ 1000000 := by have := fill_ops S p k; have := HO.out; have := HP.out.2; omega
      rw [← h0] at hmk
      obtain ⟨T, hT⟩ : ∃ T, T = (St.fill S p k).1 := ⟨_, rfl⟩
      have hTx : St.fill S p k = (T, x) := by rw [hT, h0]
      rw [← hT] at h1 hops
      rw [hTx, ← HRR.out] at hmk
      have fin : Hid (∀ V2 F2 U (y : Int), At V2 b F2 U → (∀ j, F2 j → F' j ∨ V.heap.size ≤ j) → Frame F' V V2 → V2.heap[w4.heap.size]? = some (.deferred (some [])) ∧ ChgIs At b F (U, y) w (.returned (.int .i64 y)) (V2.putObj w4.heap.size (.deferred none))) := Lib.hid fun V2 F2 U y a2 b2 f2 => mk_fin D h2 h3 h5 HM.out HB4.out HZ.out.1 hD y a2 b2 f2
      have HV := Lib.hid (And.intro h1 hops)
      by_cases hx0 : x = 0
      · rw [if_pos hx0] at hmk
        subst hx0
        have zf := D.flush V b F' T h1 hops
        obtain ⟨y, hy⟩ : ∃ y, y = T.flush.2 := ⟨_, rfl⟩
        obtain ⟨U, hU⟩ : ∃ U, U = T.flush.1 := ⟨_, rfl⟩
        rw [← hy, ← hU] at zf
        have HE := Lib.hid (show RR = (U, y) by rw [hmk, hU, hy])
        clear h0 h1 h2 h3 h4 h5 d1 d2 tV hk hx hops hT hTx hD hmk hy hU
        go_wp2_with (go_at_call 39; refine zf.mono ?_; (rintro e V2 ⟨F2, rfl, a2, b2, f2⟩))
        obtain ⟨hK, hp⟩ := fin.out V2 F2 U y a2 b2 f2
        refine ⟨by simp, .inl ⟨_, _, rfl, run_takeDeferred hK, ?_⟩⟩
        rw [HE.out]
        refine ⟨_, results_tmp Tryd.results14 _ _ _, ?_⟩
        exact hp
      · rw [if_neg hx0] at hmk
        have hne : (x != 0) = true := by simpa using hx0
        obtain ⟨hK, hp⟩ := fin.out V F' T x h1 (fun j hj => .inl hj) (Frame.refl _ _)
        have HP2 := Lib.hid (And.intro hmk (And.intro hK hp))
        clear h0 h1 h2 h3 h4 h5 d1 d2 tV hk hx hops hT hTx hD hmk hK hp hx0
        go_wp2
        refine ⟨by simp, .inl ⟨_, _, rfl, run_takeDeferred HP2.out.2.1, ?_⟩⟩
        rw [HP2.out.1]
        refine ⟨_, results_tmp Tryd.results14 _ _ _, ?_⟩
        exact HP2.out.2.2
end
end Go.Proofs.YtlchpolheciadaaDoor
/-
  The program's Make, at whatever arguments. Conditions: a disk's methods do what the document says; at most so many changes; the table of crc lies as the program's text lays it, beside the disk.
-/
namespace Go.Proofs.YtlchpolheciadaaDoor
open Go.RowKit Fix

theorem room_zero {S : DS} {p m : Int} (h : St.room S p m = 0) : S.out = false ∧ 1 ≤ m ∧ m ≤ 64 ∧ 0 ≤ p ∧ p + m < (S.n : Int) := by
  unfold St.room at h
  split at h
  · cases h
  · rename_i ho
    split at h
    · cases h
    · split at h
      · cases h
      · exact ⟨by simpa using ho, by omega, by omega, by omega, by omega⟩
theorem ChgIs.wide {At : World → Nat → (Nat → Prop) → DS → Prop} {b : Nat} {F F0 : Nat → Prop} {R : DS × Int} {w w' : World} {e : Ending} (hF : ∀ k, F0 k → F k) (h : ChgIs At b F0 R w e w') : ChgIs At b F R w e w' := by
  obtain ⟨F', h1, h2, h3, h4⟩ := h
  exact ⟨F', h1, h2, fun k hk => (h3 k hk).imp (hF k) id, h4.mono hF⟩
section
variable {At : World → Nat → (Nat → Prop) → DS → Prop} (D : Disks Tryd.prog At) (TI : Tight At)
include D TI
set_option maxRecDepth 100000 in
theorem stMake_any (w : World) (b : Nat) (F : Nat → Prop) (S : DS) (p m : Int) (ht : TabAt w) (h : At w b F S) (ho : S.ops ≤ 900000) : Calls Tryd.prog 14 #[.pointer (some ⟨b, 0, none⟩), .int .i64 p, .int .i64 m] w (ChgIs At b F (St.make S p m) w) := by
  by_cases hr : St.room S p m = 0
  · obtain ⟨F0, h0, hF0, hT⟩ := TI w b F S ht h
    obtain ⟨_, h1, h2, h3, h4⟩ := room_zero hr
    have hn := (D.ok w b F S h).n2
    obtain ⟨pn, rfl⟩ : ∃ k : Nat, p = (k : Int) := ⟨p.toNat, by omega⟩
    obtain ⟨mn, rfl⟩ : ∃ k : Nat, m = (k : Int) := ⟨m.toNat, by omega⟩
    exact (stMake_go D w b F0 S pn mn (by omega) (by omega) ht h0 hT ho hr).mono fun e w' z => z.wide hF0
  · have zr := fun w h => stRoom_any D w b F S p m h
    have hm : St.make S p m = (S, St.room S p m) := by unfold St.make; rw [if_neg hr]
    rw [hm]
    obtain ⟨x, hx⟩ : ∃ x, x = St.room S p m := ⟨_, rfl⟩
    rw [← hx] at zr hr ⊢
    have hne : (x != 0) = true := by simpa using hr
    obtain ⟨W, hW⟩ : ∃ W, W = (w.alloc (.cells #[.pointer (some ⟨b, 0, none⟩)] 25)).alloc (.cells #[.int .i64 p] 3) := ⟨_, rfl⟩
    have BW : Below w.heap.size w W := by rw [hW]; exact ((Below.refl _ w).alloc (Nat.le_refl _) _).alloc (by simp) _
    have zr1 := zr W (At_step D h BW)
    have HH := Lib.hid (And.intro BW h)
    unfold ChgIs
    clear hm hx hr zr BW h ht ho
    go_enter Tryd.func14, Tryd.ntmps14
    go_wp2_with (go_at_call 30; rw [← hW]; refine zr1.mono ?_; (rintro e w1 ⟨rfl, B1⟩))
    go_ret
    have B := step_trans HH.out.1 B1
    exact ⟨F, rfl, At_step D HH.out.2 B, fun k hk => .inl hk, Frame.of_below B⟩
end
end Go.Proofs.YtlchpolheciadaaDoor
