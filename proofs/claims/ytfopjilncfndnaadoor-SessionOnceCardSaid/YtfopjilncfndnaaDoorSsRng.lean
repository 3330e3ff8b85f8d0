/-
  'for m := range r.all()': what the iterator does, and the statement, over whatever body. Conditions: the ring lies within a block; the body keeps it.
-/
import Derived.Test.YtfopjilncfndnaaDoorSsKnown
import Derived.RangeFuncNested
import Derived.RangeFuncBound
import Derived.RangeFuncCalls
import Derived.RangeFuncLeaves
import Derived.Shelf.Abstract
import Derived.Shelf.RegionOpen
import Derived.WalkKit
import Derived.OwnWalkIn
import Derived.TacticsInMore
import Derived.LoopNIn
import Derived.LoopIn
namespace Go.Proofs.YtfopjilncfndnaaDoor
open Go.RowKit Go.Shelf
attribute [local go_sem] Oper.semAt_some

/-- what the iterator reads: the ring's pointer (a variable at B), and the ring -/
structure AlAt (E : TypeId) (F : Nat → Prop) (w : World) (B g o : Nat) (pre post its : List Value) (f : Nat) (l : List (Nat × List UInt8)) : Prop where
  ptr : w.cell? ⟨B, 0, none⟩ = some (.pointer (some ⟨g, o, none⟩))
  rg : RgAt E F w g o pre post its f l
set_option maxRecDepth 100000 in
set_option maxHeartbeats 1000000 in
theorem all1_in (lp : Nat) (E : TypeId) (F : Nat → Prop) (B g o : Nat) (pre post its : List Value) (f : Nat) (l : List (Nat × List UInt8)) (J : Nat → World → Prop)
    (hJ : ∀ k W, J k W → AlAt E F W B g o pre post its f l) (hD : ∀ k W, J k W → J k W.drew)
    (hY : ∀ k W m v, l[k]? = some m → PayAt F W v m.2 → J k W → YieldAt Fence.wide 1 Tryd.prog lp #[.agg #[.int .i64 (m.1 : Int), v]] W fun e W' => e = .returned (.bool true) ∧ J (k + 1) W')
    (W : World) (h0 : J 0 W) :
    CallsIn Fence.wide 2 Tryd.prog 56 #[.func (.yield lp) #[] #[], .pointer (some ⟨B, 0, none⟩)] W fun e W' => (∃ v, e = .returned v) ∧ J l.length W' := by
  have A0 := hJ _ _ h0
  have c1 := A0.ptr
  have c2 := A0.rg.count
  have hm := A0.rg.its.many
  have h16 := A0.rg.its.f16
  have HJ := Lib.hid hJ
  have HY := Lib.hid hY
  have H0 := Lib.hid h0
  have HD := Lib.hid hD
  obtain ⟨n, hn⟩ : ∃ n, n = l.length := ⟨_, rfl⟩
  rw [← hn] at c2 hm ⊢
  have HN := Lib.hid hn
  clear hJ hY h0 hD hn A0
  refine callsIn_of_wp Tryd.func56 rfl trivial ?_ rfl
  simp only [Tryd.ntmps56, List.size_toArray, List.length_cons, List.length_nil, Nat.reduceAdd, Nat.reduceSub, Array.replicate_succ, Array.replicate_zero, List.push_toArray, List.append_toArray, List.nil_append, List.cons_append]
  gi_wp2
  gi_loopw [8] (fun p wr => ∃ (k : Nat), k ≤ n ∧ p = .int .i64 (k : Int) ∧ J k wr) (fun p _ => n - (intOf p).toNat)
  case atStart => exact ⟨0, Nat.zero_le _, rfl, H0.out⟩
  case round =>
    obtain ⟨k, hk, rfl, hj⟩ := hrel
    have AA := HJ.out _ _ hj
    by_cases hkn : k < n
    · obtain ⟨m, hm'⟩ : ∃ m, l[k]? = some m := ⟨_, List.getElem?_eq_getElem (by rw [← HN.out]; exact hkn)⟩
      obtain ⟨v, hv, hp⟩ := AA.rg.its.pay k m hm'
      have hnum := AA.rg.its.num k m hm'
      have d1 := AA.ptr
      have d0 := AA.rg.first
      have i1 := AA.rg.item hnum
      have i2 := AA.rg.item hv
      obtain ⟨q, hq⟩ : ∃ q, q = (f + k) % 16 := ⟨_, rfl⟩
      have hq16 : q < 16 := by omega
      have zp := place_any g o f k
      rw [← hq] at zp i1 i2
      rw [show o + 2 * q = o + q * 2 by omega] at i1
      rw [show o + (2 * q + 1) = o + q * 2 + 1 by omega] at i2
      obtain ⟨fn, tmps, assign, body, hy, hR⟩ := HY.out k wr.drew m v hm' (hp.keep (w' := wr.drew) (Nat.le_refl _) fun _ _ => rfl) (HD.out _ _ hj)
      have hkn' : (k : Int) < (n : Int) := by omega
      have HK := Lib.hid hkn
      have hqi : (q : Int) < 16 := by omega
      have mixed : Tryd.prog.follows .mixedOrders = true := by kernel_rfl
      have hkm : k ≤ 16 := by omega
      have d0d : wr.drew.cell? ⟨g, o + 32, none⟩ = some (.int .i64 (f : Int)) := d0
      clear hkn hk hj AA hm' hv hp hnum hq HY HJ HD H0
      gi_wp2
      gi_region_with_o (first
        | (refine ⟨trivial, ?_⟩; gi_at_call 44; refine (callsIn_wide.2 (zp _ d0d h16 hkm)).mono ?_; (rintro e v ⟨rfl, rfl⟩))
        | (refine hR.mono ?_; (rintro e W' ⟨rfl, hj'⟩)))
      all_goals (
        gi_wp2
        go_roundw
        case rel => exact ⟨k + 1, HK.out, by go_num, hj'⟩
        case measure => have := HK.out; simp [intOf]; omega)
    · obtain rfl : k = n := by omega
      have HP := Lib.hid hj
      clear hkn hk hj AA
      gi_wp2
      go_end0
      exact ⟨⟨_, rfl⟩, HP.out⟩
/-- how a round is left: it goes on, and both of the loop's own blocks lie as they lay -/
def RndPost (h : Nat) (I : World → Prop) (W : World) : Exit → Act → World → Prop
  | .normal, _, W' => W'.heap[h]? = W.heap[h]? ∧ W'.heap[h + 1]? = W.heap[h + 1]? ∧ I W'
  | _, _, _ => False
/-- the statement: I k: behind k rounds -/
theorem wp_all {x : Operand} {ps : Array Tmp} {assign body : Code} {Q : Exit → Act → World → Prop} {a : Act} {w : World} (E : TypeId) (F : Nat → Prop) (B g o : Nat) (pre post its : List Value) (f : Nat) (l : List (Nat × List UInt8))
    (hg : a.eval x = .func (.func 56) #[] #[.pointer (some ⟨B, 0, none⟩)]) (hps : ps.size = 1) (hF : ∀ k, F k → k < w.heap.size)
    (I : Nat → World → Prop)
    (hI : ∀ k W, I k W → AlAt E F W B g o pre post its f l) (hD : ∀ k W, I k W → I k W.drew)
    (hput : ∀ k W r o, r = w.heap.size ∨ r = w.heap.size + 1 → I k W → I k (W.putObj r o))
    (hal : ∀ k W o, I k W → I k (W.alloc o))
    (h0 : ∀ o1 o2, I 0 ((w.alloc o1).alloc o2)) (a₁ : Nat × List UInt8 → Value → Nat → Act)
    (hassign : ∀ (lp : Nat) (m : Nat × List UInt8) (v : Value) (W : World) (K : Act → World → Prop), (∃ A n c, v = .slice A n c) → K (a₁ m v W.heap.size) (W.alloc (.cells #[.int .i64 (m.1 : Int), v] 55)) →
      assign.wpIn (Fence.wide.inRound lp) 1 Tryd.prog (Exit.then K (fun _ _ _ => False)) { tmps := (ps.zip #[Value.agg #[.int .i64 (m.1 : Int), v]]).foldl (fun t (p, v) => t.setIfInBounds p v) a.tmps, defers := [] } W)
    (hbody : ∀ (lp k b : Nat) (m : Nat × List UInt8) (v : Value) (W : World), l[k]? = some m → PayAt F W v m.2 → w.heap.size + 2 ≤ b → BlkR 55 W b [.int .i64 (m.1 : Int), v] → I k W → body.wpIn (Fence.wide.inRound lp) 1 Tryd.prog (RndPost w.heap.size (I (k + 1)) W) (a₁ m v b) W)
    (hdone : ∀ (W : World), I l.length W → W.heap[w.heap.size]? = some (.deferred (some [])) → Q .normal { a with defers := { target := .collected w.heap.size, args := #[] } :: a.defers } W) :
    (Code.rangeFunc x ps assign body).wp Tryd.prog Q a w := by
  refine (wpIn_wide (n := 3)).1 (wpIn_rangeFunc fun fn hfn => ?_)
  obtain ⟨rec, hrec⟩ : ∃ rec : LoopState → Loop, rec = fun st => { state := st, pending := none, fn, tmps := a.tmps, params := ps, assign, body, defers := w.heap.size } := ⟨_, rfl⟩
  obtain ⟨W1, hW1⟩ : ∃ W1, W1 = (w.alloc (.deferred (some []))).alloc (.loop (rec .ready)) := ⟨_, rfl⟩
  have s1 : W1.heap.size = w.heap.size + 2 := by rw [hW1]; simp
  have hL1 : W1.heap[w.heap.size + 1]? = some (.loop (rec .ready)) := by
    have := World.alloc_heap_new (w.alloc (.deferred (some []))) (.loop (rec .ready))
    rw [World.size_alloc] at this
    rw [hW1]; exact this
  have hD1 : W1.heap[w.heap.size]? = some (.deferred (some [])) := by
    rw [hW1]; exact (Below.heap_alloc _ _ _ (by simp)).trans (World.alloc_heap_new w _)
  have hI1 : I 0 W1 := by rw [hW1]; exact h0 _ _
  have main : CallsIn Fence.wide 2 Tryd.prog 56 #[.func (.yield (w.heap.size + 1)) #[] #[], .pointer (some ⟨B, 0, none⟩)] W1
      (fun e W' => (∃ v, e = .returned v) ∧ (I l.length W' ∧ w.heap.size + 2 ≤ W'.heap.size ∧ W'.heap[w.heap.size + 1]? = some (.loop (rec .ready)) ∧ W'.heap[w.heap.size]? = some (.deferred (some [])))) := by
    refine all1_in (w.heap.size + 1) E F B g o pre post its f l (fun k W => I k W ∧ w.heap.size + 2 ≤ W.heap.size ∧ W.heap[w.heap.size + 1]? = some (.loop (rec .ready)) ∧ W.heap[w.heap.size]? = some (.deferred (some []))) (fun k W h => hI k W h.1) (fun k W h => ⟨hD k W h.1, h.2⟩) (fun k W m v hk hp ⟨hi, hs, hl, hd⟩ => ?_) W1 ⟨hI1, by omega, hL1, hD1⟩
    have hy := run_yield (P := Tryd.prog) (args := #[Value.agg #[.int .i64 (m.1 : Int), v]]) hl (by rw [hrec]; exact hps.symm)
    rw [hrec] at hy
    have B2 : Below W.heap.size W (W.alloc (.cells #[.int .i64 (m.1 : Int), v] 55)) := (Below.refl _ _).alloc (Nat.le_refl _) _
    have lA := (B2.block _ (by omega)).trans hl
    have dA := (B2.block _ (by omega)).trans hd
    have mA := BlkR.new W [.int .i64 (m.1 : Int), v] 55
    have iA := hal k W (.cells #[.int .i64 (m.1 : Int), v] 55) hi
    have pA := hp.keep (w' := W.alloc (.cells #[.int .i64 (m.1 : Int), v] 55)) B2.size fun j hj => B2.block j (by have := hF j hj; omega)
    have sA : w.heap.size + 1 < (W.alloc (.cells #[.int .i64 (m.1 : Int), v] 55)).heap.size := by simp; omega
    refine ⟨fn, _, assign, body, hy, roundIn_of_wpIn hfn (hassign _ m v W _ (by obtain ⟨A, c, e, _⟩ := hp; exact ⟨A, _, c, e⟩) ⟨_, run_beginRound lA (by rw [hrec]), ?_⟩)⟩
    obtain ⟨V, hV⟩ : ∃ V, V = W.alloc (.cells #[.int .i64 (m.1 : Int), v] 55) := ⟨_, rfl⟩
    rw [← hV] at lA dA iA pA sA ⊢
    have mA : BlkR 55 V W.heap.size [.int .i64 (m.1 : Int), v] := by rw [hV]; exact mA
    have hl2 : (V.putObj (w.heap.size + 1) (.loop { rec .ready with state := .busy })).heap[w.heap.size + 1]? = some (.loop { rec .ready with state := .busy }) := World.putObj_heap_same sA
    have hd2 : (V.putObj (w.heap.size + 1) (.loop { rec .ready with state := .busy })).heap[w.heap.size]? = some (.deferred (some [])) := (World.putObj_heap_other (by omega)).trans dA
    have hi2 := hput k V _ (.loop { rec .ready with state := .busy }) (.inr rfl) iA
    refine wpIn_mono (hbody _ k W.heap.size m v _ hk (pA.keep (by rw [World.putObj_size]; exact Nat.le_refl _) fun j hj => World.putObj_heap_other ?_) (by omega) ((World.putObj_heap_other (by omega)).trans mA) hi2) ?_
    · intro e
      have := hF j hj
      omega
    rintro e a3 W3 hp
    cases e with
    | normal =>
      obtain ⟨e1, e2, hx⟩ := hp
      have hl3 := e2.trans hl2
      have hd3 := e1.trans hd2
      have hr := run_endRound (P := Tryd.prog) none hl3
      refine ⟨_, _, hr, rfl, hput _ _ _ _ (.inr rfl) hx, ?_, ?_, (World.putObj_heap_other (by omega)).trans hd3⟩
      · have := (Array.getElem?_eq_some_iff.1 hl3).1
        rw [World.putObj_size]; omega
      · rw [World.putObj_heap_same (Array.getElem?_eq_some_iff.1 hl3).1, hrec]
        rfl
    | ret => exact hp.elim
    | exit id => exact hp.elim
    | goto t => exact hp.elim
    | panic ch => exact hp.elim
    | outgrown => exact hp.elim
  refine ⟨w.heap.size + 1, [{ target := .collected w.heap.size, args := #[] }], W1, { target := .fn (.func 56) #[.pointer (some ⟨B, 0, none⟩)], args := #[.func (.yield (w.heap.size + 1)) #[] #[]] }, W1, 56, _, W1, ?_, ?_, fun _ _ => trivial, ?_, fun h => (by cases h), main.mono ?_⟩
  · rw [hW1, hrec]; exact run_enterLoop_outer _ _ _ _ _
  · simp only [resolve, hg]
    simp [go_sem]
  · simp [invoke, go_sem]
  · rintro e W2 ⟨⟨v, rfl⟩, hi, hs, hl, hd⟩
    have hend := run_endLoop (P := Tryd.prog) hl (by rw [hrec]; simp)
    rw [show (rec .ready).pending = none by rw [hrec]] at hend
    exact ⟨none, _, hend, hdone _ (hput _ _ _ _ (.inr rfl) hi) ((World.putObj_heap_other (by omega)).trans hd)⟩
/-- a function's contract out of its body, where such a loop stands in it -/
theorem calls_of_wp_marks {f : FuncId} {fn : Func} {c : Code} {args : Array Value} {w : World} {R : Ending → World → Prop} (hf : Tryd.prog.funcs[f]? = some fn) (hb : fn.body = some c)
    (h : c.wp Tryd.prog (bodyPostM Fence.wide 3 Tryd.prog fn R) { tmps := args ++ Array.replicate (fn.ntmps - args.size) undef, defers := [] } w) : Calls Tryd.prog f args w R :=
  (callsIn_wide (n := 3)).1 (callsIn_of_wp_marks hf hb trivial (wpIn_wide.2 h))
/-- what all makes: the iterator, with the variable that it reads -/
theorem all_any (g o : Nat) (w : World) : Calls Tryd.prog 42 #[.pointer (some ⟨g, o, none⟩)] w fun e w' => e = .returned (.func (.func 56) #[] #[.pointer (some ⟨w.heap.size, 0, none⟩)]) ∧ BlkR 99 w' w.heap.size [.pointer (some ⟨g, o, none⟩)] ∧ Below w.heap.size w w' ∧ w'.heap.size = w.heap.size + 1 := by
  have hmf : ∀ (fn : Fn) (first cap : Array Value) (w : World), (Instr.makeFunc fn first cap).run Tryd.prog w = .ok (.func fn first cap) w := fun _ _ _ _ => rfl
  go_enter Tryd.func42, Tryd.ntmps42
  go_wp2
  go_ret
  exact ⟨rfl, BlkR.new w [.pointer (some ⟨g, o, none⟩)] _, step_alloc (Below.refl _ w) _, by simp⟩
end Go.Proofs.YtfopjilncfndnaaDoor
