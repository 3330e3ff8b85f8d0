/-
  A call of a script: Fuse; a call of another kind. Conditions: a disk's methods do what the document says (Disks).
-/
import Derived.Test.YtmkibkafccgmgaaScAct
namespace Go.Proofs.Ytmkibkafccgmgaa
open Go.RowKit

section
variable {At : World → Nat → (Nat → Prop) → DS → Prop} (D : Disks Try.prog At)
include D
set_option maxRecDepth 100000 in
set_option maxHeartbeats 4000000 in
theorem act_fuse (w : World) (b c : Nat) (F G : Nat → Prop) (S : DS) (x : ActL) (A : Option Addr) (cb : Nat) (AK : Option Addr) (ck : Nat) (h : PairAt At w b c F G S) (ho : S.ops ≤ 1000000) (hx : ActOk w F G x A cb AK ck) (hk : x.kind = 5) :
    Calls Try.prog 15 #[pairV b c, actV x A cb AK ck] w (ActPost At S b c F G w) := by
  obtain ⟨kd, xn, xa, xm, xb, xk⟩ := x
  obtain rfl : kd = 5 := hk
  obtain ⟨hP, hX, hB1, hs1⟩ := box_facts w [.pointer (some ⟨b, 0, none⟩), .pointer (some ⟨c, 0, none⟩)] [.int .i64 5, .int .i64 xn, .int .i64 xa, .int .u8 (xm.toNat : Int), .slice A xb.length cb, .slice AK xk.length ck]
  have HD := Lib.hid (And.intro h (And.intro ho hx))
  clear h ho hx
  go_enter Try.func15, Try.ntmps15
  have y0 := hX.cell (k := 0) rfl
  go_wp2_with fail
  revert hP hX hB1 hs1 y0
  generalize ((w.alloc (.cells #[.pointer (some ⟨b, 0, none⟩), .pointer (some ⟨c, 0, none⟩)] 33)).alloc (.cells #[.int .i64 5, .int .i64 xn, .int .i64 xa, .int .u8 (xm.toNat : Int), .slice A xb.length cb, .slice AK xk.length ck] 39)) = w1
  intro hP hX hB1 hs1 y0
  obtain ⟨h, ho, hx⟩ := HD.out
  have hFl : ∀ k, F k → k < w.heap.size := D.lt _ _ _ _ h.d
  have hGl : ∀ k, G k → k < w.heap.size := h.m.lt
  have B2d : Below w.heap.size w w1.drew := hB1.drew
  have h2 := h.step D B2d
  have hS : ∀ w' : World, w'.heap[w.heap.size]? = w1.heap[w.heap.size]? → w'.heap[w.heap.size + 1]? = w1.heap[w.heap.size + 1]? → w'.cell? ⟨w.heap.size, 0, none⟩ = some (.pointer (some ⟨b, 0, none⟩)) ∧ w'.cell? ⟨w.heap.size, 1, none⟩ = some (.pointer (some ⟨c, 0, none⟩)) ∧ w'.cell? ⟨w.heap.size + 1, 1, none⟩ = some (.int .i64 xn) := fun w' e1 e2 => by
    have hP' : BlkR 33 w' w.heap.size _ := e1.trans hP
    have hX' : BlkR 39 w' (w.heap.size + 1) _ := e2.trans hX
    exact ⟨hP'.cell rfl, hP'.cell rfl, hX'.cell rfl⟩
  have eP0 : w1.drew.heap[w.heap.size]? = w1.heap[w.heap.size]? := rfl
  have eX0 : w1.drew.heap[w.heap.size + 1]? = w1.heap[w.heap.size + 1]? := rfl
  have z3 := D.fuse w1.drew b F S xn h2.d hx.nb.1 hx.nb.2
  have z4 : ∀ w3, Frame F w1.drew w3 → _ := fun w3 hr => mFuse w3 c G S xn (h2.m.frame hr (fun k hk hf => h.apart k hf hk)) hx.nb.1 hx.nb.2
  have hT := S.fuse_ops xn
  obtain ⟨T, hTe⟩ : ∃ T, T = (S.fuse xn).1 := ⟨_, rfl⟩
  obtain ⟨r, hre⟩ : ∃ r, r = (S.fuse xn).2 := ⟨_, rfl⟩
  rw [← hTe, ← hre] at z3 z4
  rw [← hTe] at hT
  clear hTe hre
  have HX := Lib.hid (And.intro hFl (And.intro hGl hs1))
  replace hS := Lib.hid hS
  clear hP hX hFl hGl hx h2
  go_region_held3 (fun w' => w'.cell? ⟨w.heap.size, 0, none⟩ = some (.pointer (some ⟨b, 0, none⟩)) ∧ w'.cell? ⟨w.heap.size, 1, none⟩ = some (.pointer (some ⟨c, 0, none⟩)) ∧ w'.cell? ⟨w.heap.size + 1, 1, none⟩ = some (.int .i64 xn)) (first | exact hS.out _ (by assumption) (by assumption)) (first
    | (go_at_call 22; refine z3.mono ?_; (rintro e w3 ⟨F1, rfl, ha3, hf1, hr3⟩; obtain ⟨hFl, hGl, hs1'⟩ := HX.out; have eP3 : w3.heap[w.heap.size]? = w1.heap[w.heap.size]? := hr3.block _ (show w.heap.size < w1.heap.size by omega) (fun hk => by have := hFl _ hk; omega); have eX3 : w3.heap[w.heap.size + 1]? = w1.heap[w.heap.size + 1]? := hr3.block _ (show w.heap.size + 1 < w1.heap.size by omega) (fun hk => by have := hFl _ hk; omega); have hs3 := hr3.size; have H3 := Lib.hid (And.intro ha3 (And.intro hf1 hr3)); clear ha3 hf1 hFl hGl hs1'))
    | (go_at_call 47; refine (z4 _ hr3).mono ?_; (rintro e w4 ⟨rfl, hm4, hr4⟩; obtain ⟨hFl, hGl, hs1'⟩ := HX.out; have hs3' : w1.heap.size ≤ w3.heap.size := hs3; have eP4 : w4.heap[w.heap.size]? = w1.heap[w.heap.size]? := (hr4.block _ (by omega) (fun hk => by have := hGl _ hk; omega)).trans eP3; have eX4 : w4.heap[w.heap.size + 1]? = w1.heap[w.heap.size + 1]? := (hr4.block _ (by omega) (fun hk => by have := hGl _ hk; omega)).trans eX3; have H4 := Lib.hid (And.intro hm4 hr4); clear hm4 hr4 hFl hGl hs1' hs3')))
  go_wp2
  go_ret
  obtain ⟨hFl, hGl, hs1'⟩ := HX.out
  obtain ⟨ha3, hf1, hr3'⟩ := H3.out
  obtain ⟨hm4, hr4⟩ := H4.out
  obtain ⟨hp4, hg1', hfr4⟩ := pair_two D h B2d ha3 hf1 hr3' hm4 (fun k hk => .inl hk) hr4
  have hsz2 : w.heap.size ≤ w1.heap.size := by omega
  exact ⟨T, F1, _, by simp, hp4, hT, fun k hk => (hf1 k hk).imp id (fun h => Nat.le_trans hsz2 h), fun k hk => (hg1' k hk).imp id (fun h => Nat.le_trans hsz2 h), hfr4⟩
set_option maxRecDepth 100000 in
set_option maxHeartbeats 4000000 in
theorem act_none (w : World) (b c : Nat) (F G : Nat → Prop) (S : DS) (x : ActL) (A : Option Addr) (cb : Nat) (AK : Option Addr) (ck : Nat) (h : PairAt At w b c F G S) (ho : S.ops ≤ 1000000) (hx : ActOk w F G x A cb AK ck) (hk : x.kind ≠ 0 ∧ x.kind ≠ 1 ∧ x.kind ≠ 2 ∧ x.kind ≠ 3 ∧ x.kind ≠ 4 ∧ x.kind ≠ 5) :
    Calls Try.prog 15 #[pairV b c, actV x A cb AK ck] w (ActPost At S b c F G w) := by
  obtain ⟨kd, xn, xa, xm, xb, xk⟩ := x
  have hk : kd ≠ 0 ∧ kd ≠ 1 ∧ kd ≠ 2 ∧ kd ≠ 3 ∧ kd ≠ 4 ∧ kd ≠ 5 := hk
  obtain ⟨hP, hX, hB1, hs1⟩ := box_facts w [.pointer (some ⟨b, 0, none⟩), .pointer (some ⟨c, 0, none⟩)] [.int .i64 kd, .int .i64 xn, .int .i64 xa, .int .u8 (xm.toNat : Int), .slice A xb.length cb, .slice AK xk.length ck]
  have HD := Lib.hid (And.intro h (And.intro ho hx))
  clear h ho hx
  go_enter Try.func15, Try.ntmps15
  have y0 := hX.cell (k := 0) rfl
  have t0 : (kd == 0) = false := by simpa using hk.1
  have t1 : (kd == 1) = false := by simpa using hk.2.1
  have t2 : (kd == 2) = false := by simpa using hk.2.2.1
  have t3 : (kd == 3) = false := by simpa using hk.2.2.2.1
  have t4 : (kd == 4) = false := by simpa using hk.2.2.2.2.1
  have t5 : (kd == 5) = false := by simpa using hk.2.2.2.2.2
  clear hk
  go_wp2
  go_ret
  obtain ⟨h, ho, hx⟩ := HD.out
  exact ⟨S, F, G, rfl, h.step D hB1, Nat.le_succ _, fun k hk => .inl hk, fun k hk => .inl hk, Frame.of_below hB1⟩
end
end Go.Proofs.Ytmkibkafccgmgaa
