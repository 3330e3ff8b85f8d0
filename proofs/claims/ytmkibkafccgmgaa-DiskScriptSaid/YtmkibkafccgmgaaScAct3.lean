/-
  A call of a script: Crash. Conditions: a disk's methods do what the document says (Disks).
-/
import Derived.Test.YtmkibkafccgmgaaScAct
namespace Go.Proofs.Ytmkibkafccgmgaa
open Go.RowKit

section
variable {At : World → Nat → (Nat → Prop) → DS → Prop} (D : Disks Try.prog At)
include D
set_option maxRecDepth 100000 in
set_option maxHeartbeats 4000000 in
theorem act_crash (w : World) (b c : Nat) (F G : Nat → Prop) (S : DS) (x : ActL) (A : Option Addr) (cb : Nat) (AK : Option Addr) (ck : Nat) (h : PairAt At w b c F G S) (ho : S.ops ≤ 1000000) (hx : ActOk w F G x A cb AK ck) (hk : x.kind = 3) :
    Calls Try.prog 15 #[pairV b c, actV x A cb AK ck] w (ActPost At S b c F G w) := by
  obtain ⟨kd, xn, xa, xm, xb, xk⟩ := x
  obtain rfl : kd = 3 := hk
  obtain ⟨hP, hX, hB1, hs1⟩ := box_facts w [.pointer (some ⟨b, 0, none⟩), .pointer (some ⟨c, 0, none⟩)] [.int .i64 3, .int .i64 xn, .int .i64 xa, .int .u8 (xm.toNat : Int), .slice A xb.length cb, .slice AK xk.length ck]
  have HD := Lib.hid (And.intro h (And.intro ho hx))
  clear h ho hx
  go_enter Try.func15, Try.ntmps15
  have y0 := hX.cell (k := 0) rfl
  go_wp2_with fail
  revert hP hX hB1 hs1 y0
  generalize ((w.alloc (.cells #[.pointer (some ⟨b, 0, none⟩), .pointer (some ⟨c, 0, none⟩)] 33)).alloc (.cells #[.int .i64 3, .int .i64 xn, .int .i64 xa, .int .u8 (xm.toNat : Int), .slice A xb.length cb, .slice AK xk.length ck] 39)) = w1
  intro hP hX hB1 hs1 y0
  obtain ⟨h, ho, hx⟩ := HD.out
  have hFl : ∀ k, F k → k < w.heap.size := D.lt _ _ _ _ h.d
  have hGl : ∀ k, G k → k < w.heap.size := h.m.lt
  have rk1 : RowAt w1 w1.heap.size AK (bv xk) := (hx.rk.below hB1).more hB1.size
  have lk : xk.length ≤ 1030 := hx.lk
  refine (lentBools_any AK xk xk.length ck rfl w1 (by omega) rk1 elBool).mono ?_
  rintro e w2 ⟨g, rfl, hg, hb2, hB2⟩
  have hs2 := hB2.size
  have B2 := step_trans hB1 hB2
  have h2 := h.step D B2
  have rk2 : RowAt w2 w2.heap.size AK (bv xk) := (rk1.below hB2).more hB2.size
  have hS : ∀ w' : World, w'.heap[w.heap.size]? = w2.heap[w.heap.size]? → w'.heap[w.heap.size + 1]? = w2.heap[w.heap.size + 1]? → w'.cell? ⟨w.heap.size, 0, none⟩ = some (.pointer (some ⟨b, 0, none⟩)) ∧ w'.cell? ⟨w.heap.size, 1, none⟩ = some (.pointer (some ⟨c, 0, none⟩)) ∧ w'.cell? ⟨w.heap.size + 1, 2, none⟩ = some (.int .i64 xa) ∧ w'.cell? ⟨w.heap.size + 1, 5, none⟩ = some (.slice AK xk.length ck) := fun w' e1 e2 => by
    have hP' : BlkR 33 w' w.heap.size _ := e1.trans (hP.step hB2)
    have hX' : BlkR 39 w' (w.heap.size + 1) _ := e2.trans (hX.step hB2)
    exact ⟨hP'.cell rfl, hP'.cell rfl, hX'.cell rfl, hX'.cell rfl⟩
  have z3 := mCrash w2 c G S AK xk xk.length ck xa h2.m rk2 rfl (fun hne ad e => (hx.ak hne ad e).2)
  have z4 : ∀ w3, Frame G w2 w3 → RowAt w3 w3.heap.size (some ⟨g, 0, none⟩) (xk.map Value.bool) → _ := fun w3 hr hk => D.crash w3 b F S (some ⟨g, 0, none⟩) xk xk.length (xk.length + 3) xa (At_frame D h2.d hr (fun k hk hg => h.apart k hk hg)) hk rfl (by omega)
  have z5 : ∀ w4, BlkR 4 w4 g (bv (lentB3 xk)) → RowAt w4 w4.heap.size AK (bv xk) → _ := fun w4 h1 h2 => keptBools_yes g xk AK xk.length ck rfl w4 (by omega) h1 h2 elBool
  obtain ⟨T, hT⟩ : ∃ T, T = S.crash xk xa := ⟨_, rfl⟩
  have hTo : T.ops = S.ops := by rw [hT]; rfl
  rw [← hT] at z3 z4
  have HX := Lib.hid (And.intro hFl (And.intro hGl (And.intro hg (And.intro hb2 (And.intro rk2 (And.intro hx (And.intro hs1 hs2)))))))
  replace hS := Lib.hid hS
  replace hTo := Lib.hid hTo
  obtain ⟨p20, p21, x22, x25⟩ := hS.out w2 rfl rfl
  clear hP hX hb2 rk1 rk2 hg hFl hGl hx lk hs2 h2 hT y0
  go_wp2_with (first
    | (go_at_call 44; refine z3.mono ?_; (rintro e w3 ⟨G1, rfl, hm3, hg1, hr3⟩; obtain ⟨hFl, hGl, hg, hb2, rk2, hx, hs1', hs2⟩ := HX.out; have hg2 := hb2.lt; have eP3 : w3.heap[w.heap.size]? = w2.heap[w.heap.size]? := hr3.block _ (by omega) (fun hk => by have := hGl _ hk; omega); have eX3 : w3.heap[w.heap.size + 1]? = w2.heap[w.heap.size + 1]? := hr3.block _ (by omega) (fun hk => by have := hGl _ hk; omega); obtain ⟨p30, p31, x32, x35⟩ := hS.out w3 eP3 eX3; have hb3 : BlkR 4 w3 g (bv (lentB3 xk)) := hb2.frame hr3 (fun hk => by have := hGl _ hk; omega); have rk3 : RowAt w3 w3.heap.size AK (bv xk) := row_frame hr3 rk2 (fun hne ad e => (hx.ak hne ad e).2); have hz4 := z4 w3 hr3 (hb3.row ⟨bv (markB xk.length 3), by unfold lentB3 bv; rw [List.map_append]⟩ hb3.lt); have hs3 := hr3.size; have H3 := Lib.hid (And.intro hm3 (And.intro hg1 (And.intro hr3 (And.intro hb3 (And.intro rk3 (And.intro eP3 eX3)))))); clear hm3 hg1 hr3 hb3 rk3 eP3 eX3 hFl hGl hg hb2 rk2 hx hs1' hs2 hg2))
    | (go_at_call 20; refine hz4.mono ?_; (rintro e w4 ⟨F1, rfl, ha4, hf1, hr4⟩; obtain ⟨hFl, hGl, hg, hb2, rk2, hx, hs1', hs2⟩ := HX.out; have hg2 := hb2.lt; have eP4 : w4.heap[w.heap.size]? = w2.heap[w.heap.size]? := (hr4.block _ (by omega) (fun hk => by have := hFl _ hk; omega)).trans H3.out.2.2.2.2.2.1; have eX4 : w4.heap[w.heap.size + 1]? = w2.heap[w.heap.size + 1]? := (hr4.block _ (by omega) (fun hk => by have := hFl _ hk; omega)).trans H3.out.2.2.2.2.2.2; obtain ⟨p40, p41, x42, x45⟩ := hS.out w4 eP4 eX4; have hb4 : BlkR 4 w4 g (bv (lentB3 xk)) := H3.out.2.2.2.1.frame hr4 (fun hk => by have := hFl _ hk; omega); have rk4 := row_frame hr4 H3.out.2.2.2.2.1 (fun hne ad e => (hx.ak hne ad e).1); have hz5 := z5 w4 hb4 rk4; have H4 := Lib.hid (And.intro ha4 (And.intro hf1 hr4)); clear ha4 hf1 hr4 hb4 rk4 eP4 eX4 hFl hGl hg hb2 rk2 hx hs1' hs2 hg2))
    | (go_at_call 45; refine hz5.mono ?_; (rintro e w5 ⟨rfl, hB5⟩)))
  go_ret
  obtain ⟨hFl, hGl, hg, hb2, rk2, hx, hs1', hs2⟩ := HX.out
  obtain ⟨hm3, hg1, hr3, _⟩ := H3.out
  obtain ⟨ha4, hf1, hr4⟩ := H4.out
  obtain ⟨hp4, hf1', hfr4⟩ := pair_two' D h B2 hm3 hg1 hr3 ha4 hf1 hr4
  have hsz2 : w.heap.size ≤ w2.heap.size := by omega
  exact ⟨T, F1, G1, by simp, hp4.step D hB5, by rw [hTo.out]; exact Nat.le_succ _, fun k hk => (hf1' k hk).imp id (fun h => Nat.le_trans hsz2 h), fun k hk => (hg1 k hk).imp id (fun h => Nat.le_trans hsz2 h), hfr4.trans (Frame.of_below (F := fun k => F k ∨ G k) hB5) (fun k hk => .inl hk)⟩
end
end Go.Proofs.Ytmkibkafccgmgaa
