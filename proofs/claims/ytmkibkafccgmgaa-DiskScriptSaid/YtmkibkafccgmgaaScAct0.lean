/-
  A call of a script: Write. Conditions: a disk's methods do what the document says (Disks).
-/
import Derived.Test.YtmkibkafccgmgaaScAct
import Derived.Test.YtmkibkafccgmgaaKitLent
import Derived.Test.YtmkibkafccgmgaaKitSame
namespace Go.Proofs.Ytmkibkafccgmgaa
open Go.RowKit

section
variable {At : World → Nat → (Nat → Prop) → DS → Prop} (D : Disks Try.prog At)
include D
set_option maxRecDepth 100000 in
set_option maxHeartbeats 4000000 in
theorem act_write (w : World) (b c : Nat) (F G : Nat → Prop) (S : DS) (x : ActL) (A : Option Addr) (cb : Nat) (AK : Option Addr) (ck : Nat) (h : PairAt At w b c F G S) (ho : S.ops ≤ 1000000) (hx : ActOk w F G x A cb AK ck) (hk : x.kind = 0) :
    Calls Try.prog 15 #[pairV b c, actV x A cb AK ck] w (ActPost At S b c F G w) := by
  obtain ⟨kd, xn, xa, xm, xb, xk⟩ := x
  obtain rfl : kd = 0 := hk
  obtain ⟨hP, hX, hB1, hs1⟩ := box_facts w [.pointer (some ⟨b, 0, none⟩), .pointer (some ⟨c, 0, none⟩)] [.int .i64 0, .int .i64 xn, .int .i64 xa, .int .u8 (xm.toNat : Int), .slice A xb.length cb, .slice AK xk.length ck]
  have HD := Lib.hid (And.intro h (And.intro ho hx))
  clear h ho hx
  go_enter Try.func15, Try.ntmps15
  have y0 := hX.cell (k := 0) rfl
  go_wp2_with fail
  revert hP hX hB1 hs1 y0
  generalize ((w.alloc (.cells #[.pointer (some ⟨b, 0, none⟩), .pointer (some ⟨c, 0, none⟩)] 33)).alloc (.cells #[.int .i64 0, .int .i64 xn, .int .i64 xa, .int .u8 (xm.toNat : Int), .slice A xb.length cb, .slice AK xk.length ck] 39)) = w1
  intro hP hX hB1 hs1 y0
  obtain ⟨h, ho, hx⟩ := HD.out
  have rb1 := hx.rb.step hB1
  have lb : xb.length ≤ 100 := hx.lb
  have hFl : ∀ k, F k → k < w.heap.size := D.lt _ _ _ _ h.d
  have hGl : ∀ k, G k → k < w.heap.size := h.m.lt
  refine (lentBytes_any A xb cb w1 (by omega) rb1).mono ?_
  rintro e w2 ⟨g, rfl, hg, hb2, hB2⟩
  have hs2 := hB2.size
  have B2d : Below w.heap.size w w2.drew := (step_trans hB1 hB2).drew
  have h2 := h.step D B2d
  have rin : BytesAt w2.drew w2.drew.heap.size (some ⟨g, 0, none⟩) xb := hb2.bytes xb ⟨_, rfl⟩ hb2.lt
  have rb2 : BytesAt w2.drew w2.drew.heap.size A xb := rb1.step hB2.drew
  have hS : ∀ w' : World, w'.heap[w.heap.size]? = w2.heap[w.heap.size]? → w'.heap[w.heap.size + 1]? = w2.heap[w.heap.size + 1]? → w'.cell? ⟨w.heap.size, 0, none⟩ = some (.pointer (some ⟨b, 0, none⟩)) ∧ w'.cell? ⟨w.heap.size, 1, none⟩ = some (.pointer (some ⟨c, 0, none⟩)) ∧ w'.cell? ⟨w.heap.size + 1, 1, none⟩ = some (.int .i64 xn) ∧ w'.cell? ⟨w.heap.size + 1, 4, none⟩ = some (.slice A xb.length cb) := fun w' e1 e2 => by
    have hP' : BlkR 33 w' w.heap.size _ := e1.trans (hP.step hB2)
    have hX' : BlkR 39 w' (w.heap.size + 1) _ := e2.trans (hX.step hB2)
    exact ⟨hP'.cell rfl, hP'.cell rfl, hX'.cell rfl, hX'.cell rfl⟩
  have eP0 : w2.drew.heap[w.heap.size]? = w2.heap[w.heap.size]? := rfl
  have eX0 : w2.drew.heap[w.heap.size + 1]? = w2.heap[w.heap.size + 1]? := rfl
  have z3 := D.write w2.drew b F S xn (some ⟨g, 0, none⟩) xb xb.length (xb.length + 3) h2.d ho rin rfl (by omega)
  have z4 : ∀ w3, Frame F w2.drew w3 → Calls Try.prog 37 #[.pointer (some ⟨c, 0, none⟩), .int .i64 xn, .slice A xb.length cb] w3 (MirPost (S.write xn xb).2 (S.write xn xb).1 c G w3) := fun w3 hr => by
    by_cases h64 : xb.length = 64
    · exact mWrite w3 c G S xn A xb xb.length cb (h2.m.frame hr (fun k hk hf => h.apart k hf hk)) ho (bytes_frame hr rb2 (fun hne ad e => (hx.ab hne ad e).1)) (fun ad e => (hx.ab (fun e => by rw [show xb = [] from e] at h64; simp at h64) ad e).2) rfl (by omega)
    · exact mWrite_no w3 c G S xn A xb xb.length cb (h2.m.frame hr (fun k hk hf => h.apart k hf hk)) rfl h64
  have z5 : ∀ w4, BlkB w4 g (lent xb) → BytesAt w4 w4.heap.size A xb → _ := fun w4 h1 h2 => keptBytes_yes g xb A cb w4 (by omega) h1 h2
  have hT := S.write_ops xn xb
  obtain ⟨T, hTe⟩ : ∃ T, T = (S.write xn xb).1 := ⟨_, rfl⟩
  obtain ⟨r, hre⟩ : ∃ r, r = (S.write xn xb).2 := ⟨_, rfl⟩
  rw [← hTe, ← hre] at z3 z4
  rw [← hTe] at hT
  clear hTe hre
  have HX := Lib.hid (And.intro hFl (And.intro hGl (And.intro hg (And.intro hb2 (And.intro rb2 (And.intro hx (And.intro hs1 hs2)))))))
  replace hS := Lib.hid hS
  clear hP hX hb2 rb1 rin rb2 hg hFl hGl hx lb hs2 h2
  have y4 := (hS.out w2 rfl rfl).2.2.2
  go_wp2_with fail
  go_region_held3 (fun w' => w'.cell? ⟨w.heap.size, 0, none⟩ = some (.pointer (some ⟨b, 0, none⟩)) ∧ w'.cell? ⟨w.heap.size, 1, none⟩ = some (.pointer (some ⟨c, 0, none⟩)) ∧ w'.cell? ⟨w.heap.size + 1, 1, none⟩ = some (.int .i64 xn) ∧ w'.cell? ⟨w.heap.size + 1, 4, none⟩ = some (.slice A xb.length cb)) (first | exact hS.out _ (by assumption) (by assumption)) (first
    | (go_at_call 18; refine z3.mono ?_; (rintro e w3 ⟨F1, rfl, ha3, hf1, hr3⟩; obtain ⟨hFl, hGl, hg, hb2, rb2, hx, hs1', hs2⟩ := HX.out; have hg2 := hb2.lt; have eP3 : w3.heap[w.heap.size]? = w2.heap[w.heap.size]? := hr3.block _ (show w.heap.size < w2.heap.size by omega) (fun hk => by have := hFl _ hk; omega); have eX3 : w3.heap[w.heap.size + 1]? = w2.heap[w.heap.size + 1]? := hr3.block _ (show w.heap.size + 1 < w2.heap.size by omega) (fun hk => by have := hFl _ hk; omega); have hb3 : BlkB w3 g (lent xb) := hr3.blk (show BlkB w2.drew g (lent xb) from hb2) (fun hk => by have := hFl _ hk; omega); have rb3 := bytes_frame hr3 rb2 (fun hne ad e => (hx.ab hne ad e).1); have hs3 := hr3.size; have H3 := Lib.hid (And.intro ha3 (And.intro hf1 (And.intro hr3 (And.intro hb3 rb3)))); clear ha3 hf1 hb3 rb3 hFl hGl hg hb2 rb2 hx hs1' hs2 hg2))
    | (go_at_call 37; refine (z4 _ hr3).mono ?_; (rintro e w4 ⟨G1, rfl, hm4, hg1, hr4⟩; obtain ⟨hFl, hGl, hg, hb2, rb2, hx, hs1', hs2⟩ := HX.out; have hg2 := hb2.lt; have hs3' : w2.heap.size ≤ w3.heap.size := hs3; have eP4 : w4.heap[w.heap.size]? = w2.heap[w.heap.size]? := (hr4.block _ (by omega) (fun hk => by have := hGl _ hk; omega)).trans eP3; have eX4 : w4.heap[w.heap.size + 1]? = w2.heap[w.heap.size + 1]? := (hr4.block _ (by omega) (fun hk => by have := hGl _ hk; omega)).trans eX3; have hb4 : BlkB w4 g (lent xb) := hr4.blk H3.out.2.2.2.1 (fun hk => by have := hGl _ hk; omega); have rb4 := bytes_frame hr4 H3.out.2.2.2.2 (fun hne ad e => (hx.ab hne ad e).2); have hs4 := hr4.size; have hz5 := z5 w4 hb4 rb4; have H4 := Lib.hid (And.intro hm4 (And.intro hg1 (And.intro hr4 hb4))); clear hm4 hg1 hr4 hb4 rb4 hFl hGl hg hb2 rb2 hx hs1' hs2 hg2 hs3'))
    | (go_at_call 38; refine hz5.mono ?_; (rintro e w5 ⟨rfl, hB5⟩; have hsz : w.heap.size + 1 < w4.heap.size := (by have := HX.out.2.2.2.2.2.2.1; have := HX.out.2.2.2.2.2.2.2; have hs3' : w2.heap.size ≤ w3.heap.size := hs3; omega); have eP5 : w5.heap[w.heap.size]? = w2.heap[w.heap.size]? := (hB5.block _ (by omega)).trans eP4; have eX5 : w5.heap[w.heap.size + 1]? = w2.heap[w.heap.size + 1]? := (hB5.block _ hsz).trans eX4; have hb5 : BlkB w5 g (lent xb) := H4.out.2.2.2.step hB5)))
  have z6 := over_gen 5 g (lent xb) xb.length (xb.length + 3) (by simp [lent, marks]) (by have := HX.out.2.2.2.2.2.1.lb; have e : xb.length ≤ 100 := this; omega) w5 hb5
  go_wp2_with (go_at_call 39; refine z6.mono ?_; (rintro e w6 ⟨rfl, hr6⟩))
  go_ret
  obtain ⟨hFl, hGl, hg, hb2, rb2, hx, hs1', hs2⟩ := HX.out
  obtain ⟨ha3, hf1, hr3, _, _⟩ := H3.out
  obtain ⟨hm4, hg1, hr4, _⟩ := H4.out
  obtain ⟨hp4, hg1', hfr4⟩ := pair_two D h B2d ha3 hf1 hr3 hm4 hg1 hr4
  have hg2 := hb2.lt
  have hp5 := hp4.step D hB5
  have hf1' : ∀ k, F1 k → F k ∨ w2.heap.size ≤ k := hf1
  have hg1'' : ∀ k, G1 k → G k ∨ w2.heap.size ≤ k := hg1'
  have hp6 := hp5.frame D hr6 (fun k hk e => by subst e; rcases hf1' k hk with h | h; (have := hFl k h; omega); omega) (fun k hk e => by subst e; rcases hg1'' k hk with h | h; (have := hGl k h; omega); omega)
  have hsz2 : w.heap.size ≤ w2.heap.size := by omega
  refine ⟨T, F1, G1, by simp, hp6, hT, fun k hk => (hf1' k hk).imp id (fun h => Nat.le_trans hsz2 h), fun k hk => (hg1'' k hk).imp id (fun h => Nat.le_trans hsz2 h), ?_⟩
  exact (hfr4.trans (Frame.of_below (F := fun k => F k ∨ G k) hB5) (fun k hk => .inl hk)).trans hr6 (fun k hk => .inr (by omega))
end
end Go.Proofs.Ytmkibkafccgmgaa
