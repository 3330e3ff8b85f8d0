/-
  A call of a script: Read. Conditions: a disk's methods do what the document says (Disks).
-/
import Derived.Test.YtmkibkafccgmgaaScAct
import Derived.Test.YtmkibkafccgmgaaKitSame
namespace Go.Proofs.Ytmkibkafccgmgaa
open Go.RowKit

section
variable {At : World → Nat → (Nat → Prop) → DS → Prop} (D : Disks Try.prog At)
include D
set_option maxRecDepth 100000 in
set_option maxHeartbeats 4000000 in
theorem act_read (w : World) (b c : Nat) (F G : Nat → Prop) (S : DS) (x : ActL) (A : Option Addr) (cb : Nat) (AK : Option Addr) (ck : Nat) (h : PairAt At w b c F G S) (ho : S.ops ≤ 1000000) (hx : ActOk w F G x A cb AK ck) (hk : x.kind = 2) :
    Calls Try.prog 15 #[pairV b c, actV x A cb AK ck] w (ActPost At S b c F G w) := by
  obtain ⟨kd, xn, xa, xm, xb, xk⟩ := x
  obtain rfl : kd = 2 := hk
  obtain ⟨hP, hX, hB1, hs1⟩ := box_facts w [.pointer (some ⟨b, 0, none⟩), .pointer (some ⟨c, 0, none⟩)] [.int .i64 2, .int .i64 xn, .int .i64 xa, .int .u8 (xm.toNat : Int), .slice A xb.length cb, .slice AK xk.length ck]
  have HD := Lib.hid (And.intro h (And.intro ho hx))
  clear h ho hx
  go_enter Try.func15, Try.ntmps15
  have y0 := hX.cell (k := 0) rfl
  go_wp2_with fail
  revert hP hX hB1 hs1 y0
  generalize ((w.alloc (.cells #[.pointer (some ⟨b, 0, none⟩), .pointer (some ⟨c, 0, none⟩)] 33)).alloc (.cells #[.int .i64 2, .int .i64 xn, .int .i64 xa, .int .u8 (xm.toNat : Int), .slice A xb.length cb, .slice AK xk.length ck] 39)) = w1
  intro hP hX hB1 hs1 y0
  obtain ⟨h, ho, hx⟩ := HD.out
  have hFl : ∀ k, F k → k < w.heap.size := D.lt _ _ _ _ h.d
  have hGl : ∀ k, G k → k < w.heap.size := h.m.lt
  have h1 := h.step D hB1
  have z3 := D.read w1 b F S xn h1.d
  have z4 : ∀ w2, Below w1.heap.size w1 w2 → _ := fun w2 hB => mRead w2 c G S xn (h1.m.step hB)
  have h100 : (S.readB xn).length ≤ 64 := by
    unfold DS.readB
    split
    · exact Nat.zero_le _
    · split
      · exact Nat.zero_le _
      · rename_i h0 h2
        have hk := (S.there_iff xn).1 (by simpa using h2)
        have hok := D.ok _ _ _ _ h.d
        unfold DS.last
        cases hl : S.loose xn.toNat with
        | none => exact Nat.le_of_eq (hok.firm _ (by omega))
        | some l => exact Nat.le_of_eq (hok.loose _ l hl).2
  obtain ⟨rb, hrb⟩ : ∃ x, x = S.readB xn := ⟨_, rfl⟩
  obtain ⟨re, hre⟩ : ∃ x, x = S.readE xn := ⟨_, rfl⟩
  rw [← hrb] at z3 z4 h100
  rw [← hre] at z3 z4
  refine z3.mono ?_
  rintro e w2 ⟨A2, c2, rfl, hR, hB2⟩
  have y1 := (hP.step hB2).cell (k := 1) rfl
  have x1 := (hX.step hB2).cell (k := 1) rfl
  have hra := hR.bytes
  have z4 := z4 w2 hB2
  have h100' := Lib.hid h100
  have HP := Lib.hid (And.intro hFl hGl)
  obtain ⟨n, hn⟩ : ∃ n, n = rb.length := ⟨_, rfl⟩
  rw [← hn] at z4 ⊢
  replace hn := Lib.hid hn
  clear hrb hre z3 hP hX y0 h100 hFl hGl
  rcases hR with ⟨rfl, rfl, rfl⟩ | ⟨g, E, rfl, hg, hb, hcl⟩
  · have zo := over_nil
    obtain rfl : n = 0 := by rw [hn.out]; rfl
    go_wp2_with (first
      | (go_at_call 41; refine z4.mono ?_; (rintro e w3 ⟨A3, c3, rfl, ho3, hB3⟩; have S1 := sameBytes_any none [] 0 0 rfl A3 [] 0 c3 rfl w3.heap.size w3 (hra.step hB3) ho3.bytes))
      | (go_at_call 42; refine S1.mono ?_; (rintro e w4 ⟨rfl, rfl⟩))
      | (go_at_call 39; refine (zo _).mono ?_; (rintro e w5 ⟨rfl, rfl⟩)))
    go_ret
    have hp3 := (h1.step D hB2).step D hB3
    exact ⟨S, F, G, by simp, hp3, Nat.le_succ _, fun k hk => .inl hk, fun k hk => .inl hk, Frame.of_below (step_trans (step_trans hB1 hB2) hB3)⟩
  · have hln : rb.length = n := hn.out.symm
    have hcn : c2 = n := by rw [hcl, hln]
    subst hcn
    have HB := Lib.hid (And.intro hb (And.intro hg hln))
    clear hb hg hln hcl
    go_wp2_with (first
      | (go_at_call 41; refine z4.mono ?_; (rintro e w3 ⟨A3, c3, rfl, ho3, hB3⟩; have S1 := sameBytes_any (some ⟨g, 0, none⟩) rb c2 c2 HB.out.2.2 A3 rb c2 c3 HB.out.2.2 w3.heap.size w3 (hra.step hB3) ho3.bytes; have zo := over_gen E g rb c2 c2 HB.out.2.2 (by have := h100'.out; have := HB.out.2.2; omega) w3 (HB.out.1.step hB3)))
      | (go_at_call 42; refine S1.mono ?_; (rintro e w4 ⟨rfl, rfl⟩))
      | (go_at_call 39; refine zo.mono ?_; (rintro e w5 ⟨rfl, hr5⟩)))
    have hg := HB.out.2.1
    have hFl := HP.out.1
    have hGl := HP.out.2
    have hs1' := hB1.size
    go_ret
    have hp3 := (h1.step D hB2).step D hB3
    exact ⟨S, F, G, by simp, hp3.frame D hr5 (fun k hk e => by subst e; have := hFl _ hk; omega) (fun k hk e => by subst e; have := hGl _ hk; omega), Nat.le_succ _, fun k hk => .inl hk, fun k hk => .inl hk, (Frame.of_below (F := fun k => F k ∨ G k) (step_trans (step_trans hB1 hB2) hB3)).trans hr5 (fun k hk => .inr (by omega))⟩
end
end Go.Proofs.Ytmkibkafccgmgaa
