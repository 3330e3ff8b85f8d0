/-
  A disk beside the document's own, of one state: do both tell the same of themselves. Conditions: a disk's methods do what the document says (Disks).
-/
import Derived.Test.YtmkibkafccgmgaaDiskKit
import Derived.Test.YtmkibkafccgmgaaMirCrash
import Derived.Test.YtmkibkafccgmgaaMirClone
import Derived.Test.YtmkibkafccgmgaaKitIntsS
import Derived.Test.YtmkibkafccgmgaaKitOverG
import Derived.Test.YtmkibkafccgmgaaKitBools
import Derived.Deep.RegionHeld3
namespace Go.Proofs.Ytmkibkafccgmgaa
open Go.RowKit

/-- a disk at b, in the blocks F, and the document's at c, in the blocks G: both of state S -/
structure PairAt (At : World → Nat → (Nat → Prop) → DS → Prop) (w : World) (b c : Nat) (F G : Nat → Prop) (S : DS) : Prop where
  d : At w b F S
  m : Mir w c G S
  apart : ∀ k, F k → ¬ G k
abbrev pairV (b c : Nat) : Value := .agg #[.pointer (some ⟨b, 0, none⟩), .pointer (some ⟨c, 0, none⟩)]
section
variable {At : World → Nat → (Nat → Prop) → DS → Prop} (D : Disks Try.prog At)
include D
theorem PairAt.step {w w' : World} {b c : Nat} {F G : Nat → Prop} {S : DS} (h : PairAt At w b c F G S) (hb : Below w.heap.size w w') : PairAt At w' b c F G S := ⟨At_step D h.d hb, h.m.step hb, h.apart⟩
theorem PairAt.frame {w w' : World} {b c : Nat} {F G X : Nat → Prop} {S : DS} (h : PairAt At w b c F G S) (hFr : Frame X w w') (h1 : ∀ k, F k → ¬ X k) (h2 : ∀ k, G k → ¬ X k) : PairAt At w' b c F G S := ⟨At_frame D h.d hFr h1, h.m.frame hFr h2, h.apart⟩
set_option maxRecDepth 100000 in
set_option maxHeartbeats 2000000 in
theorem alike_any (w : World) (b c : Nat) (F G : Nat → Prop) (S : DS) (h : PairAt At w b c F G S) (ho : S.ops ≤ 1000000) : Calls Try.prog 16 #[pairV b c] w fun e w' => e = .returned (.bool true) ∧ Below w.heap.size w w' := by
  obtain ⟨hd, hm, _⟩ := h
  have hB1 : Below w.heap.size w (w.alloc (.cells #[.pointer (some ⟨b, 0, none⟩), .pointer (some ⟨c, 0, none⟩)] 33)) := (Below.refl _ _).alloc (Nat.le_refl _) _
  have hP : BlkR 33 (w.alloc (.cells #[.pointer (some ⟨b, 0, none⟩), .pointer (some ⟨c, 0, none⟩)] 33)) w.heap.size [.pointer (some ⟨b, 0, none⟩), .pointer (some ⟨c, 0, none⟩)] := BlkR.new w _ _
  have HD := Lib.hid (And.intro hd (And.intro hm ho))
  clear hd hm ho
  go_enter Try.func16, Try.ntmps16
  go_wp2
  revert hB1 hP
  generalize (w.alloc (.cells #[.pointer (some ⟨b, 0, none⟩), .pointer (some ⟨c, 0, none⟩)] 33)) = w1
  intro hB1 hP
  have hdr : Below w1.heap.size w1 w1.drew := (Below.refl _ _).drew
  have hat : ∀ w', Below w1.heap.size w1 w' → At w' b F S ∧ Mir w' c G S := fun w' hB => ⟨At_step D (At_step D HD.out.1 hB1) hB, (HD.out.2.1.step hB1).step hB⟩
  obtain ⟨g0, g1, c0, c1, xs, ys, hM1⟩ := HD.out.2.1.step hB1
  have hS : ∀ w', Below w1.heap.size w1 w' → w'.cell? ⟨w.heap.size, 0, none⟩ = some (.pointer (some ⟨b, 0, none⟩)) ∧ w'.cell? ⟨w.heap.size, 1, none⟩ = some (.pointer (some ⟨c, 0, none⟩)) ∧ w'.cell? ⟨c, 0, none⟩ = some (.slice (some ⟨g0, 0, none⟩) S.n c0) ∧ w'.cell? ⟨c, 2, none⟩ = some (.bool S.out) ∧ w'.cell? ⟨c, 4, none⟩ = some (.int .i64 (S.ops : Int)) := fun w' hB => by
    have hP' := hP.step hB
    have hM' := hM1.step hB
    exact ⟨hP'.cell rfl, hP'.cell rfl, hM'.cell0, hM'.cell2, hM'.cell4⟩
  have zUp : ∀ w', Below w1.heap.size w1 w' → _ := fun w' hB => D.up w' b F S (hat w' hB).1
  have zSe : ∀ w', Below w1.heap.size w1 w' → _ := fun w' hB => D.sectors w' b F S (hat w' hB).1
  have zOp : ∀ w', Below w1.heap.size w1 w' → _ := fun w' hB => D.ops w' b F S (hat w' hB).1 HD.out.2.2
  have zLo : ∀ w', Below w1.heap.size w1 w' → _ := fun w' hB => D.loose w' b F S (hat w' hB).1
  have zMo : ∀ w', Below w1.heap.size w1 w' → _ := fun w' hB => mLoose w' c G S (hat w' hB).2
  have hlen : S.looseList.length ≤ 10000000 := by
    have := (D.ok _ _ _ _ HD.out.1).n2
    have := S.looseBelow_len
    unfold DS.looseList
    rw [List.length_map]
    omega
  obtain ⟨n, hn⟩ : ∃ x, x = S.n := ⟨_, rfl⟩
  obtain ⟨ou, hou⟩ : ∃ x, x = S.out := ⟨_, rfl⟩
  obtain ⟨op, hop⟩ : ∃ x, x = S.ops := ⟨_, rfl⟩
  obtain ⟨L, hL⟩ : ∃ x, x = S.looseList := ⟨_, rfl⟩
  rw [← hL] at zLo zMo hlen
  rw [← hn] at zSe
  rw [← hop] at zOp
  rw [← hou] at zUp
  rw [← hn, ← hou, ← hop] at hS
  obtain ⟨N, hN⟩ : ∃ x, x = L.length := ⟨_, rfl⟩
  rw [← hN] at zLo zMo
  have HH := Lib.hid (And.intro hlen hN)
  replace hS := Lib.hid hS
  clear hn hou hop hL hM1 hP HD hat hN hlen
  go_region_held3 (fun w' => w'.cell? ⟨w.heap.size, 0, none⟩ = some (.pointer (some ⟨b, 0, none⟩)) ∧ w'.cell? ⟨w.heap.size, 1, none⟩ = some (.pointer (some ⟨c, 0, none⟩)) ∧ w'.cell? ⟨c, 0, none⟩ = some (.slice (some ⟨g0, 0, none⟩) n c0) ∧ w'.cell? ⟨c, 2, none⟩ = some (.bool ou) ∧ w'.cell? ⟨c, 4, none⟩ = some (.int .i64 (op : Int))) (first | exact hS.out _ (by assumption)) (first
    | (go_at_call 23; refine (zUp _ (by assumption)).mono ?_; (rintro e w2 ⟨rfl, hB2⟩; have hB2 := step_trans hdr hB2))
    | (go_at_call 24; refine (zSe _ (by assumption)).mono ?_; (rintro e w3 ⟨rfl, hB3⟩; have hB3 := step_trans hB2 hB3))
    | (go_at_call 25; refine (zOp _ (by assumption)).mono ?_; (rintro e w4 ⟨rfl, hB4⟩; have hB4 := step_trans hB3 hB4))
    | (go_at_call 26; refine (zLo _ (by assumption)).mono ?_; (rintro e w5 ⟨A5, c5, rfl, hc5, hr5, hB5⟩; have hB5 := step_trans hB4 hB5))
    | (go_at_call 49; refine (zMo _ (by assumption)).mono ?_; (rintro e w6 ⟨A6, c6, rfl, hc6, ho6, hB6⟩; have hr6 := (hr5.below hB6).more hB6.size; have hr7 := ho6.row; have hB6 := step_trans hB5 hB6))
    | (go_at_call 48; refine (sameInts_any A5 L N c5 HH.out.2.symm A6 L N c6 HH.out.2.symm w6.heap.size w6 hr6 hr7 HH.out.1).mono ?_; (rintro e w7 ⟨rfl, n7, rfl⟩; have hB7 : Below w1.heap.size w1 (w6.drewN n7) := belowDN hB6 n7)))
  go_wp2
  go_ret
  exact ⟨by simp, step_trans hB1 hB7⟩
theorem pair_two {w w2 w3 w4 : World} {b c : Nat} {F G F1 G1 : Nat → Prop} {S T : DS} (h : PairAt At w b c F G S) (B2 : Below w.heap.size w w2) (a3 : At w3 b F1 T) (f1 : ∀ k, F1 k → F k ∨ w2.heap.size ≤ k) (r3 : Frame F w2 w3)
    (m4 : Mir w4 c G1 T) (g1 : ∀ k, G1 k → G k ∨ w3.heap.size ≤ k) (r4 : Frame G w3 w4) : PairAt At w4 b c F1 G1 T ∧ (∀ k, G1 k → G k ∨ w2.heap.size ≤ k) ∧ Frame (fun k => F k ∨ G k) w w4 := by
  have hs := B2.size
  have hs3 := r3.size
  have hG : ∀ k, G k → k < w.heap.size := h.m.lt
  have hF : ∀ k, F k → k < w.heap.size := D.lt _ _ _ _ h.d
  have h3 : ∀ k, F1 k → k < w3.heap.size := D.lt _ _ _ _ a3
  refine ⟨⟨At_frame D a3 r4 (fun k hk hg => ?_), m4, fun k hk hg => ?_⟩, fun k hk => (g1 k hk).imp id (fun h => Nat.le_trans hs3 h), ?_⟩
  · have := hG k hg
    rcases f1 k hk with hf | hf
    · exact h.apart k hf hg
    · omega
  · have := h3 k hk
    rcases f1 k hk with hf | hf <;> rcases g1 k hg with hg | hg
    · exact h.apart k hf hg
    · have := hF k hf; omega
    · have := hG k hg; omega
    · omega
  · exact ((Frame.of_below (F := fun k => F k ∨ G k) B2).trans r3 (fun k hk => .inl (.inl hk))).trans r4 (fun k hk => .inl (.inr hk))
theorem pair_two' {w w2 w3 w4 : World} {b c : Nat} {F G F1 G1 : Nat → Prop} {S T : DS} (h : PairAt At w b c F G S) (B2 : Below w.heap.size w w2) (m3 : Mir w3 c G1 T) (g1 : ∀ k, G1 k → G k ∨ w2.heap.size ≤ k) (r3 : Frame G w2 w3)
    (a4 : At w4 b F1 T) (f1 : ∀ k, F1 k → F k ∨ w3.heap.size ≤ k) (r4 : Frame F w3 w4) : PairAt At w4 b c F1 G1 T ∧ (∀ k, F1 k → F k ∨ w2.heap.size ≤ k) ∧ Frame (fun k => F k ∨ G k) w w4 := by
  have hs := B2.size
  have hs3 := r3.size
  have hG : ∀ k, G k → k < w.heap.size := h.m.lt
  have hF : ∀ k, F k → k < w.heap.size := D.lt _ _ _ _ h.d
  have h3 : ∀ k, G1 k → k < w3.heap.size := m3.lt
  refine ⟨⟨a4, m3.frame r4 (fun k hk hf => ?_), fun k hk hg => ?_⟩, fun k hk => (f1 k hk).imp id (fun h => Nat.le_trans hs3 h), ?_⟩
  · have := hF k hf
    rcases g1 k hk with hg | hg
    · exact h.apart k hf hg
    · omega
  · have := h3 k hg
    rcases f1 k hk with hf | hf <;> rcases g1 k hg with hg | hg
    · exact h.apart k hf hg
    · have := hF k hf; omega
    · have := hG k hg; omega
    · omega
  · exact ((Frame.of_below (F := fun k => F k ∨ G k) B2).trans r3 (fun k hk => .inl (.inr hk))).trans r4 (fun k hk => .inl (.inl hk))
end
end Go.Proofs.Ytmkibkafccgmgaa
