/-
  A disk turned twice, crashed twice, flushed twice: plain mathematics; two disks that are read alike. Conditions: a disk's methods do what the document says (Disks).
-/
import Derived.Test.YtmkibkafccgmgaaDiskKeep
import Derived.Test.YtmkibkafccgmgaaDiskAwake
namespace Go.Proofs.Ytmkibkafccgmgaa
open Go.RowKit
namespace DS
section
variable {m d : Nat} {fl ll : List UInt8} {S : DS}
theorem Kep.read (h : Kep m d fl ll S) (k : Nat) (hk : k < m) : S.readE (k : Int) = 0 ∧ S.readB (k : Int) = sec (ll.getD k 0) := by
  have ht : S.there (k : Int) = true := there_nat S k (by rw [h.hn]; exact hk)
  unfold readE readB
  rw [h.out, ht, Int.toNat_natCast, h.last k hk]
  exact ⟨rfl, rfl⟩
theorem turn_there (S : DS) (i a : Nat) (hi : i < S.n) (ha : a < 64) (x : UInt8) : S.turn (i : Int) (a : Int) x = ({ S with firm := upd S.firm i ((S.firm i).set a ((S.firm i).getD a 0 ^^^ x)) }, 0) := by
  unfold turn
  rw [if_pos ⟨there_nat S i hi, by omega, by omega⟩]
  rfl
theorem set_back (l : List UInt8) (a : Nat) (x : UInt8) (ha : a < l.length) : (l.set a (l.getD a 0 ^^^ x)).set a ((l.set a (l.getD a 0 ^^^ x)).getD a 0 ^^^ x) = l := by
  have e1 : (l.set a (l.getD a 0 ^^^ x)).getD a 0 = l.getD a 0 ^^^ x := by rw [getD_set _ _ _ _ ha, if_pos rfl]
  have e2 : l.getD a 0 ^^^ x ^^^ x = l.getD a 0 := by
    apply UInt8.toNat_inj.1
    rw [UInt8.toNat_xor, UInt8.toNat_xor, Nat.xor_assoc, Nat.xor_self, Nat.xor_zero]
  rw [e1, e2, List.set_set]
  have e3 : l.getD a 0 = l[a] := by simp [ha]
  rw [e3]
  exact List.set_getElem_self ha
theorem Kep.turn_twice (h : Kep m d fl ll S) (i a : Nat) (hi : i < m) (ha : a < 64) (x : UInt8) :
    (S.turn (i : Int) (a : Int) x).2 = 0 ∧ ((S.turn (i : Int) (a : Int) x).1.turn (i : Int) (a : Int) x).2 = 0 ∧ Kep m d fl ll ((S.turn (i : Int) (a : Int) x).1.turn (i : Int) (a : Int) x).1 := by
  have hi' : i < S.n := by rw [h.hn]; exact hi
  have hl : (S.firm i).length = 64 := by rw [h.firm i hi, sec_length]
  have t2 := turn_there { S with firm := upd S.firm i ((S.firm i).set a ((S.firm i).getD a 0 ^^^ x)) } i a hi' ha x
  rw [turn_there S i a hi' ha x]
  show (0 : Int) = 0 ∧ (DS.turn { S with firm := upd S.firm i ((S.firm i).set a ((S.firm i).getD a 0 ^^^ x)) } (i : Int) (a : Int) x).2 = 0 ∧ Kep m d fl ll (DS.turn { S with firm := upd S.firm i ((S.firm i).set a ((S.firm i).getD a 0 ^^^ x)) } (i : Int) (a : Int) x).1
  rw [t2]
  have e : upd (upd S.firm i ((S.firm i).set a ((S.firm i).getD a 0 ^^^ x))) i ((upd S.firm i ((S.firm i).set a ((S.firm i).getD a 0 ^^^ x)) i).set a ((upd S.firm i ((S.firm i).set a ((S.firm i).getD a 0 ^^^ x)) i).getD a 0 ^^^ x)) = S.firm := by
    funext j
    unfold upd
    by_cases hj : j = i
    · subst hj
      simp only [if_true]
      exact set_back _ _ _ (by omega)
    · simp only [if_neg hj]
  refine ⟨rfl, rfl, h.hn, h.ops, h.left, h.out, h.lf, h.ll_, fun k hk => ?_, fun k hk => ?_⟩
  · show (upd _ _ _) k = _
    rw [e]
    exact h.firm k hk
  · show (S.loose k).getD ((upd _ _ _) k) = _
    rw [e]
    exact h.last k hk
theorem Kep.crash_none (h : Kep m d fl ll S) : Kep m d fl fl (S.crash [] 0) := by
  have e : (S.crash [] 0).firm = S.firm := by
    funext k
    show S.crashed [] 0 k = _
    unfold crashed stays
    simp
  refine ⟨h.hn, h.ops, rfl, rfl, h.lf, h.lf, fun k hk => ?_, fun k hk => ?_⟩
  · rw [e]; exact h.firm k hk
  · show ((S.crash [] 0).loose k).getD ((S.crash [] 0).firm k) = _
    rw [e]
    exact h.firm k hk
theorem Kep.crash_clean (h : Kep m d fl fl S) (hl : ∀ k, S.loose k = none) (keeps : List Bool) (tear : Int) : Kep m d fl fl (S.crash keeps tear) := by
  have e : (S.crash keeps tear).firm = S.firm := by
    funext k
    show S.crashed keeps tear k = _
    unfold crashed stays isLoose
    rw [hl k]
    simp
  refine ⟨h.hn, h.ops, rfl, rfl, h.lf, h.lf, fun k hk => ?_, fun k hk => ?_⟩
  · rw [e]; exact h.firm k hk
  · show ((S.crash keeps tear).loose k).getD ((S.crash keeps tear).firm k) = _
    rw [e]
    exact h.firm k hk
end
end DS
open DS
/-- no block of one is the other's -/
def Disj (F G : Nat → Prop) : Prop := ∀ k, F k → ¬ G k
theorem Disj.symm {F G : Nat → Prop} (h : Disj F G) : Disj G F := fun k hg hf => h k hf hg
theorem Disj.new {F G : Nat → Prop} {w : World} (hF : ∀ k, F k → w.heap.size ≤ k) (hG : ∀ k, G k → k < w.heap.size) : Disj F G := fun k hf hg => by have := hF k hf; have := hG k hg; omega
theorem Disj.next {F F' G : Nat → Prop} {w : World} (h : Disj F G) (hF : ∀ k, F' k → F k ∨ w.heap.size ≤ k) (hG : ∀ k, G k → k < w.heap.size) : Disj F' G := fun k hf hg => (hF k hf).elim (fun h' => h k h' hg) (fun h' => by have := hG k hg; omega)
section
variable {At : World → Nat → (Nat → Prop) → DS → Prop} (D : Disks Try.prog At)
include D
/-- a step that turns another disk -/
theorem At_else {w w' : World} {b : Nat} {F G : Nat → Prop} {S : DS} (h : At w b F S) (hFr : Frame G w w') (hd : Disj F G) : At w' b F S := At_frame D h hFr hd
theorem alike_any (w : World) (b c : Nat) (F G : Nat → Prop) (S T : DS) (m : Nat) (hm : m ≤ 1024) (hS : At w b F S) (hT : At w c G T) (h : ∀ k, k < m → S.readE (k : Int) = 0 ∧ T.readE (k : Int) = 0 ∧ S.readB (k : Int) = T.readB (k : Int)) :
    Calls Try.prog 30 #[.pointer (some ⟨b, 0, none⟩), .pointer (some ⟨c, 0, none⟩), .int .i64 (m : Int)] w fun e w' => e = .returned (.bool true) ∧ Below w.heap.size w w' := by
  go_enter Try.func30, Try.ntmps30
  go_wp2
  go_loopw [7] (fun iv wx => ∃ k : Nat, k ≤ m ∧ iv = .int .i64 (k : Int) ∧ Below w.heap.size w wx) (fun iv _ => m - (intOf iv).toNat)
  case atStart => exact ⟨0, Nat.zero_le _, rfl, Below.refl _ _⟩
  case round =>
    obtain ⟨k, hk, rfl, hB⟩ := hrel
    by_cases hkm : k < m
    · obtain ⟨e1, e2, e3⟩ := h k hkm
      have z1 := D.read wr b F S (k : Int) (At_step D hS hB)
      have z2 := fun w' (h' : Below wr.heap.size wr w') => D.read w' c G T (k : Int) (At_step D (At_step D hT hB) h')
      rw [e1] at z1
      rw [e2, ← e3] at z2
      generalize S.readB (k : Int) = rb at z1 z2
      clear h e1 e2 e3
      go_wp2_with (first
        | (go_at_call 17; first
          | ((with_reducible refine z1.mono ?_); (rintro e w1 ⟨A1, c1, rfl, ho1, hB1⟩))
          | ((with_reducible refine (z2 w1 hB1).mono ?_); (rintro e w2 ⟨A2, c2, rfl, ho2, hB2⟩; have S1 := same_yes A1 rb _ c1 rfl A2 rb _ c2 rfl w2 (ho1.bytes.step hB2) ho2.bytes rfl)))
        | (go_at_call 42; ((with_reducible refine S1.mono ?_); (rintro e w3 ⟨rfl, rfl⟩))))
      go_roundw
      case rel => exact ⟨k + 1, by omega, by go_num, hB.trans ((step_trans hB1 hB2).mono hB.size)⟩
      case measure => simp [intOf]; omega
    · obtain rfl : k = m := by omega
      go_wp2
      go_ret
      exact ⟨rfl, hB⟩
end
end Go.Proofs.Ytmkibkafccgmgaa
