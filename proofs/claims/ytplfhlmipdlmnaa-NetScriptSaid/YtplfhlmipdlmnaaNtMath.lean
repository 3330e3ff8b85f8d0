/-
  A net, by the document: plain mathematics. Conditions: none.
-/
import Derived.Test.YtplfhlmipdlmnaaBa
namespace Go.Proofs.Ytplfhlmipdlmnaa

namespace Nt
/-- a datagram on its way -/
structure Pk where
  fr : Nat
  to : Nat
  b : List UInt8
/-- a net: which links are cut (by three times the one and the other), what is on its way, how many were lost -/
structure N where
  down : Nat → Bool
  way : List Pk
  lost : Nat
def new : N := ⟨fun _ => false, [], 0⟩
/-- is there such a link? -/
def link (i j : Int) : Bool := decide (0 ≤ i) && decide (i < 3) && decide (0 ≤ j) && decide (j < 3) && decide (i ≠ j)
theorem link_iff {i j : Int} : link i j = true ↔ 0 ≤ i ∧ i < 3 ∧ 0 ≤ j ∧ j < 3 ∧ i ≠ j := by
  unfold link
  simp only [Bool.and_eq_true, decide_eq_true_eq]
  exact ⟨fun ⟨⟨⟨⟨a, b⟩, c⟩, d⟩, e⟩ => ⟨a, b, c, d, e⟩, fun ⟨a, b, c, d, e⟩ => ⟨⟨⟨⟨a, b⟩, c⟩, d⟩, e⟩⟩
def at_ (i j : Int) : Nat := 3 * i.toNat + j.toNat
def N.full (s : N) : Bool := decide (s.way.length = 4096)
def N.sendE (i j : Int) (n : Nat) : Int := if link i j = false then 2 else if 512 < n then 3 else 0
def N.send (s : N) (i j : Int) (b : List UInt8) : N :=
  if N.sendE i j b.length ≠ 0 then s else if s.down (at_ i j) = true ∨ s.way.length = 4096 then { s with lost := s.lost + 1 } else { s with way := s.way ++ [⟨i.toNat, j.toNat, b⟩] }
/-- is there an i-th one? -/
def N.has (s : N) (i : Int) : Bool := decide (0 ≤ i) && decide (i < s.way.length)
theorem has_iff {s : N} {i : Int} : s.has i = true ↔ 0 ≤ i ∧ i < s.way.length := by
  unfold N.has
  simp only [Bool.and_eq_true, decide_eq_true_eq]
def N.take (s : N) (k : Nat) : N := { s with way := s.way.eraseIdx k }
def N.drop (s : N) (k : Nat) : N := { s with way := s.way.eraseIdx k, lost := s.lost + 1 }
def N.push (s : N) (p : Pk) : N := { s with way := s.way ++ [p] }
def N.clear (s : N) : N := { s with way := [], lost := s.lost + s.way.length }
def upd (d : Nat → Bool) (k : Nat) (x : Bool) : Nat → Bool := fun j => if j = k then x else d j
def N.cut (s : N) (i j : Int) (is : Bool) : N := if link i j = true then { s with down := upd s.down (at_ i j) is } else s
/-- what a datagram may be -/
structure Pk.Ok (p : Pk) : Prop where
  fr : p.fr < 3
  to : p.to < 3
  b : p.b.length ≤ 512
structure N.Ok (s : N) : Prop where
  many : s.way.length ≤ 4096
  pk : ∀ p ∈ s.way, p.Ok
theorem new_ok : new.Ok := ⟨Nat.zero_le _, fun _ h => by cases h⟩
theorem take_ok {s : N} (h : s.Ok) (k : Nat) : (s.take k).Ok := ⟨Nat.le_trans (List.length_eraseIdx_le _ _) h.many, fun p hp => h.pk p (List.mem_of_mem_eraseIdx hp)⟩
theorem drop_ok {s : N} (h : s.Ok) (k : Nat) : (s.drop k).Ok := ⟨Nat.le_trans (List.length_eraseIdx_le _ _) h.many, fun p hp => h.pk p (List.mem_of_mem_eraseIdx hp)⟩
theorem push_ok {s : N} (h : s.Ok) {p : Pk} (hp : p.Ok) (hf : s.way.length ≠ 4096) : (s.push p).Ok := by
  refine ⟨?_, fun q hq => ?_⟩
  · have := h.many
    show (s.way ++ [p]).length ≤ _
    rw [List.length_append, List.length_singleton]; omega
  · rcases List.mem_append.1 hq with hq | hq
    · exact h.pk q hq
    · rw [List.mem_singleton.1 hq]; exact hp
theorem clear_ok (s : N) : s.clear.Ok := ⟨Nat.zero_le _, fun _ h => by cases h⟩
theorem cut_ok {s : N} (h : s.Ok) (i j : Int) (is : Bool) : (s.cut i j is).Ok := by
  unfold N.cut
  split
  · exact ⟨h.many, h.pk⟩
  · exact h
theorem send_ok {s : N} (h : s.Ok) (i j : Int) (b : List UInt8) : (s.send i j b).Ok := by
  unfold N.send
  split
  · exact h
  · rename_i g1
    split
    · exact ⟨h.many, h.pk⟩
    · rename_i g2
      simp only [not_or] at g2
      have hl : link i j = true := by
        cases hh : link i j
        · exact absurd (by unfold N.sendE; rw [if_pos hh]; decide) g1
        · rfl
      have h5 : ¬ 512 < b.length := fun hh => g1 (by unfold N.sendE; rw [if_neg (by rw [hl]; decide), if_pos hh]; decide)
      obtain ⟨a1, a2, a3, a4, _⟩ := link_iff.1 hl
      exact push_ok h (p := ⟨i.toNat, j.toNat, b⟩) ⟨by show i.toNat < 3; omega, by show j.toNat < 3; omega, by show b.length ≤ 512; omega⟩ g2.2
end Nt
end Go.Proofs.Ytplfhlmipdlmnaa
