/-
  The document's own: Get, by one contract. Conditions: the bytes can be read.
-/
import Derived.Test.YtfiijnpabmocdaaMgRefGet
namespace Go.Proofs.Ytfiijnpabmocdaa
open Go.RowKit Mg Fix

theorem num_byte (l : List UInt8) (i : Nat) (y : Int) (h : i < l.length) : (rOps l).num i y 1 255 = .ok (((l.getD i 0).toNat : Int), i + 1) := by
  have e : le ((l.drop i).take 1) = (l.getD i 0).toNat := by
    rw [List.drop_eq_getElem_cons h, List.take_succ_cons, List.take_zero]
    show (l[i]).toNat + 256 * 0 = _
    rw [List.getD_eq_getElem?_getD, List.getElem?_eq_getElem h]
    rfl
  have hb := (l.getD i 0).toNat_lt
  simp only [rOps]
  rw [if_pos (by omega), e, if_pos (by omega)]
theorem num_out (l : List UInt8) (i : Nat) (y : Int) (h : ¬ i < l.length) : (rOps l).num i y 1 255 = .no 4 l.length := by
  simp only [rOps]
  rw [if_neg (by omega)]
theorem got_short (l : List UInt8) (h : l.length < 2) : got l = .no 4 l.length := by
  unfold got
  by_cases h0 : 0 < l.length
  · rw [num_byte l 0 0 h0]
    show ((rOps l).num (0 + 1) 0 1 255).bind _ = _
    rw [num_out l (0 + 1) 0 (by omega)]
    rfl
  · rw [num_out l 0 0 h0]
    rfl
theorem got_two (K S : UInt8) (r : List UInt8) : got (K :: S :: r) = (Mg.carry (rOps (K :: S :: r)) (m0 (K.toNat : Int) (S.toNat : Int), 2)).bind fun s => if s.2 = (K :: S :: r).length then .ok s.1 else .no 4 s.2 := by
  unfold got
  rw [num_byte (K :: S :: r) 0 0 (by simp)]
  show ((rOps (K :: S :: r)).num (0 + 1) 0 1 255).bind _ = _
  rw [num_byte (K :: S :: r) (0 + 1) 0 (by simp)]
  rfl
theorem refMGet_any (A : Option Addr) (l : List UInt8) (n c : Nat) (hn : l.length = n) (hc : n ≤ c) (h1 : n ≤ 1000) (w : World) (hr : BytesAt w w.heap.size A l) : Calls Try.prog 15 #[.slice A n c] w (MgGetPost l w) := by
  by_cases h2 : n < 2
  · exact rg_short A l n c w h2 (by rw [got_short l (by omega), hn])
  match l, hn, hr with
  | K :: S :: r, hn, hr =>
    obtain ⟨ad, rfl, _⟩ := hr (by simp)
    have hg := got_two K S r
    cases hf : fields (K.toNat : Int) with
    | none =>
      have e : fls (K.toNat : Int) = [] := by unfold fls; rw [hf]; rfl
      refine rg_kind ad (K :: S :: r) n c w hr hn K S r rfl (by rw [e]; rfl) ?_
      rw [hg]
      unfold Mg.carry
      rw [show (m0 (K.toNat : Int) (S.toNat : Int)).kind = (K.toNat : Int) from rfl, hf]
      rfl
    | some fs =>
      have e : fls (K.toNat : Int) = fs := by unfold fls; rw [hf]; rfl
      have hne : (fls (K.toNat : Int)).isEmpty = false := by
        rw [e]
        have := fields_ne hf
        cases fs with
        | nil => exact absurd rfl this
        | cons a b => rfl
      have hcar : Mg.carry (rOps (K :: S :: r)) (m0 (K.toNat : Int) (S.toNat : Int), 2) = if 0 ≤ (S.toNat : Int) ∧ (S.toNat : Int) ≤ 2 then Mg.run (rOps (K :: S :: r)) (fs.flatMap parts) (m0 (K.toNat : Int) (S.toNat : Int), 2) else .no 5 1 := by
        unfold Mg.carry
        rw [show (m0 (K.toNat : Int) (S.toNat : Int)).kind = (K.toNat : Int) from rfl, hf]
        rfl
      rw [hcar] at hg
      by_cases h3 : 3 ≤ (S.toNat : Int)
      · rw [if_neg (by omega)] at hg
        exact rg_src ad (K :: S :: r) n c w hr hn K S r rfl hne h3 hg
      · rw [if_pos (by omega)] at hg
        exact rg_loop ad (K :: S :: r) n c w hr hn K S r rfl hne (by omega) hc h1 (by rw [e]; exact hg)
  | [], hn, _ => exact absurd hn (by simp; omega)
  | [x], hn, _ => exact absurd hn (by simp; omega)
end Go.Proofs.Ytfiijnpabmocdaa
