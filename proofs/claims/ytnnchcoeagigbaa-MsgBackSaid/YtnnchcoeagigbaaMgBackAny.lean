/-
  MsgBack, whatever the message and the bytes. Conditions: the bytes can be read.
-/
import Derived.Test.YtnnchcoeagigbaaMgBackWalk
import Derived.Test.YtnnchcoeagigbaaShellMsg
namespace Go.Proofs.Ytnnchcoeagigbaa
open Go.ChangeShapes Go.WideShapes Go.ChangeAt Go.RowKit Go.Joins Go.Deep Mg

theorem back_any (m : M) (A : Option Addr) (c : Nat) (l : List UInt8) (D : Option Addr) (d : Nat) (x : Int) (u : UInt8) (w : World) (hwf : Wf m) (hr : BytesAt w w.heap.size A m.data) (hs : BytesAt w w.heap.size D l) (hld : l.length ≤ d) (hd : d ≤ 9223372036854775807) (hx : is64 x) :
    Calls Try.prog 5 #[mVal m A c, .slice D l.length d, .int .i64 x, .int .u8 (u.toNat : Int)] w fun e w' => e = .returned (.bool true) ∧ Below w.heap.size w w' := by
  by_cases h1 : (100 : Int) < (m.data.length : Int)
  · exact back_long m A c l D d x u w hr hs h1
  by_cases h2 : (200 : Int) < (l.length : Int)
  · exact back_long2 m A c l D d x u w hr hs h1 h2
  have hfl : ∀ e a, got l = .no e a → (e != 0) = true ∧ 0 ≤ a ∧ a ≤ (l.length : Int) := fun e a h => by
    obtain ⟨q1, q2, q3⟩ := got_no h
    refine ⟨?_, q1, q2⟩
    rcases q3 with rfl | rfl | rfl <;> rfl
  have hyl : ∀ Y, got l = .ok Y → Mg.putB Y = l ∧ Mg.putE Y = 0 ∧ Wf Y := fun Y h => by
    have hp := got_back h
    refine ⟨by simp [Mg.putB, hp], by simp [Mg.putE, hp], got_wf h⟩
  rcases put_err (m := m) with ⟨_, hB, hE⟩ | ⟨b, pb, hB, hE⟩
  · cases hg : got l with
    | no e a =>
      obtain ⟨q1, q2, q3⟩ := hfl e a hg
      exact back_no_no m A c l D d x u w hwf hr hs hld hd h1 h2 [] 0 hB rfl hE e a hg q1 q2 q3
    | ok Y =>
      obtain ⟨q1, q2, q3⟩ := hyl Y hg
      exact back_no_yes m A c l D d x u w hwf hr hs hld hd h1 h2 [] 0 hB rfl hE Y hg q1 q2 q3
  · obtain ⟨g1, g2, g3, g4, g5, g6⟩ := put_back pb hwf.2.2.2.2.2.2.2.2.2
    obtain ⟨k, hk⟩ : ∃ k : Nat, m.kind = (k : Int) := ⟨m.kind.toNat, by omega⟩
    rw [hk] at g4 g5 g6
    rw [sizes (by omega) (by omega)] at g4
    have hsz : 1 ≤ b.length ∧ b.length ≤ 100 := by
      rw [g4]
      rcases (show k = 1 ∨ k = 2 ∨ k = 3 ∨ k = 4 ∨ k = 5 ∨ k = 6 ∨ k = 7 ∨ k = 8 ∨ k = 9 ∨ k = 10 ∨ k = 11 by omega) with rfl | rfl | rfl | rfl | rfl | rfl | rfl | rfl | rfl | rfl | rfl <;> decide
    have p0 := Int.emod_nonneg x (b := (b.length : Int)) (by omega)
    have p1 := Int.emod_lt_of_pos x (b := (b.length : Int)) (by omega)
    obtain ⟨p, hp⟩ : ∃ p : Nat, x % (b.length : Int) = (p : Int) := ⟨(x % (b.length : Int)).toNat, by omega⟩
    obtain ⟨e1, g2'⟩ := g2 p (by omega)
    have hnz : ((b.length : Int) == 0) = false := by
      have : (b.length : Int) ≠ 0 := by omega
      simpa using this
    cases hg : got l with
    | no e a =>
      obtain ⟨q1, q2, q3⟩ := hfl e a hg
      exact back_yes_no m A c l D d x u w hwf hr hs hld hd h1 h2 b _ hB rfl hE p e1 hp hx (by omega) hsz.1 hsz.2 hnz g1 g2' (g3 u) ((sameM_iff m m).2 rfl) e a hg q1 q2 q3
    | ok Y =>
      obtain ⟨q1, q2, q3⟩ := hyl Y hg
      exact back_yes_yes m A c l D d x u w hwf hr hs hld hd h1 h2 b _ hB rfl hE p e1 hp hx (by omega) hsz.1 hsz.2 hnz g1 g2' (g3 u) ((sameM_iff m m).2 rfl) Y hg q1 q2 q3
theorem back_row (m : M) (A : Option Addr) (c : Nat) (l : List UInt8) (D : Option Addr) (d : Nat) (x v : Int) (w : World) (hwf : Wf m) (hr : BytesAt w w.heap.size A m.data) (hs : BytesAt w w.heap.size D l) (hld : l.length ≤ d) (hd : d ≤ maxLen) (hx : (Lit.int .i64 x).wf = true) (hv : (Lit.int .u8 v).wf = true) :
    Calls Try.prog 5 #[mVal m A c, .slice D l.length d, .int .i64 x, .int .u8 v] w fun e w' => e = .returned (.bool true) ∧ Below w.heap.size w w' := by
  obtain ⟨v0, v1⟩ := bounds_u8 hv
  obtain ⟨u, rfl⟩ : ∃ u : UInt8, v = (u.toNat : Int) := ⟨UInt8.ofNat v.toNat, by rw [UInt8.toNat_ofNat']; omega⟩
  exact back_any m A c l D d x u w hwf hr hs hld hd (bounds_i64 hx)
end Go.Proofs.Ytnnchcoeagigbaa
