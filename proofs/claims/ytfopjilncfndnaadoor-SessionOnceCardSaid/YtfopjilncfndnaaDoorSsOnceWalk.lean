/-
  The walk of SessionOnce. Conditions: the table of crc lies as the program's text lays it; what came in can be read.
-/
import Derived.Test.YtfopjilncfndnaaDoorSsOnceSett
import Derived.Test.YtfopjilncfndnaaDoorMvMem
namespace Go.Proofs.YtfopjilncfndnaaDoor
open Go.RowKit Fix

set_option maxRecDepth 100000 in
set_option maxHeartbeats 4000000 in
theorem once_any (A0 : Option Addr) (ms : List MvM) (c0 : Nat) (w : World) (ht : TabAt w) (hr0 : MvsAt w w.heap.size A0 ms) :
    Calls Tryd.prog 4 #[.slice A0 ms.length c0] w fun e w' => e = .returned (.bool true) ∧ Below w.heap.size w w' := by
  have za := awake_any w ht
  have zb : Hid (∀ w1, Below w.heap.size w w1 → Calls Tryd.prog 13 #[] w1 fun e w' => ∃ q a b, e = .returned (.pointer (some ⟨q, 0, none⟩)) ∧ PrX w1 w' q a b 0 0) := Lib.hid fun w1 B => begun_any w1 (ht.below B (Nat.le_refl _))
  obtain ⟨n, hn⟩ : ∃ n, n = ms.length := ⟨_, rfl⟩
  rw [← hn]
  have HR := Lib.hid (And.intro hr0 hn)
  by_cases h100 : 100 < n
  · have i0 : (100 : Int) < (n : Int) := by omega
    clear hr0 hn ht h100
    go_enter Tryd.func4, Tryd.ntmps4
    go_wp2_with (first
      | (go_at_call 8; (with_reducible refine za.mono ?_); (rintro e w1 ⟨rfl, B1⟩; have z1 := zb.out w1 B1; have B1 := Lib.hid B1))
      | (go_at_call 13; (with_reducible refine z1.mono ?_); (rintro e w2 ⟨q, a, b, rfl, P⟩; have P := Lib.hid P)))
    go_ret
    refine ⟨rfl, step_trans B1.out ?_⟩
    obtain ⟨V, T, D, X, L, h, _⟩ := P.out
    exact h.pm.fr
  have i0 : ¬ (100 : Int) < (n : Int) := by omega
  have HN := Lib.hid (show n ≤ 100 by omega)
  clear hr0 hn ht h100
  go_enter Tryd.func4, Tryd.ntmps4
  go_wp2_with (first
    | (go_at_call 8; (with_reducible refine za.mono ?_); (rintro e w1 ⟨rfl, B1⟩; have z1 := zb.out w1 B1; have B1 := Lib.hid B1))
    | (go_at_call 13; (with_reducible refine z1.mono ?_); (rintro e w2 ⟨q, a, b, rfl, P⟩; have P := Lib.hid P)))
  clear za zb z1
  go_loopw [5] (fun ix wr => ∃ i : Nat, ix = .int .i64 (i : Int) ∧ i ≤ n ∧ PrX w1 wr q a b i (17 * i)) (fun ix _ => 101 - vS ix)
  case atStart => exact ⟨0, rfl, Nat.zero_le _, P.out⟩
  case round =>
    obtain ⟨i, rfl, hi, inv⟩ := hrel
    clear P
    have fr : Below w1.heap.size w1 wr := by obtain ⟨V, T, D, X, L, h, _⟩ := inv; exact h.pm.fr
    by_cases hin : i = n
    · have l0 : ¬ (i : Int) < (n : Int) := by omega
      have zs := settles_any (inv.more (mT2 := 100) (mL2 := 4000) (by have := HN.out; omega) (by have := HN.out; omega))
      clear inv hin hi fr
      go_wp2_with (go_at_call 15; (with_reducible refine zs.mono ?_); (rintro e w5 ⟨rfl, B5⟩; have B5 := Lib.hid B5))
      go_ret
      exact ⟨rfl, step_trans B1.out B5.out⟩
    have l0 : (i : Int) < (n : Int) := by omega
    obtain ⟨m, hm⟩ : ∃ m, ms[i]? = some m := ⟨_, List.getElem?_eq_getElem (by rw [← HR.out.2]; omega)⟩
    have hmem := List.mem_of_getElem? hm
    have FR := Lib.hid fr
    obtain ⟨ad, rfl, y0, y1, y2, y3⟩ := mv_at HR.out.1 (step_trans B1.out fr) hm
    have hwi : IntKind.i64.wrap ((i : Int) + 1) = (i : Int) + 1 := IntWalk.i64_in _ (by have := HN.out; omega)
    by_cases h150 : 150 < m.b.length
    · obtain ⟨M, hM⟩ : ∃ M, M = m.b.length := ⟨_, rfl⟩
      have l1 : (150 : Int) < (M : Int) := by omega
      rw [← hM] at y3
      clear inv hin hi fr hm hmem h150 hM
      go_wp2
      go_ret
      exact ⟨rfl, step_trans B1.out FR.out⟩
    have zd := pr_does inv m (HR.out.1.who m hmem) (HR.out.1.n m hmem) (((HR.out.1.b m hmem).below B1.out).more B1.out.size) (by omega) (by have := HN.out; omega) (by have := HN.out; omega)
    obtain ⟨M, hM⟩ : ∃ M, M = m.b.length := ⟨_, rfl⟩
    have l1 : ¬ (150 : Int) < (M : Int) := by omega
    rw [← hM] at y3 zd
    have HI := Lib.hid (And.intro hin hi)
    clear inv hin hi fr hm hmem h150 hM
    go_wp2_with (go_at_call 14; (with_reducible refine zd.mono ?_); (rintro e w4 ⟨rfl, K⟩; have K := Lib.hid K))
    exact ⟨⟨i + 1, rfl, by have := HI.out; omega, K.out⟩, by have := HI.out; have := HN.out; simp [vS]; omega⟩
end Go.Proofs.YtfopjilncfndnaaDoor
