/-
  What the functions of the statements' own kit return: Pick. Conditions: the sizes that are named.
-/
import Derived.Test.YtgnfajmjhlnobaaDoorKitQ
import Derived.Outline
import Derived.Lib.Hide
import Derived.BigQuiet
import Derived.Deep.QuietTactic
namespace Go.Proofs.YtgnfajmjhlnobaaDoor
open Go.RowKit

theorem pick_any (x n : Int) (w : World) (hx : -9223372036854775808 ≤ x) (hx2 : x ≤ 9223372036854775807) (hn : 1 ≤ n) (hn2 : n ≤ 4611686018427387904) :
    Calls Tryd.prog 25 #[.int .i64 x, .int .i64 n] w fun e w' => e = .returned (.int .i64 (x % n)) ∧ w = w' := by
  have h1 : -n < x.tmod n := by
    have := Int.lt_tmod_of_pos x (b := n) (by omega); omega
  have h2 : x.tmod n < n := Int.tmod_lt_of_pos x (by omega)
  by_cases h0 : 0 ≤ x
  · have hr : x.tmod n = x % n := Int.tmod_eq_emod_of_nonneg h0
    rw [hr] at h1 h2
    have h3 := Int.emod_nonneg x (b := n) (by omega)
    clear hr
    go_enter Tryd.func25, Tryd.ntmps25
    go_wp2
    go_ret
    exact ⟨rfl, rfl⟩
  · have e1 : x % n = x.tmod n % n := by
      have e := Int.mul_tdiv_add_tmod x n
      have e2 := Int.mul_add_emod_self_left n (x.tdiv n) (x.tmod n)
      rw [e] at e2
      exact e2
    by_cases hneg : x.tmod n < 0
    · have hr : x % n = x.tmod n + n := by
        rw [e1, ← Int.add_emod_right, Int.emod_eq_of_lt (by omega) (by omega)]
      have HR := Lib.hid hr
      clear hr e1
      go_enter Tryd.func25, Tryd.ntmps25
      go_wp2
      go_ret
      exact ⟨by rw [HR.out]; rfl, rfl⟩
    · have hr : x % n = x.tmod n := by
        rw [e1, Int.emod_eq_of_lt (by omega) (by omega)]
      have HR := Lib.hid hr
      clear hr e1
      go_enter Tryd.func25, Tryd.ntmps25
      go_wp2
      go_ret
      exact ⟨by rw [HR.out]; rfl, rfl⟩

end Go.Proofs.YtgnfajmjhlnobaaDoor
