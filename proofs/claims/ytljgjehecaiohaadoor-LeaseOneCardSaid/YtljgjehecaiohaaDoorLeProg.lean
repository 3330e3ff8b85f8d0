/-
  The program's leases: which bounds, and who is asked. Conditions: the table of bounds lies as the text lays it.
-/
import Derived.Test.YtljgjehecaiohaaDoorLeLaid
import Derived.Test.YtljgjehecaiohaaDoorLeMath
import Derived.Test.YtljgjehecaiohaaDoorBa
import Derived.Shelf.RegionOpen
namespace Go.Proofs.YtljgjehecaiohaaDoor
open Go.RowKit Le


/-- what only tells -/
def Tls (b : Bool) (w : World) (e : Ending) (w' : World) : Prop := e = .returned (.bool b) ∧ w = w'

set_option maxRecDepth 100000 in
theorem within0 (n : Int) (w : World) (h : BndAt w) : Calls Tryd.prog 49 #[.int .i64 n, .int .i64 0] w (Tls (decide (0 ≤ n ∧ n ≤ 1099511627776)) w) := by
  have c0 := h 0 _ rfl
  have c1 := h 1 _ rfl
  have ed : decide (0 ≤ n ∧ n ≤ 1099511627776) = (decide (0 ≤ n) && decide (n ≤ 1099511627776)) := Bool.decide_and _ _
  by_cases l0 : (0 : Int) ≤ n
  · go_enter Tryd.func49, Tryd.ntmps49
    go_wp2
    go_ret
    exact ⟨by rw [ed, decide_eq_true l0]; rfl, rfl⟩
  · have FIN : Hid ((decide (0 ≤ n) && decide (n ≤ 1099511627776)) = false) := Lib.hid (ed.symm.trans (decide_eq_false fun e => l0 e.1))
    go_enter Tryd.func49, Tryd.ntmps49
    go_wp2
    go_ret
    exact ⟨by rw [FIN.out]; rfl, rfl⟩
set_option maxRecDepth 100000 in
theorem within1 (n : Int) (w : World) (h : BndAt w) : Calls Tryd.prog 49 #[.int .i64 n, .int .i64 1] w (Tls (decide (0 ≤ n ∧ n ≤ 899)) w) := by
  have c0 := h 2 _ rfl
  have c1 := h 3 _ rfl
  have ed : decide (0 ≤ n ∧ n ≤ 899) = (decide (0 ≤ n) && decide (n ≤ 899)) := Bool.decide_and _ _
  by_cases l0 : (0 : Int) ≤ n
  · go_enter Tryd.func49, Tryd.ntmps49
    go_wp2
    go_ret
    exact ⟨by rw [ed, decide_eq_true l0]; rfl, rfl⟩
  · have FIN : Hid ((decide (0 ≤ n) && decide (n ≤ 899)) = false) := Lib.hid (ed.symm.trans (decide_eq_false fun e => l0 e.1))
    go_enter Tryd.func49, Tryd.ntmps49
    go_wp2
    go_ret
    exact ⟨by rw [FIN.out]; rfl, rfl⟩
set_option maxRecDepth 100000 in
theorem within2 (n : Int) (w : World) (h : BndAt w) : Calls Tryd.prog 49 #[.int .i64 n, .int .i64 2] w (Tls (decide ((-1099511627776) ≤ n ∧ n ≤ 1099)) w) := by
  have c0 := h 4 _ rfl
  have c1 := h 5 _ rfl
  have ed : decide ((-1099511627776) ≤ n ∧ n ≤ 1099) = (decide ((-1099511627776) ≤ n) && decide (n ≤ 1099)) := Bool.decide_and _ _
  by_cases l0 : ((-1099511627776) : Int) ≤ n
  · go_enter Tryd.func49, Tryd.ntmps49
    go_wp2
    go_ret
    exact ⟨by rw [ed, decide_eq_true l0]; rfl, rfl⟩
  · have FIN : Hid ((decide ((-1099511627776) ≤ n) && decide (n ≤ 1099)) = false) := Lib.hid (ed.symm.trans (decide_eq_false fun e => l0 e.1))
    go_enter Tryd.func49, Tryd.ntmps49
    go_wp2
    go_ret
    exact ⟨by rw [FIN.out]; rfl, rfl⟩
set_option maxRecDepth 100000 in
theorem within3 (n : Int) (w : World) (h : BndAt w) : Calls Tryd.prog 49 #[.int .i64 n, .int .i64 3] w (Tls (decide (90 ≤ n ∧ n ≤ 110)) w) := by
  have c0 := h 6 _ rfl
  have c1 := h 7 _ rfl
  have ed : decide (90 ≤ n ∧ n ≤ 110) = (decide (90 ≤ n) && decide (n ≤ 110)) := Bool.decide_and _ _
  by_cases l0 : (90 : Int) ≤ n
  · go_enter Tryd.func49, Tryd.ntmps49
    go_wp2
    go_ret
    exact ⟨by rw [ed, decide_eq_true l0]; rfl, rfl⟩
  · have FIN : Hid ((decide (90 ≤ n) && decide (n ≤ 110)) = false) := Lib.hid (ed.symm.trans (decide_eq_false fun e => l0 e.1))
    go_enter Tryd.func49, Tryd.ntmps49
    go_wp2
    go_ret
    exact ⟨by rw [FIN.out]; rfl, rfl⟩
set_option maxRecDepth 100000 in
theorem hasLease_any (s n : Int) (hs : Time s) (hn : Time n) (w : World) (h : BndAt w) : Calls Tryd.prog 46 #[.int .i64 n, .int .i64 s] w (Tls (decide (0 ≤ n - s ∧ n - s ≤ 899)) w) := by
  unfold Time at hs hn
  have w1 : IntKind.i64.wrap (n - s) = n - s := IntWalk.i64_in _ (by omega)
  have z1 := within1 (n - s) w h
  obtain ⟨r, hr⟩ : ∃ r, r = decide (0 ≤ n - s ∧ n - s ≤ 899) := ⟨_, rfl⟩
  rw [← hr] at z1 ⊢
  clear hs hn hr
  go_enter Tryd.func46, Tryd.ntmps46
  go_wp2_with (go_at_call 49; (with_reducible refine z1.mono ?_); (rintro e w2 ⟨rfl, rfl⟩))
  go_ret
  exact ⟨rfl, rfl⟩
set_option maxRecDepth 100000 in
theorem hasPromise_any (s n : Int) (hs : Time s) (hn : Time n) (w : World) (h : BndAt w) : Calls Tryd.prog 48 #[.int .i64 n, .int .i64 s] w (Tls (decide (-1099511627776 ≤ n - s ∧ n - s ≤ 1099)) w) := by
  unfold Time at hs hn
  have w1 : IntKind.i64.wrap (n - s) = n - s := IntWalk.i64_in _ (by omega)
  have z1 := within2 (n - s) w h
  obtain ⟨r, hr⟩ : ∃ r, r = decide (-1099511627776 ≤ n - s ∧ n - s ≤ 1099) := ⟨_, rfl⟩
  rw [← hr] at z1 ⊢
  clear hs hn hr
  go_enter Tryd.func48, Tryd.ntmps48
  go_wp2_with (go_at_call 49; (with_reducible refine z1.mono ?_); (rintro e w2 ⟨rfl, rfl⟩))
  go_ret
  exact ⟨rfl, rfl⟩
theorem valid_dec (s n : Int) (hs : Time s) (hn : Time n) : decide (0 ≤ n - s ∧ n - s ≤ 899) = decide (Valid s n) := by
  unfold Time at hs hn
  refine decide_eq_decide.2 ?_
  unfold Valid Time
  omega
theorem holds_dec (s n : Int) (hs : Time s) (hn : Time n) : decide (-1099511627776 ≤ n - s ∧ n - s ≤ 1099) = decide (n - s < 1100) := by
  unfold Time at hs hn
  refine decide_eq_decide.2 ?_
  omega

set_option maxRecDepth 100000 in
theorem tellsLease_ok (s n : Int) (u : Bool) (hs : Time s) (hn : Time n) (w : World) (h : BndAt w) : Calls Tryd.prog 45 #[.func (.func 46) #[.int .i64 n] #[], .int .i64 s, .int .i64 n, .bool u] w (Tls (decide (Valid s n)) w) := by
  have z1 := within0 s w h
  have z2 := within0 n w h
  have z3 := hasLease_any s n hs hn w h
  rw [decide_eq_true (show 0 ≤ s ∧ s ≤ 1099511627776 from hs)] at z1
  rw [decide_eq_true (show 0 ≤ n ∧ n ≤ 1099511627776 from hn)] at z2
  rw [valid_dec s n hs hn] at z3
  clear hs hn
  go_enter Tryd.func45, Tryd.ntmps45
  go_wp2_with (first
    | (go_at_call 49; (with_reducible refine z1.mono ?_); (rintro e w2 ⟨rfl, rfl⟩))
    | (go_at_call 49; (with_reducible refine z2.mono ?_); (rintro e w2 ⟨rfl, rfl⟩))
    | (go_at_call 46; (with_reducible refine z3.mono ?_); (rintro e w2 ⟨rfl, rfl⟩)))
  go_ret
  exact ⟨rfl, rfl⟩
set_option maxRecDepth 100000 in
theorem tellsLease_no (s n : Int) (u : Bool) (hno : ¬ (Time s ∧ Time n)) (w : World) (h : BndAt w) : Calls Tryd.prog 45 #[.func (.func 46) #[.int .i64 n] #[], .int .i64 s, .int .i64 n, .bool u] w (Tls u w) := by
  have z1 := within0 s w h
  have z2 := within0 n w h
  by_cases hs : Time s
  · rw [decide_eq_true (show 0 ≤ s ∧ s ≤ 1099511627776 from hs)] at z1
    rw [decide_eq_false (show ¬ (0 ≤ n ∧ n ≤ 1099511627776) from fun e => hno ⟨hs, e⟩)] at z2
    clear hs hno
    go_enter Tryd.func45, Tryd.ntmps45
    go_wp2_with (first
      | (go_at_call 49; (with_reducible refine z1.mono ?_); (rintro e w2 ⟨rfl, rfl⟩))
      | (go_at_call 49; (with_reducible refine z2.mono ?_); (rintro e w2 ⟨rfl, rfl⟩)))
    go_ret
    exact ⟨rfl, rfl⟩
  · rw [decide_eq_false (show ¬ (0 ≤ s ∧ s ≤ 1099511627776) from hs)] at z1
    clear hs hno
    go_enter Tryd.func45, Tryd.ntmps45
    go_wp2_with (first
      | (go_at_call 49; (with_reducible refine z1.mono ?_); (rintro e w2 ⟨rfl, rfl⟩)))
    go_ret
    exact ⟨rfl, rfl⟩
set_option maxRecDepth 100000 in
theorem tellsPromise_ok (s n : Int) (u : Bool) (hs : Time s) (hn : Time n) (w : World) (h : BndAt w) : Calls Tryd.prog 45 #[.func (.func 48) #[.int .i64 n] #[], .int .i64 s, .int .i64 n, .bool u] w (Tls (decide (n - s < 1100)) w) := by
  have z1 := within0 s w h
  have z2 := within0 n w h
  have z3 := hasPromise_any s n hs hn w h
  rw [decide_eq_true (show 0 ≤ s ∧ s ≤ 1099511627776 from hs)] at z1
  rw [decide_eq_true (show 0 ≤ n ∧ n ≤ 1099511627776 from hn)] at z2
  rw [holds_dec s n hs hn] at z3
  clear hs hn
  go_enter Tryd.func45, Tryd.ntmps45
  go_wp2_with (first
    | (go_at_call 49; (with_reducible refine z1.mono ?_); (rintro e w2 ⟨rfl, rfl⟩))
    | (go_at_call 49; (with_reducible refine z2.mono ?_); (rintro e w2 ⟨rfl, rfl⟩))
    | (go_at_call 48; (with_reducible refine z3.mono ?_); (rintro e w2 ⟨rfl, rfl⟩)))
  go_ret
  exact ⟨rfl, rfl⟩
set_option maxRecDepth 100000 in
theorem tellsPromise_no (s n : Int) (u : Bool) (hno : ¬ (Time s ∧ Time n)) (w : World) (h : BndAt w) : Calls Tryd.prog 45 #[.func (.func 48) #[.int .i64 n] #[], .int .i64 s, .int .i64 n, .bool u] w (Tls u w) := by
  have z1 := within0 s w h
  have z2 := within0 n w h
  by_cases hs : Time s
  · rw [decide_eq_true (show 0 ≤ s ∧ s ≤ 1099511627776 from hs)] at z1
    rw [decide_eq_false (show ¬ (0 ≤ n ∧ n ≤ 1099511627776) from fun e => hno ⟨hs, e⟩)] at z2
    clear hs hno
    go_enter Tryd.func45, Tryd.ntmps45
    go_wp2_with (first
      | (go_at_call 49; (with_reducible refine z1.mono ?_); (rintro e w2 ⟨rfl, rfl⟩))
      | (go_at_call 49; (with_reducible refine z2.mono ?_); (rintro e w2 ⟨rfl, rfl⟩)))
    go_ret
    exact ⟨rfl, rfl⟩
  · rw [decide_eq_false (show ¬ (0 ≤ s ∧ s ≤ 1099511627776) from hs)] at z1
    clear hs hno
    go_enter Tryd.func45, Tryd.ntmps45
    go_wp2_with (first
      | (go_at_call 49; (with_reducible refine z1.mono ?_); (rintro e w2 ⟨rfl, rfl⟩)))
    go_ret
    exact ⟨rfl, rfl⟩
/-- P16.1 -/
theorem leValid_any (s n : Int) (w : World) (h : BndAt w) : Calls Tryd.prog 18 #[.int .i64 s, .int .i64 n] w (Tls (decide (Valid s n)) w) := by
  have z : Calls Tryd.prog 45 #[.func (.func 46) #[.int .i64 n] #[], .int .i64 s, .int .i64 n, .bool false] w (Tls (decide (Valid s n)) w) := by
    by_cases g : Time s ∧ Time n
    · exact tellsLease_ok s n false g.1 g.2 w h
    · rw [decide_eq_false (show ¬ Valid s n from fun e => g ⟨e.1, e.2.1⟩)]
      exact tellsLease_no s n false g w h
  have hmf : ∀ (fn : Fn) (first cap : Array Value) (w : World), (Instr.makeFunc fn first cap).run Tryd.prog w = .ok (.func fn first cap) w := fun _ _ _ _ => rfl
  go_enter Tryd.func18, Tryd.ntmps18
  go_wp2_with (go_at_call 45; (with_reducible refine z.mono ?_); (rintro e w2 ⟨rfl, rfl⟩))
  go_ret
  exact ⟨rfl, rfl⟩
theorem left_def {s n : Int} (h : Valid s n) : left s n = 900 - (n - s) := if_pos h
theorem left_no {s n : Int} (h : ¬ Valid s n) : left s n = 0 := if_neg h
/-- P16.1 -/
theorem leLeft_any (s n : Int) (w : World) (h : BndAt w) : Calls Tryd.prog 20 #[.int .i64 s, .int .i64 n] w fun e w' => e = .returned (.int .i64 (left s n)) ∧ w = w' := by
  have z := leValid_any s n w h
  by_cases g : Valid s n
  · rw [decide_eq_true g] at z
    have e1 := left_def g
    obtain ⟨⟨s0, sM⟩, ⟨n0, nM⟩, g1, g2⟩ := g
    have w1 : IntKind.i64.wrap (n - s) = n - s := IntWalk.i64_in _ (by omega)
    have w2 : IntKind.i64.wrap (900 - (n - s)) = left s n := (IntWalk.i64_in _ (by omega)).trans e1.symm
    clear s0 sM n0 nM g1 g2 e1
    go_enter Tryd.func20, Tryd.ntmps20
    go_wp2_with (go_at_call 18; (with_reducible refine z.mono ?_); (rintro e w2 ⟨rfl, rfl⟩))
    go_ret
    exact ⟨rfl, rfl⟩
  · rw [decide_eq_false g] at z
    rw [left_no g]
    clear g
    go_enter Tryd.func20, Tryd.ntmps20
    go_wp2_with (go_at_call 18; (with_reducible refine z.mono ?_); (rintro e w2 ⟨rfl, rfl⟩))
    go_ret
    exact ⟨rfl, rfl⟩

end Go.Proofs.YtljgjehecaiohaaDoor
