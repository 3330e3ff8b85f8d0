/-
  Keeps: the program's and the document's. Conditions: for the program's, the table of bounds lies as the text lays it.
-/
import Derived.Test.YtljgjehecaiohaaDoorLeRef
namespace Go.Proofs.YtljgjehecaiohaaDoor
open Go.RowKit Le

def Parts (l : List Int) : Prop := ∀ x ∈ l, Part x
instance (l : List Int) : Decidable (Parts l) := by unfold Parts; infer_instance
theorem iv_at {l : List Int} {k : Nat} {y : Int} (h : l[k]? = some y) : (iv l)[k]? = some (.int .i64 y) := by unfold iv; rw [List.getElem?_map, h]; rfl
def vI : Value → Nat
  | .int _ q => q.toNat
  | _ => 0
set_option maxRecDepth 100000 in
theorem leKeeps_any (A : Option Addr) (l : List Int) (c B : Nat) (w : World) (hb : BndAt w) (h : RowAt w B A (iv l)) (hl : l.length ≤ 1000000) :
    Calls Tryd.prog 27 #[.slice A l.length c] w (Tls (decide (Parts l)) w) := by
  obtain ⟨n, hn⟩ : ∃ n, n = l.length := ⟨_, rfl⟩
  rw [← hn]
  obtain ⟨r, hr⟩ : ∃ r, r = decide (Parts l) := ⟨_, rfl⟩
  rw [← hr]
  have HH := Lib.hid (And.intro h (And.intro hn (And.intro hl (And.intro hr hb))))
  clear h hn hl hr hb
  go_enter Tryd.func27, Tryd.ntmps27
  go_wp2
  go_loopw [7] (fun ix wr => wr = w ∧ ∃ k : Nat, ix = .int .i64 (k : Int) ∧ k ≤ n ∧ ∀ (j : Nat) y, j < k → l[j]? = some y → Part y) (fun ix _ => n + 1 - vI ix)
  case atStart => exact ⟨rfl, 0, rfl, Nat.zero_le _, fun j y hj => by omega⟩
  case round =>
    obtain ⟨rfl, k, rfl, hk, inv⟩ := hrel
    by_cases hkn : k = n
    · have l0 : ¬ (k : Int) < (n : Int) := by omega
      have FIN : Hid (r = true) := Lib.hid (HH.out.2.2.2.1.trans (decide_eq_true fun x hx => by
        obtain ⟨j, hj, e⟩ := List.mem_iff_getElem.1 hx
        exact inv j x (by have := HH.out.2.1; omega) (by rw [List.getElem?_eq_getElem hj, e])))
      clear inv hk hkn
      go_wp2
      go_ret
      exact ⟨by rw [FIN.out]; rfl, rfl⟩
    · have l0 : (k : Int) < (n : Int) := by omega
      obtain ⟨y, hy⟩ : ∃ y, l[k]? = some y := ⟨_, List.getElem?_eq_getElem (by rw [← HH.out.2.1]; omega)⟩
      obtain ⟨ad, rfl, _, hc⟩ := HH.out.1.at_ (iv_at hy)
      have z := within3 y wr HH.out.2.2.2.2
      by_cases hp : Part y
      · rw [decide_eq_true (show 90 ≤ y ∧ y ≤ 110 from hp)] at z
        have hwk : IntKind.i64.wrap ((k : Int) + 1) = (k : Int) + 1 := IntWalk.i64_in _ (by have := HH.out.2; omega)
        have NX : Hid (k + 1 ≤ n ∧ ∀ (j : Nat) z, j < k + 1 → l[j]? = some z → Part z) := Lib.hid ⟨by omega, fun j z hj hz => by
          by_cases e : j = k
          · subst e; rw [hy] at hz; cases hz; exact hp
          · exact inv j z (by omega) hz⟩
        clear inv hk hkn hy hp
        go_wp2_with (go_at_call 49; (with_reducible refine z.mono ?_); (rintro e w2 ⟨rfl, rfl⟩))
        exact ⟨⟨trivial, k + 1, rfl, NX.out.1, NX.out.2⟩, by have := NX.out.1; simp [vI]; omega⟩
      · rw [decide_eq_false (show ¬ (90 ≤ y ∧ y ≤ 110) from hp)] at z
        have FIN : Hid (r = false) := Lib.hid (HH.out.2.2.2.1.trans (decide_eq_false fun e => hp (e y (List.mem_of_getElem? hy))))
        clear inv hk hkn hy hp
        go_wp2_with (go_at_call 49; (with_reducible refine z.mono ?_); (rintro e w2 ⟨rfl, rfl⟩))
        go_ret
        exact ⟨by rw [FIN.out]; rfl, rfl⟩
set_option maxRecDepth 100000 in
theorem rfKeeps_any (A : Option Addr) (l : List Int) (c B : Nat) (w : World) (h : RowAt w B A (iv l)) (hl : l.length ≤ 1000000) :
    Calls Tryd.prog 28 #[.slice A l.length c] w (Tls (decide (Parts l)) w) := by
  obtain ⟨n, hn⟩ : ∃ n, n = l.length := ⟨_, rfl⟩
  rw [← hn]
  obtain ⟨r, hr⟩ : ∃ r, r = decide (Parts l) := ⟨_, rfl⟩
  rw [← hr]
  have HH := Lib.hid (And.intro h (And.intro hn (And.intro hl hr)))
  clear h hn hl hr
  go_enter Tryd.func28, Tryd.ntmps28
  go_wp2
  go_loopw [3] (fun ix wr => wr = w ∧ ∃ k : Nat, ix = .int .i64 (k : Int) ∧ k ≤ n ∧ ∀ (j : Nat) y, j < k → l[j]? = some y → Part y) (fun ix _ => n + 1 - vI ix)
  case atStart => exact ⟨rfl, 0, rfl, Nat.zero_le _, fun j y hj => by omega⟩
  case round =>
    obtain ⟨rfl, k, rfl, hk, inv⟩ := hrel
    by_cases hkn : k = n
    · have l0 : ¬ (k : Int) < (n : Int) := by omega
      have FIN : Hid (r = true) := Lib.hid (HH.out.2.2.2.trans (decide_eq_true fun x hx => by
        obtain ⟨j, hj, e⟩ := List.mem_iff_getElem.1 hx
        exact inv j x (by have := HH.out.2.1; omega) (by rw [List.getElem?_eq_getElem hj, e])))
      clear inv hk hkn
      go_wp2
      go_ret
      exact ⟨by rw [FIN.out]; rfl, rfl⟩
    · have l0 : (k : Int) < (n : Int) := by omega
      obtain ⟨y, hy⟩ : ∃ y, l[k]? = some y := ⟨_, List.getElem?_eq_getElem (by rw [← HH.out.2.1]; omega)⟩
      obtain ⟨ad, rfl, _, hc⟩ := HH.out.1.at_ (iv_at hy)
      by_cases hp : Part y
      · have l1 : ¬ y < 90 := by have := hp.1; omega
        have l2 : ¬ y > 110 := by have := hp.2; omega
        have hwk : IntKind.i64.wrap ((k : Int) + 1) = (k : Int) + 1 := IntWalk.i64_in _ (by have := HH.out.2; omega)
        have NX : Hid (k + 1 ≤ n ∧ ∀ (j : Nat) z, j < k + 1 → l[j]? = some z → Part z) := Lib.hid ⟨by omega, fun j z hj hz => by
          by_cases e : j = k
          · subst e; rw [hy] at hz; cases hz; exact hp
          · exact inv j z (by omega) hz⟩
        clear inv hk hkn hy hp
        go_wp2
        exact ⟨⟨trivial, k + 1, rfl, NX.out.1, NX.out.2⟩, by have := NX.out.1; simp [vI]; omega⟩
      · have FIN : Hid (r = false) := Lib.hid (HH.out.2.2.2.trans (decide_eq_false fun e => hp (e y (List.mem_of_getElem? hy))))
        by_cases l1 : y < 90
        · clear inv hk hkn hy hp
          go_wp2
          go_ret
          exact ⟨by rw [FIN.out]; rfl, rfl⟩
        · have l2 : y > 110 := by unfold Part at hp; omega
          clear inv hk hkn hy hp
          go_wp2
          go_ret
          exact ⟨by rw [FIN.out]; rfl, rfl⟩
set_option maxRecDepth 100000 in
theorem leAwake_any (w : World) (h : BndAt w) : Calls Tryd.prog 26 #[] w (Tlb true w) := by
  have z1 : Calls Tryd.prog 18 #[.int .i64 100, .int .i64 999] w (Tls true w) := leValid_any 100 999 w h
  have z2 : Calls Tryd.prog 18 #[.int .i64 100, .int .i64 1000] w (Tls false w) := leValid_any 100 1000 w h
  have z3 : Calls Tryd.prog 20 #[.int .i64 100, .int .i64 999] w fun e w' => e = .returned (.int .i64 1) ∧ w = w' := leLeft_any 100 999 w h
  have z4 : Calls Tryd.prog 22 #[.agg #[.int .i64 1, .int .i64 100], .int .i64 1199] w (Tlb true w) := leHolds_any 1 100 1199 w h
  go_enter Tryd.func26, Tryd.ntmps26
  go_wp2_with (first
    | (go_at_call 18; (with_reducible refine z1.mono ?_); (rintro e w2 ⟨rfl, rfl⟩))
    | (go_at_call 18; (with_reducible refine z2.mono ?_); (rintro e w2 ⟨rfl, rfl⟩))
    | (go_at_call 20; (with_reducible refine z3.mono ?_); (rintro e w2 ⟨rfl, rfl⟩))
    | (go_at_call 22; (with_reducible refine z4.mono ?_); (rintro e w2 ⟨rfl, B2⟩; have C2 := Lib.hid B2; clear B2)))
  go_ret
  exact ⟨rfl, C2.out⟩
end Go.Proofs.YtljgjehecaiohaaDoor
