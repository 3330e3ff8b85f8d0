/-
  The document's own: is a number within its bound? A number's bytes behind others. Conditions: the bytes can be read.
-/
import Derived.Test.YtfiijnpabmocdaaMgRefA
import Derived.Test.YtfiijnpabmocdaaFixRef
namespace Go.Proofs.Ytfiijnpabmocdaa
open Go.RowKit Mg Fix

def Mg.withinB (k : Int) (c : UInt8) (n most : Int) : Bool := if hasB k c then decide (0 ≤ n) && decide (n ≤ most) else n == 0
theorem OwnB.lessM {w : World} {base b : Nat} {v : Value} {l : List UInt8} (h : OwnB w base v l) (hb : b ≤ base) : OwnB w b v l := by
  refine ⟨h.1, ?_⟩
  rcases h.2 with h | ⟨g, cap, cur, h1, h2, h3⟩
  · exact .inl h
  · exact .inr ⟨g, cap, cur, h1, Nat.le_trans hb h2, h3⟩
theorem within_yes (k : Int) (c : UInt8) (n most : Int) (w : World) (h : hasB k c = true) : Calls Try.prog 24 #[.int .i64 k, .int .u8 (c.toNat : Int), .int .i64 n, .int .i64 most] w fun e w' => e = .returned (.bool (decide (0 ≤ n) && decide (n ≤ most))) ∧ w = w' := by
  have z := refHas_any k c w
  rw [h] at z
  by_cases h1 : 0 ≤ n
  · go_enter Try.func24, Try.ntmps24
    go_wp2_with (go_at_call 25; (with_reducible refine z.mono ?_); (rintro e w1 ⟨rfl, rfl⟩))
    go_ret
    exact ⟨by simp [h1], rfl⟩
  · have h1' : n < 0 := by omega
    go_enter Try.func24, Try.ntmps24
    go_wp2_with (go_at_call 25; (with_reducible refine z.mono ?_); (rintro e w1 ⟨rfl, rfl⟩))
    go_ret
    exact ⟨by rw [decide_eq_false (by omega : ¬ 0 ≤ n)]; rfl, rfl⟩
theorem within_no (k : Int) (c : UInt8) (n most : Int) (w : World) (h : hasB k c = false) : Calls Try.prog 24 #[.int .i64 k, .int .u8 (c.toNat : Int), .int .i64 n, .int .i64 most] w fun e w' => e = .returned (.bool (n == 0)) ∧ w = w' := by
  have z := refHas_any k c w
  rw [h] at z
  go_enter Try.func24, Try.ntmps24
  go_wp2_with (go_at_call 25; (with_reducible refine z.mono ?_); (rintro e w1 ⟨rfl, rfl⟩))
  go_ret
  exact ⟨rfl, rfl⟩
theorem refWithin_any (k : Int) (c : UInt8) (n most : Int) (w : World) : Calls Try.prog 24 #[.int .i64 k, .int .u8 (c.toNat : Int), .int .i64 n, .int .i64 most] w fun e w' => e = .returned (.bool (withinB k c n most)) ∧ w = w' := by
  unfold withinB
  cases h : hasB k c with
  | true => simpa using within_yes k c n most w h
  | false => simpa using within_no k c n most w h
/-- a number's bytes, behind others -/
theorem refNumber_any (A : Option Addr) (l : List UInt8) (n c : Nat) (hn : l.length = n) (hl : l.length ≤ 1000) (x : Nat) (s : Nat) (hs : s = 6 ∨ s = 1) (hx : x < 256 ^ s) (w : World) (hr : BytesAt w w.heap.size A l) :
    Calls Try.prog 22 #[.slice A n c, .int .i64 (x : Int), .int .i64 (s : Int)] w fun e w' => ∃ A' c', e = .returned (.slice A' (n + s) c') ∧ n + s ≤ c' ∧ OwnB w' w.heap.size (.slice A' (n + s) c') (l ++ dig x s) ∧ Below w.heap.size w w' := by
  have z := refPut_any (x : Int) (s : Int) w (by rcases hs with rfl | rfl <;> omega)
  have hb : putB (x : Int) (s : Int) = dig x s := by
    unfold putB
    rw [if_pos ((isz_iff _).2 (by omega))]
    have hf : fitsB (x : Int) (s : Int) = true := by
      unfold fitsB
      simp only [Int.toNat_natCast, Bool.and_eq_true, decide_eq_true_eq]
      rcases hs with rfl | rfl <;> omega
    rw [if_pos hf]
    rfl
  unfold PutPost at z
  rw [hb, dig_length] at z
  have h0 : ∀ W : World, OwnB (W.alloc (.cells #[] 5)) W.heap.size (.slice (some ⟨W.heap.size, 0, none⟩) 0 0) [] := fun W =>
    ⟨by simp [cellsOfBytes], .inr ⟨W.heap.size, 0, #[], rfl, Nat.le_refl _, heap_alloc_new W _, Nat.le_refl _, Nat.zero_le _, by simp, by simp [cellsOfBytes]⟩⟩
  have hlen : (l ++ dig x s).length = n + s := by rw [List.length_append, hn, dig_length]
  have hs6 : s ≤ 6 := by rcases hs with rfl | rfl <;> decide
  have HL := Lib.hid (And.intro hlen (And.intro hn (And.intro hl hs6)))
  clear hb hlen hx hs hs6
  go_enter Try.func22, Try.ntmps22
  go_wp2_with (first
    | (go_at_call 32; (with_reducible refine z.mono ?_); (rintro e w1 ⟨A1, c1, rfl, hc1, hb1, B1⟩; have hr1 := (hr.step B1).alloc (Nat.le_refl _) (.cells #[] 5); have own1 := h0 w1; have HB1 := Lib.hid hb1; clear hb1))
    | (at_builtin; refine wpList_appendB rfl (.tmp 15) (.tmp 16) 25 rfl rfl w1.heap.size _ [] rfl own1 A l n c w1.heap.size rfl HL.out.2.1 hr1 (by have := HL.out.2.2.1; simp; omega) (by simp) ?_; (intro v2 w2 ho2 hg2 hat2; rw [List.nil_append] at ho2; have B2 : Below w1.heap.size w1 w2 := ((Below.refl _ w1).alloc (Nat.le_refl _) _).grown hg2 (by simp) (fun k hk => Nat.le_of_eq (Option.some.inj hk)); have hb2 := HB1.out.step B2; obtain ⟨A2, c2, rfl, hc2⟩ := ho2.form; rw [HL.out.2.1] at ho2 hc2 ⊢))
    | (at_builtin; refine wpList_appendB rfl (.tmp 17) (.tmp 18) 25 rfl rfl w1.heap.size _ l rfl ho2 A1 (dig x s) s c1 w2.heap.size rfl (dig_length _ _) hb2 (by have := HL.out.2.2; rw [dig_length]; omega) B2.size ?_; (intro v3 w3 ho3 hg3 hat3; have B3 : Below w1.heap.size w1 w3 := B2.grown hg3 B2.size (fun j hj => (ho2.lt j hj).1); obtain ⟨A3, c3, rfl, hc3⟩ := ho3.form; rw [HL.out.1] at ho3 hc3 ⊢)))
  go_ret
  exact ⟨A3, c3, rfl, hc3, ho3.lessM B1.size, step_trans B1 B3⟩
end Go.Proofs.Ytfiijnpabmocdaa
