/-
  The document's own: which fields a kind has, a letter each; has it that one? Conditions: none.
-/
import Derived.Test.YtfiijnpabmocdaaMgLaw
import Derived.Test.YtfiijnpabmocdaaMgFit
namespace Go.Proofs.Ytfiijnpabmocdaa
open Go.RowKit Mg

/-- a field's letter -/
def Mg.fch : Fd → UInt8
  | .term => 116 | .seq => 113 | .stamp => 115 | .block => 107 | .ok => 111 | .recd => 114 | .bits => 98 | .data => 100
def Mg.fls (k : Int) : List Fd := (fields k).getD []
def Mg.fstr (k : Int) : ByteArray := ⟨((fls k).map fch).toArray⟩

theorem fields_1 (k : Int) (h1 : (k == 1) = true) (w : World) : Calls Try.prog 21 #[.int .i64 k] w fun e w' => e = .returned (.string (fstr 1)) ∧ w = w' := by
  go_enter Try.func21, Try.ntmps21
  go_wp2
  go_ret
  exact ⟨rfl, rfl⟩
theorem fields_2 (k : Int) (h1 : (k == 1) = false) (h2 : (k == 2) = true) (w : World) : Calls Try.prog 21 #[.int .i64 k] w fun e w' => e = .returned (.string (fstr 2)) ∧ w = w' := by
  go_enter Try.func21, Try.ntmps21
  go_wp2
  go_ret
  exact ⟨rfl, rfl⟩
theorem fields_3 (k : Int) (h1 : (k == 1) = false) (h2 : (k == 2) = false) (h3 : (k == 3) = true) (w : World) : Calls Try.prog 21 #[.int .i64 k] w fun e w' => e = .returned (.string (fstr 3)) ∧ w = w' := by
  go_enter Try.func21, Try.ntmps21
  go_wp2
  go_ret
  exact ⟨rfl, rfl⟩
theorem fields_4 (k : Int) (h1 : (k == 1) = false) (h2 : (k == 2) = false) (h3 : (k == 3) = false) (h4 : (k == 4) = true) (w : World) : Calls Try.prog 21 #[.int .i64 k] w fun e w' => e = .returned (.string (fstr 4)) ∧ w = w' := by
  go_enter Try.func21, Try.ntmps21
  go_wp2
  go_ret
  exact ⟨rfl, rfl⟩
theorem fields_5 (k : Int) (h1 : (k == 1) = false) (h2 : (k == 2) = false) (h3 : (k == 3) = false) (h4 : (k == 4) = false) (h5 : (k == 5) = true) (w : World) : Calls Try.prog 21 #[.int .i64 k] w fun e w' => e = .returned (.string (fstr 5)) ∧ w = w' := by
  go_enter Try.func21, Try.ntmps21
  go_wp2
  go_ret
  exact ⟨rfl, rfl⟩
theorem fields_6 (k : Int) (h1 : (k == 1) = false) (h2 : (k == 2) = false) (h3 : (k == 3) = false) (h4 : (k == 4) = false) (h5 : (k == 5) = false) (h6 : (k == 6) = true) (w : World) : Calls Try.prog 21 #[.int .i64 k] w fun e w' => e = .returned (.string (fstr 6)) ∧ w = w' := by
  go_enter Try.func21, Try.ntmps21
  go_wp2
  go_ret
  exact ⟨rfl, rfl⟩
theorem fields_7 (k : Int) (h1 : (k == 1) = false) (h2 : (k == 2) = false) (h3 : (k == 3) = false) (h4 : (k == 4) = false) (h5 : (k == 5) = false) (h6 : (k == 6) = false) (h7 : (k == 7) = true) (w : World) : Calls Try.prog 21 #[.int .i64 k] w fun e w' => e = .returned (.string (fstr 7)) ∧ w = w' := by
  go_enter Try.func21, Try.ntmps21
  go_wp2
  go_ret
  exact ⟨rfl, rfl⟩
theorem fields_8 (k : Int) (h1 : (k == 1) = false) (h2 : (k == 2) = false) (h3 : (k == 3) = false) (h4 : (k == 4) = false) (h5 : (k == 5) = false) (h6 : (k == 6) = false) (h7 : (k == 7) = false) (h8 : (k == 8) = true) (w : World) : Calls Try.prog 21 #[.int .i64 k] w fun e w' => e = .returned (.string (fstr 8)) ∧ w = w' := by
  go_enter Try.func21, Try.ntmps21
  go_wp2
  go_ret
  exact ⟨rfl, rfl⟩
theorem fields_9 (k : Int) (h1 : (k == 1) = false) (h2 : (k == 2) = false) (h3 : (k == 3) = false) (h4 : (k == 4) = false) (h5 : (k == 5) = false) (h6 : (k == 6) = false) (h7 : (k == 7) = false) (h8 : (k == 8) = false) (h9 : (k == 9) = true) (w : World) : Calls Try.prog 21 #[.int .i64 k] w fun e w' => e = .returned (.string (fstr 9)) ∧ w = w' := by
  go_enter Try.func21, Try.ntmps21
  go_wp2
  go_ret
  exact ⟨rfl, rfl⟩
theorem fields_10 (k : Int) (h1 : (k == 1) = false) (h2 : (k == 2) = false) (h3 : (k == 3) = false) (h4 : (k == 4) = false) (h5 : (k == 5) = false) (h6 : (k == 6) = false) (h7 : (k == 7) = false) (h8 : (k == 8) = false) (h9 : (k == 9) = false) (h10 : (k == 10) = true) (w : World) : Calls Try.prog 21 #[.int .i64 k] w fun e w' => e = .returned (.string (fstr 10)) ∧ w = w' := by
  go_enter Try.func21, Try.ntmps21
  go_wp2
  go_ret
  exact ⟨rfl, rfl⟩
theorem fields_11 (k : Int) (h1 : (k == 1) = false) (h2 : (k == 2) = false) (h3 : (k == 3) = false) (h4 : (k == 4) = false) (h5 : (k == 5) = false) (h6 : (k == 6) = false) (h7 : (k == 7) = false) (h8 : (k == 8) = false) (h9 : (k == 9) = false) (h10 : (k == 10) = false) (h11 : (k == 11) = true) (w : World) : Calls Try.prog 21 #[.int .i64 k] w fun e w' => e = .returned (.string (fstr 11)) ∧ w = w' := by
  go_enter Try.func21, Try.ntmps21
  go_wp2
  go_ret
  exact ⟨rfl, rfl⟩
theorem fields_none (k : Int) (h1 : (k == 1) = false) (h2 : (k == 2) = false) (h3 : (k == 3) = false) (h4 : (k == 4) = false) (h5 : (k == 5) = false) (h6 : (k == 6) = false) (h7 : (k == 7) = false) (h8 : (k == 8) = false) (h9 : (k == 9) = false) (h10 : (k == 10) = false) (h11 : (k == 11) = false) (w : World) : Calls Try.prog 21 #[.int .i64 k] w fun e w' => e = .returned (.string ⟨#[]⟩) ∧ w = w' := by
  go_enter Try.func21, Try.ntmps21
  go_wp2
  go_ret
  exact ⟨rfl, rfl⟩
theorem refFields_any (k : Int) (w : World) : Calls Try.prog 21 #[.int .i64 k] w fun e w' => e = .returned (.string (fstr k)) ∧ w = w' := by
  have hb : ∀ j : Int, ¬ k = j → (k == j) = false := fun j h => by simpa using h
  by_cases h1 : k = 1
  · have z := fields_1 k (by rw [h1]; rfl) w
    rw [← h1] at z
    exact z
  by_cases h2 : k = 2
  · have z := fields_2 k (hb _ h1) (by rw [h2]; rfl) w
    rw [← h2] at z
    exact z
  by_cases h3 : k = 3
  · have z := fields_3 k (hb _ h1) (hb _ h2) (by rw [h3]; rfl) w
    rw [← h3] at z
    exact z
  by_cases h4 : k = 4
  · have z := fields_4 k (hb _ h1) (hb _ h2) (hb _ h3) (by rw [h4]; rfl) w
    rw [← h4] at z
    exact z
  by_cases h5 : k = 5
  · have z := fields_5 k (hb _ h1) (hb _ h2) (hb _ h3) (hb _ h4) (by rw [h5]; rfl) w
    rw [← h5] at z
    exact z
  by_cases h6 : k = 6
  · have z := fields_6 k (hb _ h1) (hb _ h2) (hb _ h3) (hb _ h4) (hb _ h5) (by rw [h6]; rfl) w
    rw [← h6] at z
    exact z
  by_cases h7 : k = 7
  · have z := fields_7 k (hb _ h1) (hb _ h2) (hb _ h3) (hb _ h4) (hb _ h5) (hb _ h6) (by rw [h7]; rfl) w
    rw [← h7] at z
    exact z
  by_cases h8 : k = 8
  · have z := fields_8 k (hb _ h1) (hb _ h2) (hb _ h3) (hb _ h4) (hb _ h5) (hb _ h6) (hb _ h7) (by rw [h8]; rfl) w
    rw [← h8] at z
    exact z
  by_cases h9 : k = 9
  · have z := fields_9 k (hb _ h1) (hb _ h2) (hb _ h3) (hb _ h4) (hb _ h5) (hb _ h6) (hb _ h7) (hb _ h8) (by rw [h9]; rfl) w
    rw [← h9] at z
    exact z
  by_cases h10 : k = 10
  · have z := fields_10 k (hb _ h1) (hb _ h2) (hb _ h3) (hb _ h4) (hb _ h5) (hb _ h6) (hb _ h7) (hb _ h8) (hb _ h9) (by rw [h10]; rfl) w
    rw [← h10] at z
    exact z
  by_cases h11 : k = 11
  · have z := fields_11 k (hb _ h1) (hb _ h2) (hb _ h3) (hb _ h4) (hb _ h5) (hb _ h6) (hb _ h7) (hb _ h8) (hb _ h9) (hb _ h10) (by rw [h11]; rfl) w
    rw [← h11] at z
    exact z
  have e : fstr k = ⟨#[]⟩ := by
    unfold fstr fls fields
    rw [if_neg h1, if_neg h2, if_neg h3, if_neg h4, if_neg h5, if_neg h6, if_neg h7, if_neg h8, if_neg h9, if_neg h10, if_neg h11]
    rfl
  rw [e]
  exact fields_none k (hb _ h1) (hb _ h2) (hb _ h3) (hb _ h4) (hb _ h5) (hb _ h6) (hb _ h7) (hb _ h8) (hb _ h9) (hb _ h10) (hb _ h11) w
/-- has a kind that field? -/
def Mg.hasB (k : Int) (c : UInt8) : Bool := ((fls k).map fch).contains c
theorem fls_len (k : Int) : (fls k).length ≤ 5 := by
  unfold fls fields
  split; decide
  split; decide
  split; decide
  split; decide
  split; decide
  split; decide
  split; decide
  split; decide
  split; decide
  split; decide
  split; decide
  decide
theorem refFields_str (k : Int) : ∃ S : ByteArray, S.size = ((fls k).map fch).length ∧ ((fls k).map fch).length ≤ 5 ∧ (S == ⟨#[]⟩) = (fls k).isEmpty ∧ (∀ j (h : j < S.size), S[j]'h = ((fls k).map fch).getD j 0) ∧
    ∀ w, Calls Try.prog 21 #[.int .i64 k] w fun e w' => e = .returned (.string S) ∧ w = w' := by
  refine ⟨fstr k, by simp [fstr, ByteArray.size], by rw [List.length_map]; exact fls_len k, ?_, fun j hj => ?_, refFields_any k⟩
  case refine_2 =>
    have h2 : j < ((fls k).map fch).length := by simpa [fstr, ByteArray.size] using hj
    show (((fls k).map fch).toArray)[j]'(by simpa using h2) = _
    rw [List.getElem_toArray, List.getD_eq_getElem?_getD, List.getElem?_eq_getElem h2]
    rfl
  unfold fstr
  cases fls k with
  | nil => rfl
  | cons a r =>
    rfl
theorem refHas_any (k : Int) (c : UInt8) (w : World) : Calls Try.prog 25 #[.int .i64 k, .int .u8 (c.toNat : Int)] w fun e w' => e = .returned (.bool (hasB k c)) ∧ w = w' := by
  obtain ⟨S, hsz, h5, _, hix0, z⟩ := refFields_str k
  replace z := z w
  obtain ⟨l, hl⟩ : ∃ l, l = (fls k).map fch := ⟨_, rfl⟩
  have hh : hasB k c = l.contains c := by rw [hl]; rfl
  rw [← hl] at hsz hix0 h5
  rw [hh]
  have HIX := Lib.hid hix0
  clear hl hh hix0
  go_enter Try.func25, Try.ntmps25
  go_wp2_with (go_at_call 21; (with_reducible refine z.mono ?_); (rintro e w1 ⟨rfl, rfl⟩))
  go_loopw [6] (fun i wr => ∃ j : Nat, j ≤ l.length ∧ i = .int .i64 (j : Int) ∧ wr = w ∧ (l.take j).contains c = false) (fun i _ => l.length - (intOf i).toNat)
  case atStart => exact ⟨0, Nat.zero_le _, rfl, rfl, by simp⟩
  case round =>
    obtain ⟨j, hj, rfl, rfl, hc⟩ := hrel
    by_cases hjn : j < l.length
    · have hjs : j < S.size := by omega
      have hix := HIX.out j hjs
      obtain ⟨x, hx⟩ : ∃ x, x = l.getD j 0 := ⟨_, rfl⟩
      rw [← hx] at hix
      have ht : l.take (j + 1) = l.take j ++ [x] := by
        rw [List.take_succ_eq_append_getElem hjn, hx]
        simp [hjn]
      have HT := Lib.hid ht
      have HC := Lib.hid hc
      by_cases he : x = c
      · have hr : l.contains c = true := by
          rw [List.contains_iff_mem, ← he, hx]
          simp [hjn]
        have HR := Lib.hid hr
        have heq : (((S[j]'hjs).toNat : Int) == (c.toNat : Int)) = true := by rw [hix, he]; simp
        clear hr hx ht hc hix he
        go_wp2
        go_ret
        exact ⟨by rw [HR.out]; rfl, rfl⟩
      · have hne : ((x.toNat : Int) == (c.toNat : Int)) = false := by
          have : (x.toNat : Int) ≠ (c.toNat : Int) := fun h => he (UInt8.toNat_inj.1 (by omega))
          simpa using this
        rw [← hix] at hne
        have hr : (l.take (j + 1)).contains c = false := by
          rw [ht, List.contains_eq_any_beq, List.any_append]
          rw [List.contains_eq_any_beq] at hc
          rw [hc]
          simpa using fun h : c = x => he h.symm
        have HR := Lib.hid hr
        clear hr hx ht hc hix
        go_wp2
        go_roundw
        case rel => exact ⟨j + 1, by omega, by go_num, trivial, HR.out⟩
        case measure => simp [intOf]; omega
    · obtain rfl : j = l.length := by omega
      rw [List.take_length] at hc
      have HC := Lib.hid hc
      clear hc
      go_wp2
      go_ret
      exact ⟨by rw [HC.out]; rfl, rfl⟩
end Go.Proofs.Ytfiijnpabmocdaa
