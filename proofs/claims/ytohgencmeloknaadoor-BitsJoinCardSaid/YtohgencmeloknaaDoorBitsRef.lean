/-
  The document's answers for bits (tandemref02): what they return, in the same words as package bits. Conditions: sets are words of 64 bits.
-/
import Derived.Test.YtohgencmeloknaaDoorBitsWalk
namespace Go.Proofs.YtohgencmeloknaaDoor
open Go.RowKit Bits

theorem refHas_num (s b : Nat) : (((s : Int) / 2 ^ b).tmod 2 == 1) = s.testBit b := by
  have e : (s : Int) / 2 ^ b = ((s / 2 ^ b : Nat) : Int) := by rw [Int.natCast_ediv, Int.natCast_pow]; rfl
  rw [e, Int.tmod_eq_emod_of_nonneg (Int.natCast_nonneg _), Nat.testBit_eq_decide_div_mod_eq, Bool.eq_iff_iff]
  simp
  omega
theorem refHas_in (s b : Nat) (hb : b < 64) (w : World) :
    Calls Tryd.prog 19 #[.int .u64 (s : Int), .int .i64 (b : Int)] w fun e w' => e = .returned (.bool (s.testBit b)) ∧ w = w' := by
  have hn := refHas_num s b
  go_enter Tryd.func19, Tryd.ntmps19
  go_wp2
  go_ret
  exact ⟨rfl, rfl⟩
theorem refHas_out (s : Int) (b : Int) (hb : b < 0 ∨ 64 ≤ b) (w : World) :
    Calls Tryd.prog 19 #[.int .u64 s, .int .i64 b] w fun e w' => e = .returned (.bool false) ∧ w = w' := by
  rcases hb with h | h
  · go_enter Tryd.func19, Tryd.ntmps19
    go_wp2
    go_ret
    exact ⟨rfl, rfl⟩
  · have h1 : 0 ≤ b := by omega
    have h2 : ¬ b < 64 := by omega
    go_enter Tryd.func19, Tryd.ntmps19
    go_wp2
    go_ret
    exact ⟨rfl, rfl⟩
theorem refPut_num (s b : Nat) (hs : s < 2 ^ 64) (hb : b < 64) (h : s.testBit b = false) : IntKind.u64.wrap ((s : Int) + IntKind.u64.wrap (2 ^ b)) = ((s ||| 2 ^ b : Nat) : Int) := by
  have h1 := new_lt s b hs hb h
  rw [shl_num b hb, put_new s b h]
  generalize 2 ^ b = q at h1 ⊢
  rw [wrap_u64 _ (by omega) (by omega)]
  omega
theorem refCut_num (s b : Nat) (hs : s < 2 ^ 64) (hb : b < 64) (h : s.testBit b = true) : IntKind.u64.wrap ((s : Int) - IntKind.u64.wrap (2 ^ b)) = ((s &&& (full - 2 ^ b) : Nat) : Int) := by
  have h1 := has_le s b h
  rw [shl_num b hb, cut_has s b hs hb h]
  generalize 2 ^ b = q at h1 ⊢
  rw [wrap_u64 _ (by omega) (by omega)]
  omega
theorem refPut_in (s b : Nat) (hs : s < 2 ^ 64) (hb : b < 64) (w : World) :
    Calls Tryd.prog 9 #[.int .u64 (s : Int), .int .i64 (b : Int)] w fun e w' => e = .returned (.tuple #[.int .u64 ((s ||| 2 ^ b : Nat) : Int), .int .i64 0]) ∧ w = w' := by
  cases h : s.testBit b with
  | true =>
    rw [put_has s b h]
    have H := Lib.hid h
    clear h
    go_enter Tryd.func9, Tryd.ntmps9
    go_wp2_with (go_at_call 19; refine (refHas_in s b hb _).mono ?_; (rintro e w' ⟨rfl, rfl⟩; rw [H.out]))
    go_ret2
    exact ⟨rfl, rfl⟩
  | false =>
    have hn := refPut_num s b hs hb h
    have H := Lib.hid h
    clear h
    go_enter Tryd.func9, Tryd.ntmps9
    go_wp2_with (go_at_call 19; refine (refHas_in s b hb _).mono ?_; (rintro e w' ⟨rfl, rfl⟩; rw [H.out]))
    go_ret2
    exact ⟨rfl, rfl⟩
theorem refPut_out (s : Int) (b : Int) (hb : b < 0 ∨ 64 ≤ b) (w : World) :
    Calls Tryd.prog 9 #[.int .u64 s, .int .i64 b] w fun e w' => e = .returned (.tuple #[.int .u64 0, .int .i64 5]) ∧ w = w' := by
  rcases hb with h | h
  · go_enter Tryd.func9, Tryd.ntmps9
    go_wp2
    go_ret2
    exact ⟨rfl, rfl⟩
  · have h1 : ¬ b < 0 := by omega
    have h2 : 63 < b := by omega
    go_enter Tryd.func9, Tryd.ntmps9
    go_wp2
    go_ret2
    exact ⟨rfl, rfl⟩
theorem refCut_in (s b : Nat) (hs : s < 2 ^ 64) (hb : b < 64) (w : World) :
    Calls Tryd.prog 11 #[.int .u64 (s : Int), .int .i64 (b : Int)] w fun e w' => e = .returned (.tuple #[.int .u64 ((s &&& (full - 2 ^ b) : Nat) : Int), .int .i64 0]) ∧ w = w' := by
  cases h : s.testBit b with
  | false =>
    rw [cut_not s b hs hb h]
    have H := Lib.hid h
    clear h
    go_enter Tryd.func11, Tryd.ntmps11
    go_wp2_with (go_at_call 19; refine (refHas_in s b hb _).mono ?_; (rintro e w' ⟨rfl, rfl⟩; rw [H.out]))
    go_ret2
    exact ⟨rfl, rfl⟩
  | true =>
    have hn := refCut_num s b hs hb h
    have H := Lib.hid h
    clear h
    go_enter Tryd.func11, Tryd.ntmps11
    go_wp2_with (go_at_call 19; refine (refHas_in s b hb _).mono ?_; (rintro e w' ⟨rfl, rfl⟩; rw [H.out]))
    go_ret2
    exact ⟨rfl, rfl⟩
theorem refCut_out (s : Int) (b : Int) (hb : b < 0 ∨ 64 ≤ b) (w : World) :
    Calls Tryd.prog 11 #[.int .u64 s, .int .i64 b] w fun e w' => e = .returned (.tuple #[.int .u64 0, .int .i64 5]) ∧ w = w' := by
  rcases hb with h | h
  · go_enter Tryd.func11, Tryd.ntmps11
    go_wp2
    go_ret2
    exact ⟨rfl, rfl⟩
  · have h1 : ¬ b < 0 := by omega
    have h2 : 63 < b := by omega
    go_enter Tryd.func11, Tryd.ntmps11
    go_wp2
    go_ret2
    exact ⟨rfl, rfl⟩

/-- the blocks below a number -/
def upto (s k : Nat) : List Int := ((List.range k).filter fun i => s.testBit i).map fun n : Nat => (n : Int)
theorem upto_all (s : Nat) : upto s 64 = ints s := rfl
theorem upto_yes (s k : Nat) (h : s.testBit k = true) : upto s (k + 1) = upto s k ++ [(k : Int)] := by
  unfold upto
  rw [List.range_succ, List.filter_append, List.map_append]
  simp [h]
theorem upto_no (s k : Nat) (h : s.testBit k = false) : upto s (k + 1) = upto s k := by
  unfold upto
  rw [List.range_succ, List.filter_append, List.map_append]
  simp [h]
theorem upto_len (s k : Nat) : (upto s k).length ≤ k := by
  have := List.length_filter_le (fun i => s.testBit i) (List.range k)
  simpa [upto] using this
theorem refList_any (s : Nat) (w : World) :
    Calls Tryd.prog 15 #[.int .u64 (s : Int)] w (ListPost s w) := by
  go_enter Tryd.func15, Tryd.ntmps15
  go_wp2
  go_loopw [3, 4] (fun v i wr => ∃ k : Nat, k ≤ 64 ∧ i = .int .i64 (k : Int) ∧ OwnR 3 wr w.heap.size v (iv (upto s k)) ∧ Below w.heap.size w wr) (fun _ i _ => 64 - (intOf i).toNat)
  case atStart => exact ⟨0, by omega, rfl, OwnR.nil_, Below.refl _ _⟩
  case round =>
    obtain ⟨k, hk, rfl, hown, hbel⟩ := hrel
    by_cases hk64 : k < 64
    · cases h : s.testBit k with
      | true =>
        have h1 := upto_yes s k h
        have h2 := upto_len s k
        have H := Lib.hid (And.intro h h1)
        clear h h1
        go_wp2_with (first
          | (go_at_call 19; refine (refHas_in s k hk64 _).mono ?_; (rintro e w' ⟨rfl, rfl⟩; rw [H.out.1]))
          | (at_builtin; refine wpList_appendR rfl (.tmp 12) (.tmp 14) elInts rfl w.heap.size _ (iv (upto s k)) rfl (hown.alloc _) _ (iv [(k : Int)]) 1 1 (wr.heap.size + 1) rfl rfl ?c1 (iv_one _) ?c2 ?c3 ?c4 ?c5; rotate_left 4; (intro v' w' ho hg hat)))
        · go_roundw
          case rel =>
            refine ⟨k + 1, by omega, by go_num, ?_, ?_⟩
            · rw [H.out.2, iv_append]; exact ho
            · exact grown_belowR (hbel.alloc hbel.size _) hg (by have := hbel.size; simp; omega) (hown.alloc _) (Nat.le_refl _)
          case measure => simp [intOf]; omega
        case c1 => exact (BlkR.new wr (iv [(k : Int)]) 3).row ⟨[], (List.append_nil _).symm⟩ (Nat.lt_succ_self _)
        case c2 => rw [iv_length, iv_length]; unfold maxLen; simp; omega
        case c3 => rw [iv_length, iv_length]; simp; omega
        case c4 => have := hbel.size; simp; omega
      | false =>
        have h1 := upto_no s k h
        have H := Lib.hid (And.intro h h1)
        clear h h1
        go_wp2_with (go_at_call 19; refine (refHas_in s k hk64 _).mono ?_; (rintro e w' ⟨rfl, rfl⟩; rw [H.out.1]))
        go_roundw
        case rel => exact ⟨k + 1, by omega, by go_num, by rw [H.out.2]; exact hown, hbel⟩
        case measure => simp [intOf]; omega
    · obtain rfl : k = 64 := by omega
      rw [upto_all] at hown
      obtain ⟨A, c, rfl, hlc, hcm⟩ := hown.form
      have e2 : (iv (ints s)).length = cnt s := by rw [iv_length, ints_length]
      rw [e2] at hown hlc ⊢
      clear e2
      go_wp2
      go_ret
      exact ⟨A, c, rfl, hlc, hcm, hown, hbel⟩
/-- the document's First, over its own list -/
theorem refFirst_hit (s : Nat) (f : Int) (hs : s < 2 ^ 64) (h0 : rest s (lo f) ≠ 0) (w : World) :
    Calls Tryd.prog 13 #[.int .u64 (s : Int), .int .i64 f] w fun e w' => e = .returned (.tuple #[.int .i64 (low (rest s (lo f)) : Int), .bool true]) ∧ Below w.heap.size w w' := by
  have hc := cnt_le s
  have H0 := Lib.hid h0
  clear h0
  go_enter Tryd.func13, Tryd.ntmps13
  go_wp2_with (go_at_call 15; refine (refList_any s _).mono ?_; (rintro e w1 ⟨A, c, rfl, hlc, hcm, hown, hbel⟩))
  have hrow := hown.row
  have hlen := ints_length s
  go_loop [7] (fun i => ∃ k : Nat, k ≤ cnt s ∧ i = .int .i64 (k : Int) ∧ ∀ (j y : Nat), j < k → (els s)[j]? = some y → (y : Int) < f) (fun i => cnt s - (intOf i).toNat)
  case atStart => exact ⟨0, Nat.zero_le _, rfl, fun j y h => absurd h (by omega)⟩
  case round =>
    obtain ⟨k, hk, rfl, hall⟩ := hrel
    by_cases hlt : k < cnt s
    · obtain ⟨x, hx⟩ : ∃ x, (els s)[k]? = some x := ⟨_, List.getElem?_eq_getElem hlt⟩
      have hg : (iv (ints s))[k]? = some (.int .i64 (x : Int)) := by simp [iv, ints, hx]
      obtain ⟨ad, rfl, _, hcell⟩ := hrow.at_ hg
      have HA := Lib.hid (And.intro hall (And.intro hx (And.intro hown hbel)))
      clear hall hx hg hown hbel hrow hlen
      by_cases hxf : f ≤ (x : Int)
      · go_wp2
        go_ret2
        obtain ⟨hall, hx, hown, hbel⟩ := HA.out
        rw [(first_hit hs hx hall hxf).2]
        exact ⟨rfl, hbel⟩
      · go_wp2
        go_round
        case rel =>
          obtain ⟨hall, hx, _⟩ := HA.out
          refine ⟨k + 1, by omega, by go_num, fun j y hj hy => ?_⟩
          rcases Nat.lt_or_eq_of_le (show j ≤ k by omega) with h | h
          · exact hall j y h hy
          · subst h
            rw [hx] at hy
            rw [← Option.some.inj hy]; omega
        case measure => simp [intOf]; omega
    · exact absurd (first_miss hs fun j y hj => hall j y (by have := (List.getElem?_eq_some_iff.1 hj).1; unfold cnt at hk hlt; omega) hj) H0.out
theorem refFirst_miss (s : Nat) (f : Int) (hs : s < 2 ^ 64) (h0 : rest s (lo f) = 0) (w : World) :
    Calls Tryd.prog 13 #[.int .u64 (s : Int), .int .i64 f] w fun e w' => e = .returned (.tuple #[.int .i64 0, .bool false]) ∧ Below w.heap.size w w' := by
  have hc := cnt_le s
  have H0 := Lib.hid h0
  clear h0
  go_enter Tryd.func13, Tryd.ntmps13
  go_wp2_with (go_at_call 15; refine (refList_any s _).mono ?_; (rintro e w1 ⟨A, c, rfl, hlc, hcm, hown, hbel⟩))
  have hrow := hown.row
  go_loop [7] (fun i => ∃ k : Nat, k ≤ cnt s ∧ i = .int .i64 (k : Int) ∧ ∀ (j y : Nat), j < k → (els s)[j]? = some y → (y : Int) < f) (fun i => cnt s - (intOf i).toNat)
  case atStart => exact ⟨0, Nat.zero_le _, rfl, fun j y h => absurd h (by omega)⟩
  case round =>
    obtain ⟨k, hk, rfl, hall⟩ := hrel
    by_cases hlt : k < cnt s
    · obtain ⟨x, hx⟩ : ∃ x, (els s)[k]? = some x := ⟨_, List.getElem?_eq_getElem hlt⟩
      have hg : (iv (ints s))[k]? = some (.int .i64 (x : Int)) := by simp [iv, ints, hx]
      obtain ⟨ad, rfl, _, hcell⟩ := hrow.at_ hg
      by_cases hxf : f ≤ (x : Int)
      · exact absurd H0.out (first_hit hs hx hall hxf).1
      · have HA := Lib.hid (And.intro hall (And.intro hx (And.intro hown hbel)))
        clear hall hx hg hown hbel hrow
        go_wp2
        go_round
        case rel =>
          obtain ⟨hall, hx, _⟩ := HA.out
          refine ⟨k + 1, by omega, by go_num, fun j y hj hy => ?_⟩
          rcases Nat.lt_or_eq_of_le (show j ≤ k by omega) with h | h
          · exact hall j y h hy
          · subst h
            rw [hx] at hy
            rw [← Option.some.inj hy]; omega
        case measure => simp [intOf]; omega
    · obtain rfl : k = cnt s := by omega
      go_wp2
      go_ret2
      exact ⟨rfl, hbel⟩
theorem refOf_good (A : Option Addr) (l : List Int) (n c B : Nat) (hn : l.length = n) (w : World) (hm : l.length ≤ 1000000) (hr : RowAt w B A (iv l)) (hl : ∀ b ∈ l, okb b = true) :
    Calls Tryd.prog 27 #[.slice A n c] w fun e w' => e = .returned (.tuple #[.int .u64 (ofl l : Int), .int .i64 0]) ∧ w = w' := by
  subst hn
  go_enter Tryd.func27, Tryd.ntmps27
  go_wp2
  go_loop [4, 5] (fun s i => ∃ k : Nat, k ≤ l.length ∧ i = .int .i64 (k : Int) ∧ s = .int .u64 (ofl (l.take k) : Int)) (fun _ i => l.length - (intOf i).toNat)
  case atStart => exact ⟨0, Nat.zero_le _, rfl, rfl⟩
  case round =>
    obtain ⟨k, hk, rfl, rfl⟩ := hrel
    by_cases hlt : k < l.length
    · have hb := okb_iff.1 (hl _ (List.getElem_mem hlt))
      obtain ⟨b, hb0⟩ : ∃ b : Nat, l.getD k 0 = (b : Int) := ⟨(l.getD k 0).toNat, by rw [List.getD_eq_getElem?_getD, List.getElem?_eq_getElem hlt]; simp; omega⟩
      have hb1 : b < 64 := by rw [List.getD_eq_getElem?_getD, List.getElem?_eq_getElem hlt] at hb0; simp at hb0; omega
      obtain ⟨ad, rfl, _, hcell⟩ := hr.at_ (iv_get l k hlt)
      rw [hb0] at hcell
      have hs := ofl_lt (l.take k) fun x hx => hl x (List.mem_of_mem_take hx)
      have e1 : ofl (l.take (k + 1)) = ofl (l.take k) ||| 2 ^ b := by
        rw [List.take_succ_eq_append_getElem hlt, ofl_snoc]
        rw [List.getD_eq_getElem?_getD, List.getElem?_eq_getElem hlt] at hb0
        simp at hb0
        rw [hb0, Int.toNat_natCast]
      obtain ⟨s, hs0⟩ : ∃ s, s = ofl (l.take k) := ⟨_, rfl⟩
      rw [← hs0] at hs e1 ⊢
      have HE := Lib.hid e1
      clear e1 hr hl hb hb0 hs0
      go_wp2_with (go_at_call 9; refine (refPut_in s b hs hb1 _).mono ?_; rintro e w' ⟨rfl, rfl⟩)
      go_round
      case rel => exact ⟨k + 1, by omega, by go_num, by rw [HE.out]⟩
      case measure => simp [intOf]; omega
    · obtain rfl : k = l.length := by omega
      rw [List.take_length]
      go_wp2
      go_ret2
      exact ⟨rfl, rfl⟩
theorem refOf_bad (A : Option Addr) (l : List Int) (n c B : Nat) (hn : l.length = n) (w : World) (hm : l.length ≤ 1000000) (hr : RowAt w B A (iv l)) (hl : ¬ ∀ b ∈ l, okb b = true) :
    Calls Tryd.prog 27 #[.slice A n c] w fun e w' => e = .returned (.tuple #[.int .u64 0, .int .i64 5]) ∧ w = w' := by
  subst hn
  go_enter Tryd.func27, Tryd.ntmps27
  go_wp2
  go_loop [4, 5] (fun s i => ∃ k : Nat, k ≤ l.length ∧ i = .int .i64 (k : Int) ∧ (∀ b ∈ l.take k, okb b = true) ∧ s = .int .u64 (ofl (l.take k) : Int)) (fun _ i => l.length - (intOf i).toNat)
  case atStart => exact ⟨0, Nat.zero_le _, rfl, fun b hb => (by rw [List.take_zero] at hb; cases hb), rfl⟩
  case round =>
    obtain ⟨k, hk, rfl, hok, rfl⟩ := hrel
    by_cases hlt : k < l.length
    · obtain ⟨ad, rfl, _, hcell⟩ := hr.at_ (iv_get l k hlt)
      have hs := ofl_lt (l.take k) hok
      by_cases hb : okb (l.getD k 0) = true
      · have hb' := okb_iff.1 hb
        obtain ⟨b, hb0⟩ : ∃ b : Nat, l.getD k 0 = (b : Int) := ⟨(l.getD k 0).toNat, by omega⟩
        have hb1 : b < 64 := by omega
        have hok1 : ∀ x ∈ l.take (k + 1), okb x = true := fun x hx => by
          rw [List.take_succ_eq_append_getElem hlt] at hx
          rcases List.mem_append.1 hx with h | h
          · exact hok x h
          · rw [List.getD_eq_getElem?_getD, List.getElem?_eq_getElem hlt] at hb
            simp at h hb
            rw [h]; exact hb
        have e1 : ofl (l.take (k + 1)) = ofl (l.take k) ||| 2 ^ b := by
          rw [List.take_succ_eq_append_getElem hlt, ofl_snoc]
          rw [List.getD_eq_getElem?_getD, List.getElem?_eq_getElem hlt] at hb0
          simp at hb0
          rw [hb0, Int.toNat_natCast]
        rw [hb0] at hcell
        obtain ⟨s, hs0⟩ : ∃ s, s = ofl (l.take k) := ⟨_, rfl⟩
        rw [← hs0] at hs e1 ⊢
        have HE := Lib.hid (And.intro e1 hok1)
        clear e1 hok1 hok hr hl hb hb' hb0 hs0
        go_wp2_with (go_at_call 9; refine (refPut_in s b hs hb1 _).mono ?_; rintro e w' ⟨rfl, rfl⟩)
        go_round
        case rel => exact ⟨k + 1, by omega, by go_num, HE.out.2, by rw [HE.out.1]⟩
        case measure => simp [intOf]; omega
      · have hb' : l.getD k 0 < 0 ∨ 64 ≤ l.getD k 0 := by rw [okb_iff] at hb; omega
        obtain ⟨b, hb0⟩ : ∃ b, b = l.getD k 0 := ⟨_, rfl⟩
        rw [← hb0] at hb' hcell
        clear hok hr hl hb hb0
        go_wp2_with (go_at_call 9; refine (refPut_out _ b hb' _).mono ?_; rintro e w' ⟨rfl, rfl⟩)
        go_ret2
        exact ⟨rfl, rfl⟩
    · obtain rfl : k = l.length := by omega
      rw [List.take_length] at hok
      exact absurd hok hl
theorem refAll_in (n : Int) (h1 : 0 ≤ n) (h2 : n ≤ 64) (w : World) :
    Calls Tryd.prog 25 #[.int .i64 n] w fun e w' => e = .returned (.tuple #[.int .u64 (ones (lo n) : Int), .int .i64 0]) ∧ w = w' := by
  have h3 : ¬ 64 < n := by omega
  have h4 : ¬ n < 0 := by omega
  go_enter Tryd.func25, Tryd.ntmps25
  go_wp2
  go_loop [4, 5] (fun s i => ∃ k : Nat, (k : Int) ≤ n ∧ i = .int .i64 (k : Int) ∧ s = .int .u64 (ones k : Int)) (fun _ i => n.toNat - (intOf i).toNat)
  case atStart => exact ⟨0, h1, rfl, rfl⟩
  case round =>
    obtain ⟨k, hk, rfl, rfl⟩ := hrel
    by_cases hlt : (k : Int) < n
    · have e1 := ones_put k
      have hs := ones_lt k (by omega)
      obtain ⟨s, hs0⟩ : ∃ s, s = ones k := ⟨_, rfl⟩
      rw [← hs0] at hs e1 ⊢
      have HE := Lib.hid e1
      clear e1 hs0
      go_wp2_with (go_at_call 9; refine (refPut_in s k hs (by omega) _).mono ?_; rintro e w' ⟨rfl, rfl⟩)
      go_round
      case rel => exact ⟨k + 1, by omega, by go_num, by rw [HE.out]⟩
      case measure => simp [intOf]; omega
    · obtain rfl : n = (k : Int) := by omega
      have e1 : lo (k : Int) = k := by unfold lo; omega
      have E1 := Lib.hid e1
      clear e1
      go_wp2
      go_ret2
      rw [E1.out]
      exact ⟨rfl, rfl⟩
theorem refAll_out (n : Int) (h : n < 0 ∨ 64 < n) (w : World) :
    Calls Tryd.prog 25 #[.int .i64 n] w fun e w' => e = .returned (.tuple #[.int .u64 0, .int .i64 5]) ∧ w = w' := by
  rcases h with h | h
  · go_enter Tryd.func25, Tryd.ntmps25
    go_wp2
    go_ret2
    exact ⟨rfl, rfl⟩
  · have h3 : ¬ n < 0 := by omega
    go_enter Tryd.func25, Tryd.ntmps25
    go_wp2
    go_ret2
    exact ⟨rfl, rfl⟩
theorem refWithin_any (s : Nat) (f : Int) (hs : s < 2 ^ 64) (w : World) :
    Calls Tryd.prog 21 #[.int .u64 (s : Int), .int .i64 f] w fun e w' => e = .returned (.bool (inB s f)) ∧ Below w.heap.size w w' := by
  have hc := cnt_le s
  by_cases h0 : els s = []
  · have e1 : inB s f = true := by unfold inB; rw [within_none hs h0]; rfl
    have e2 : cnt s = 0 := by unfold cnt; rw [h0]; rfl
    have HE := Lib.hid (And.intro e1 e2)
    clear e1 e2 h0
    go_enter Tryd.func21, Tryd.ntmps21
    go_wp2_with (go_at_call 15; refine (refList_any s _).mono ?_; (rintro e w1 ⟨A, c, rfl, hlc, hcm, hown, hbel⟩; rw [HE.out.2]))
    go_ret
    rw [HE.out.1]
    exact ⟨rfl, hbel⟩
  · have hpos : 0 < cnt s := List.length_pos_iff.2 h0
    obtain ⟨m, hm⟩ : ∃ m, cnt s = m + 1 := ⟨cnt s - 1, by omega⟩
    obtain ⟨x, hx⟩ : ∃ x, (els s)[m]? = some x := ⟨_, List.getElem?_eq_getElem (show m < cnt s by omega)⟩
    have hx' : (els s)[(els s).length - 1]? = some x := by rw [show (els s).length = m + 1 from hm]; exact hx
    have e1 : inB s f = decide ((x : Int) < f) := by
      unfold inB
      rw [Bool.eq_iff_iff]
      simp only [beq_iff_eq, decide_eq_true_eq]
      exact within_last hs hx'
    have hg : (iv (ints s))[m]? = some (.int .i64 (x : Int)) := by simp [iv, ints, hx]
    have HE := Lib.hid (And.intro e1 (And.intro hm hg))
    have hm64 : m < 64 := by omega
    clear e1 hx hx' h0 hm hg hpos
    go_enter Tryd.func21, Tryd.ntmps21
    go_wp2_with fail
    refine (refList_any s _).mono ?_
    rintro e w1 ⟨A, c, rfl, hlc, hcm, hown, hbel⟩
    obtain ⟨ad, rfl, _, hcell⟩ := hown.row.at_ HE.out.2.2
    rw [HE.out.2.1]
    have hneg : (((m + 1 : Nat) : Int) == 0) = false := by simp; omega
    have hw : IntKind.i64.wrap (((m + 1 : Nat) : Int) - 1) = (m : Int) := by rw [IntKind.wrap_i64]; omega
    go_wp2
    go_ret
    rw [HE.out.1]
    exact ⟨rfl, hbel⟩
end Go.Proofs.YtohgencmeloknaaDoor
