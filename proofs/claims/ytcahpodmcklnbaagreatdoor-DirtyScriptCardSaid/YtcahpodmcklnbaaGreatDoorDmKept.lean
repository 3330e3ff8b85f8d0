/-
  The program's own disk: kept, the loose sectors that a crash does not lose. Conditions: none.
-/
import Derived.Test.YtcahpodmcklnbaaGreatDoorDb
import Derived.Test.YtcahpodmcklnbaaGreatDoorMirCrashM
namespace Go.Proofs.YtcahpodmcklnbaaGreatDoor
open Go.RowKit

namespace DS
/-- of the first i loose sectors those that stay -/
def keptTo (S : DS) (keeps : List Bool) (i : Nat) : List Nat := ((S.looseBelow S.n).take i).filter (S.stays keeps)
theorem keptTo_zero (S : DS) (keeps : List Bool) : S.keptTo keeps 0 = [] := rfl
theorem keptTo_succ (S : DS) (keeps : List Bool) {i s : Nat} (h : (S.looseBelow S.n)[i]? = some s) : S.keptTo keeps (i + 1) = S.keptTo keeps i ++ (if S.stays keeps s = true then [s] else []) := by
  unfold keptTo
  obtain ⟨hi, e⟩ := List.getElem?_eq_some_iff.1 h
  rw [List.take_add_one, h, List.filter_append]
  congr 1
  by_cases hs : S.stays keeps s = true
  · rw [if_pos hs]; simp [hs]
  · rw [if_neg hs]; simp [hs]
theorem keptTo_all (S : DS) (keeps : List Bool) : S.keptTo keeps (S.looseBelow S.n).length = S.stayBelow keeps S.n := by
  unfold keptTo looseBelow stayBelow
  rw [List.take_length, List.filter_filter]
  congr 1
  funext s
  unfold stays
  cases S.isLoose s <;> simp
theorem keptTo_len (S : DS) (keeps : List Bool) (i : Nat) : (S.keptTo keeps i).length ≤ S.n := by
  unfold keptTo looseBelow
  refine Nat.le_trans (List.length_filter_le _ _) (Nat.le_trans (List.length_take_le' _ _) (Nat.le_trans (List.length_filter_le _ _) ?_))
  simp
/-- does the i-th loose one stay -/
theorem stays_at (S : DS) (keeps : List Bool) {i s : Nat} (h : (S.looseBelow S.n)[i]? = some s) : S.stays keeps s = (keeps[i]?).getD false := by
  obtain ⟨_, h2, h3⟩ := S.looseBelow_at _ _ _ h
  unfold stays
  rw [h2, h3, Bool.true_and]
def asInts (l : List Nat) : List Int := l.map fun i : Nat => (i : Int)
theorem looseList_at (S : DS) {i s : Nat} (h : (S.looseBelow S.n)[i]? = some s) : (iv S.looseList)[i]? = some (.int .i64 (s : Int)) := by
  unfold iv looseList
  simp [h]
end DS
def vNat : Value → Nat
  | .int _ q => q.toNat
  | _ => 0
/-- what kept tells: a slice of its own -/
def KeptPost (S : DS) (keeps : List Bool) (w : World) (e : Ending) (w' : World) : Prop :=
  ∃ v, e = .returned v ∧ OwnR 3 w' w.heap.size v (iv (DS.asInts (S.stayBelow keeps S.n))) ∧ Below w.heap.size w w'
set_option maxRecDepth 100000 in
theorem dKept (w : World) (b : Nat) (F : Nat → Prop) (S : DS) (AK : Option Addr) (keeps : List Bool) (nk ck : Nat) (h : DiskAt w b F S) (hk : RowAt w w.heap.size AK (keeps.map Value.bool)) (hnk : keeps.length = nk) :
    Calls Tryz.prog 72 #[.pointer (some ⟨b, 0, none⟩), .slice AK nk ck] w (KeptPost S keeps w) := by
  have zl := dLoose w b F S h
  have hn2 := h.ok.n2
  have hlen : S.looseList.length = (S.looseBelow S.n).length := by unfold DS.looseList; rw [List.length_map]
  have hle := S.looseList_len
  obtain ⟨N, hN⟩ : ∃ N, N = S.looseList.length := ⟨_, rfl⟩
  rw [← hN] at zl hlen hle
  have HN := Lib.hid hlen
  have HB := Lib.hid (And.intro hle hn2)
  have HK := Lib.hid hk
  have HL := Lib.hid hnk
  clear hN hlen hle hn2 hk hnk h
  go_enter Tryz.func72, Tryz.ntmps72
  go_wp2_with (go_at_call 89; refine zl.mono ?_; (rintro e w1 ⟨A, c1, rfl, hc1, hr1, hB1⟩; have hr1 := Lib.hid hr1; have hB1 := Lib.hid hB1))
  clear zl
  go_loopw [5, 11] (fun lv ix wr => ∃ i, i ≤ N ∧ ix = .int .i64 ((i : Nat) : Int) ∧ OwnR 3 wr w1.heap.size lv (iv (DS.asInts (S.keptTo keeps i))) ∧ Below w1.heap.size w1 wr) (fun _ ix _ => N - vNat ix)
  case atStart => exact ⟨0, Nat.zero_le _, rfl, OwnR.nil_, Below.refl _ _⟩
  case round =>
    obtain ⟨i, hi, rfl, hown, hB1w⟩ := hrel
    have hBw := step_trans hB1.out hB1w
    by_cases hlt : i < N
    · obtain ⟨s, hs⟩ : ∃ s, (S.looseBelow S.n)[i]? = some s := ⟨_, List.getElem?_eq_getElem (by rw [← HN.out]; exact hlt)⟩
      obtain ⟨ad, rfl, hbl, hcell0⟩ := hr1.out.at_ (S.looseList_at hs)
      have hcell : wr.cell? (ad.add i) = some (.int .i64 (s : Int)) := (hB1w.cell (p := ad.add i) (by rw [block_add]; exact hbl)).trans hcell0
      have hsucc := S.keptTo_succ keeps hs
      have hst := S.stays_at keeps hs
      have hkl := Lib.hid (S.keptTo_len keeps i)
      have hw1 : IntKind.i64.wrap ((i : Int) + 1) = (i : Int) + 1 := IntWalk.i64_in _ (by have := HB.out; omega)
      clear hs hcell0 hbl
      by_cases hk : i < nk
      · obtain ⟨kb, hkb⟩ : ∃ kb, keeps[i]? = some kb := ⟨_, List.getElem?_eq_getElem (by rw [HL.out]; exact hk)⟩
        obtain ⟨ad2, rfl, hb2, hc2⟩ := HK.out.at_ (k := i) (u := .bool kb) (by rw [List.getElem?_map, hkb]; rfl)
        have hcell2 : wr.cell? (ad2.add i) = some (.bool kb) := (hBw.cell (p := ad2.add i) (by rw [block_add]; exact hb2)).trans hc2
        rw [hkb, Option.getD_some] at hst
        rw [hst] at hsucc
        have hkk : (i : Int) < (nk : Int) := by omega
        clear hkb hst hb2 hc2
        cases kb with
        | true =>
          rw [if_pos rfl] at hsucc
          have hsucc := Lib.hid hsucc
          go_wp2_with (at_builtin; refine wpList_appendR rfl _ _ elI rfl w1.heap.size _ (iv (DS.asInts (S.keptTo keeps i))) rfl (hown.alloc _) _ (iv [(s : Int)]) 1 1 (wr.heap.size + 1) rfl rfl ?c1 (iv_one _) ?c2 ?c3 ?c4 ?c5; rotate_left 4; (intro v' w' ho hg hat))
          · go_roundw
            case rel =>
              refine ⟨i + 1, by omega, by go_num, ?_, ?_⟩
              · rw [hsucc.out]
                unfold DS.asInts at ho ⊢
                rw [List.map_append, iv_append]
                exact ho
              · exact grown_belowR (hB1w.alloc hB1w.size _) hg (by have := hB1w.size; simp; omega) (hown.alloc _) (Nat.le_refl _)
            case measure => simp [vNat]; omega
          case c1 => exact (BlkR.new wr (iv [(s : Int)]) 3).row ⟨[], (List.append_nil _).symm⟩ (Nat.lt_succ_self _)
          case c2 => have := hkl.out; have := HB.out; rw [iv_length, iv_length]; unfold maxLen DS.asInts; rw [List.length_map]; simp; omega
          case c3 => have := hkl.out; have := HB.out; rw [iv_length, iv_length]; unfold DS.asInts; rw [List.length_map]; simp; omega
          case c4 => have := hB1w.size; simp; omega
        | false =>
          rw [if_neg (by decide), List.append_nil] at hsucc
          have hsucc := Lib.hid hsucc
          go_wp2
          go_roundw
          case rel => exact ⟨i + 1, by omega, by go_num, by rw [hsucc.out]; exact hown, hB1w⟩
          case measure => simp [vNat]; omega
      · rw [List.getElem?_eq_none (by rw [HL.out]; omega), Option.getD_none] at hst
        rw [hst, if_neg (by decide), List.append_nil] at hsucc
        have hsucc := Lib.hid hsucc
        have hkk : ¬ (i : Int) < (nk : Int) := by omega
        clear hst
        go_wp2
        go_roundw
        case rel => exact ⟨i + 1, by omega, by go_num, by rw [hsucc.out]; exact hown, hB1w⟩
        case measure => simp [vNat]; omega
    · obtain rfl : i = N := by omega
      go_wp2
      go_ret
      rw [HN.out, DS.keptTo_all] at hown
      exact ⟨_, rfl, hown.less hB1.out.size, hBw⟩
end Go.Proofs.YtcahpodmcklnbaaGreatDoor
