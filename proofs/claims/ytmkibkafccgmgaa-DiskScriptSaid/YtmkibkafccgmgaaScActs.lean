/-
  The calls of a script, as they came in; tandemlaw04.Long. Conditions: none.
-/
import Derived.Test.YtmkibkafccgmgaaScAct
namespace Go.Proofs.Ytmkibkafccgmgaa
open Go.RowKit

/-- a call as it lies in memory -/
structure ActM where
  x : ActL
  A : Option Addr
  cb : Nat
  AK : Option Addr
  ck : Nat
def actCells (m : ActM) : List Value := [.int .i64 m.x.kind, .int .i64 m.x.n, .int .i64 m.x.at_, .int .u8 (m.x.mask.toNat : Int), .slice m.A m.x.b.length m.cb, .slice m.AK m.x.keeps.length m.ck]
/-- the slice at A0 reads as the calls ms, below block B -/
structure ActsAt (w : World) (B : Nat) (A0 : Option Addr) (ms : List ActM) : Prop where
  at_ : ms ≠ [] → ∃ ad, A0 = some ad ∧ ad.block < B ∧ ∀ k m, ms[k]? = some m → ∀ j v, (actCells m)[j]? = some v → w.cell? ((ad.add (k * 6)).add j) = some v
  b : ∀ m, m ∈ ms → BytesAt w B m.A m.x.b
  k : ∀ m, m ∈ ms → RowAt w B m.AK (bv m.x.keeps)
  n : ∀ m, m ∈ ms → -9223372036854775808 ≤ m.x.n ∧ m.x.n ≤ 9223372036854775807
theorem ActsAt.below {w w' : World} {B : Nat} {A0 : Option Addr} {ms : List ActM} (h : ActsAt w B A0 ms) (hb : Below B w w') : ActsAt w' B A0 ms :=
  ⟨fun hne => by
    obtain ⟨ad, e, hB, hc⟩ := h.at_ hne
    exact ⟨ad, e, hB, fun k m hm j v hv => (hb.cell (by rw [block_add, block_add]; exact hB)).trans (hc k m hm j v hv)⟩,
   fun m hm => (h.b m hm).below hb, fun m hm => (h.k m hm).below hb, h.n⟩
theorem add_at (a : Addr) (n : Nat) (h : n ≠ 0) : a.add n = ⟨a.block, a.off + n, none⟩ := by unfold Addr.add; rw [if_neg h]
theorem add_none (a : Addr) : a.add 0 = a := by unfold Addr.add; simp
def aNat : Value → Nat
  | .int _ q => q.toNat
  | _ => 0
def LongPost (ms : List ActM) (w : World) (e : Ending) (w' : World) : Prop :=
  ∃ r, e = .returned (.bool r) ∧ w = w' ∧ (r = false → ms.length ≤ 80 ∧ ∀ m, m ∈ ms → m.x.b.length ≤ 100 ∧ m.x.keeps.length ≤ 1030)
set_option maxRecDepth 100000 in
theorem long_any (w : World) (A0 : Option Addr) (ms : List ActM) (c0 : Nat) (h : ActsAt w w.heap.size A0 ms) (hm : ms.length ≤ 9223372036854775807) : Calls Try.prog 9 #[.slice A0 ms.length c0] w (LongPost ms w) := by
  obtain ⟨n, hn⟩ : ∃ n, n = ms.length := ⟨_, rfl⟩
  rw [← hn]
  have HN := Lib.hid (And.intro hn (And.intro hm h))
  clear hn hm h
  go_enter Try.func9, Try.ntmps9
  go_wp2
  go_loopw [3] (fun ix wr => ∃ i, i ≤ n ∧ i ≤ 81 ∧ ix = .int .i64 ((i : Nat) : Int) ∧ wr = w ∧ (∀ k m, k < i → ms[k]? = some m → m.x.b.length ≤ 100 ∧ m.x.keeps.length ≤ 1030)) (fun ix _ => 82 - aNat ix)
  case atStart => exact ⟨0, Nat.zero_le _, Nat.zero_le _, rfl, rfl, fun k m hk => by omega⟩
  case round =>
    obtain ⟨i, hi, hi2, rfl, rfl, hall⟩ := hrel
    by_cases hlt : i < n
    · by_cases h81 : i < 81
      · obtain ⟨m, hm⟩ : ∃ m, ms[i]? = some m := ⟨_, List.getElem?_eq_getElem (by rw [← HN.out.1]; exact hlt)⟩
        obtain ⟨ad, rfl, hbl, hc⟩ := HN.out.2.2.at_ (by rintro rfl; simp at hm)
        have y4 := hc i m hm 4 _ rfl
        have y5 := hc i m hm 5 _ rfl
        rw [add_at _ 4 (by decide)] at y4
        rw [add_at _ 5 (by decide)] at y5
        have hlt' : (i : Int) < (n : Int) := by omega
        have h81' : (i : Int) < 81 := by omega
        have hw1 : IntKind.i64.wrap ((i : Int) + 1) = (i : Int) + 1 := IntWalk.i64_in _ (by omega)
        obtain ⟨lb, hlb⟩ : ∃ x, x = m.x.b.length := ⟨_, rfl⟩
        obtain ⟨lk, hlk⟩ : ∃ x, x = m.x.keeps.length := ⟨_, rfl⟩
        rw [← hlb] at y4
        rw [← hlk] at y5
        have HM := Lib.hid (And.intro hm (And.intro hlb (And.intro hlk hall)))
        clear hm hlb hlk hall hbl hc
        by_cases hb : lb ≤ 100
        · have hb' : ¬ (100 : Int) < (lb : Int) := by omega
          by_cases hk : lk ≤ 1030
          · have hk' : ¬ (1030 : Int) < (lk : Int) := by omega
            go_wp2
            go_roundw
            case rel =>
              refine ⟨i + 1, by omega, by omega, by go_num, by first | trivial | rfl, fun k m' hk2 hm' => ?_⟩
              by_cases e : k = i
              · subst e
                rw [HM.out.1] at hm'
                obtain rfl := Option.some.inj hm'
                rw [← HM.out.2.1, ← HM.out.2.2.1]
                exact ⟨hb, hk⟩
              · exact HM.out.2.2.2 k m' (by omega) hm'
            case measure => simp [aNat]; omega
          · have hk' : (1030 : Int) < (lk : Int) := by omega
            go_wp2
            go_ret
            exact ⟨true, rfl, rfl, fun h => by cases h⟩
        · have hb' : (100 : Int) < (lb : Int) := by omega
          go_wp2
          go_ret
          exact ⟨true, rfl, rfl, fun h => by cases h⟩
      · obtain rfl : i = 81 := by omega
        have h80 : (80 : Int) < (n : Int) := by omega
        have hlt' : ((81 : Nat) : Int) < (n : Int) := by omega
        go_wp2
        go_ret
        exact ⟨true, rfl, rfl, fun h => by cases h⟩
    · obtain rfl : i = n := by omega
      have HA := Lib.hid hall
      clear hall
      go_wp2
      go_ret
      refine ⟨_, rfl, rfl, fun h => ?_⟩
      have h80 : i ≤ 80 := by
        simp only [decide_eq_false_iff_not] at h
        omega
      refine ⟨by rw [← HN.out.1]; exact h80, fun m hm => ?_⟩
      obtain ⟨k, hk⟩ := List.getElem?_of_mem hm
      exact HA.out k m (by have := (List.getElem?_eq_some_iff.1 hk).1; rw [← HN.out.1] at this; exact this) hk
end Go.Proofs.Ytmkibkafccgmgaa
