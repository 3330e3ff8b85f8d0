/-
  The calls of a script (tandemlaw05.Act), as they lie in memory; tandemlaw05.Long. Conditions: none.
-/
import Derived.Test.YtkokcdlgfemobaaGreatDoorHaKit
namespace Go.Proofs.YtkokcdlgfemobaaGreatDoor
open Go.RowKit

/-- a call as it lies in memory -/
structure HaM where
  kind : Int
  n : Int
  at_ : Int
  mask : UInt8
  b : List UInt8
  A : Option Addr
  cb : Nat
  keeps : List Bool
  AK : Option Addr
  ck : Nat
def haCells (m : HaM) : List Value := [.int .i64 m.kind, .int .i64 m.n, .int .i64 m.at_, .int .u8 (m.mask.toNat : Int), .slice m.A m.b.length m.cb, .slice m.AK m.keeps.length m.ck]
theorem haCells_len (m : HaM) : (haCells m).length = 6 := rfl
theorem ha_one (m : HaM) : ∀ v ∈ haCells m, v.oneCell' = true := by
  intro v hv
  simp only [haCells, List.mem_cons, List.not_mem_nil, or_false] at hv
  rcases hv with rfl | rfl | rfl | rfl | rfl | rfl <;> rfl
/-- what a call brings: lent, and beside both disks -/
structure HaOk (w : World) (F G : Nat → Prop) (m : HaM) : Prop where
  nb : -9223372036854775808 ≤ m.n ∧ m.n ≤ 9223372036854775807
  lb : m.b.length ≤ 100
  lk : m.keeps.length ≤ 30
  rb : BytesAt w w.heap.size m.A m.b
  rk : RowAt w w.heap.size m.AK (m.keeps.map Value.bool)
  cb : m.b.length ≤ m.cb
  ck : m.keeps.length ≤ m.ck
  ab : m.b ≠ [] → ∀ ad, m.A = some ad → ¬ F ad.block ∧ ¬ G ad.block
  ak : m.keeps.map Value.bool ≠ [] → ∀ ad, m.AK = some ad → ¬ F ad.block ∧ ¬ G ad.block
theorem HaOk.step {w w' : World} {F G : Nat → Prop} {m : HaM} (h : HaOk w F G m) (B : Below w.heap.size w w') : HaOk w' F G m :=
  { h with rb := (h.rb.below B).more B.size, rk := (h.rk.below B).more B.size }
/-- the slice at A0 reads as the calls ms, s cells each, the call o cells in -/
def RunAt (w : World) (s o : Nat) (A0 : Option Addr) (ms : List HaM) : Prop := ms ≠ [] → ∃ ad, A0 = some ad ∧ ∀ k m, ms[k]? = some m → ∀ j v, (haCells m)[j]? = some v → w.cell? ((ad.add (k * s)).add (o + j)) = some v
theorem ha_add (a : Addr) (n : Nat) (h : n ≠ 0) : a.add n = ⟨a.block, a.off + n, none⟩ := by unfold Addr.add; rw [if_neg h]
theorem ha_none (a : Addr) : a.add 0 = a := by unfold Addr.add; simp
def hNat : Value → Nat
  | .int _ q => q.toNat
  | _ => 0
def HaLongPost (ms : List HaM) (w : World) (e : Ending) (w' : World) : Prop :=
  ∃ r, e = .returned (.bool r) ∧ w = w' ∧ (r = false → ms.length ≤ 60 ∧ ∀ m, m ∈ ms → m.b.length ≤ 100 ∧ m.keeps.length ≤ 30)
set_option maxRecDepth 100000 in
theorem haLong_any (w : World) (A0 : Option Addr) (ms : List HaM) (c0 : Nat) (h : RunAt w 6 0 A0 ms) (hm : ms.length ≤ 9223372036854775807) : Calls Tryz.prog 4 #[.slice A0 ms.length c0] w (HaLongPost ms w) := by
  obtain ⟨n, hn⟩ : ∃ n, n = ms.length := ⟨_, rfl⟩
  rw [← hn]
  have HN := Lib.hid (And.intro hn (And.intro hm h))
  clear hn hm h
  go_enter Tryz.func4, Tryz.ntmps4
  go_wp2
  go_loopw [3] (fun ix wr => ∃ i, i ≤ n ∧ i ≤ 61 ∧ ix = .int .i64 ((i : Nat) : Int) ∧ wr = w ∧ (∀ k m, k < i → ms[k]? = some m → m.b.length ≤ 100 ∧ m.keeps.length ≤ 30)) (fun ix _ => 62 - hNat ix)
  case atStart => exact ⟨0, Nat.zero_le _, Nat.zero_le _, rfl, rfl, fun k m hk => by omega⟩
  case round =>
    obtain ⟨i, hi, hi2, rfl, rfl, hall⟩ := hrel
    by_cases hlt : i < n
    · by_cases h61 : i < 61
      · obtain ⟨m, hm⟩ : ∃ m, ms[i]? = some m := ⟨_, List.getElem?_eq_getElem (by rw [← HN.out.1]; exact hlt)⟩
        obtain ⟨ad, rfl, hc⟩ := HN.out.2.2 (by rintro rfl; simp at hm)
        have y4 := hc i m hm 4 _ rfl
        have y5 := hc i m hm 5 _ rfl
        rw [ha_add _ (0 + 4) (by decide)] at y4
        rw [ha_add _ (0 + 5) (by decide)] at y5
        simp only [Nat.zero_add] at y4 y5
        have hlt' : (i : Int) < (n : Int) := by omega
        have h61' : (i : Int) < 61 := by omega
        have hw1 : IntKind.i64.wrap ((i : Int) + 1) = (i : Int) + 1 := IntWalk.i64_in _ (by omega)
        obtain ⟨lb, hlb⟩ : ∃ x, x = m.b.length := ⟨_, rfl⟩
        obtain ⟨lk, hlk⟩ : ∃ x, x = m.keeps.length := ⟨_, rfl⟩
        rw [← hlb] at y4
        rw [← hlk] at y5
        have HM := Lib.hid (And.intro hm (And.intro hlb (And.intro hlk hall)))
        clear hm hlb hlk hall hc
        by_cases hb : lb ≤ 100
        · have hb' : ¬ (100 : Int) < (lb : Int) := by omega
          by_cases hk : lk ≤ 30
          · have hk' : ¬ (30 : Int) < (lk : Int) := by omega
            go_wp2
            go_roundw
            case rel =>
              refine ⟨i + 1, by omega, by omega, by go_num, by first | trivial | rfl, fun k m' hk2 hm' => ?_⟩
              by_cases e : k = i
              · subst e
                rw [HM.out.1] at hm'
                obtain rfl := Option.some.inj hm'
                rw [← HM.out.2.1, ← HM.out.2.2.1]
                exact ⟨hb, hk⟩
              · exact HM.out.2.2.2 k m' (by omega) hm'
            case measure => simp [hNat]; omega
          · have hk' : (30 : Int) < (lk : Int) := by omega
            go_wp2
            go_ret
            exact ⟨true, rfl, rfl, fun h => by cases h⟩
        · have hb' : (100 : Int) < (lb : Int) := by omega
          go_wp2
          go_ret
          exact ⟨true, rfl, rfl, fun h => by cases h⟩
      · obtain rfl : i = 61 := by omega
        have h60 : (60 : Int) < (n : Int) := by omega
        have hlt' : ((61 : Nat) : Int) < (n : Int) := by omega
        go_wp2
        go_ret
        exact ⟨true, rfl, rfl, fun h => by cases h⟩
    · obtain rfl : i = n := by omega
      have HA := Lib.hid hall
      clear hall
      go_wp2
      go_ret
      refine ⟨_, rfl, rfl, fun h => ?_⟩
      have h60 : i ≤ 60 := by
        simp only [decide_eq_false_iff_not] at h
        omega
      refine ⟨by rw [← HN.out.1]; exact h60, fun m hm => ?_⟩
      obtain ⟨k, hk⟩ := List.getElem?_of_mem hm
      exact HA.out k m (by have := (List.getElem?_eq_some_iff.1 hk).1; rw [← HN.out.1] at this; exact this) hk
end Go.Proofs.YtkokcdlgfemobaaGreatDoor
