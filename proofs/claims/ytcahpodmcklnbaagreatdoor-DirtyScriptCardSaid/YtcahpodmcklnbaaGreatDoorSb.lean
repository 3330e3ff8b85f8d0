/-
  Several texts in one (SlLook, SlBoth, SlLoad). Conditions: as each says.
-/
import Derived.Test.YtcahpodmcklnbaaGreatDoorSa
import Derived.Test.YtcahpodmcklnbaaGreatDoorDiskKit
import Derived.Test.YtcahpodmcklnbaaGreatDoorBa
import Derived.Deep.RegionHeldLaw
/-
  slot.look, slot.both, slot.newest: what both sectors of a slot have. Conditions: a disk's methods do what the document says; the table of crc lies as the program's text lays it.
-/
namespace Go.Proofs.YtcahpodmcklnbaaGreatDoor
open Go.RowKit Fix

namespace Slot
/-- why a sector that can be read is not right -/
def wrongE (S : DS) (i : Int) : Int := if S.readE i = 0 then readE (S.readB i) else 0
theorem right_nil : right [] = false := no_len (by decide)
theorem readN_nil : readN [] = 0 := by simp [readN, right_nil]
theorem readB_nil : readB [] = [] := by simp [readB, right_nil]
end Slot
theorem DS.readB_no {S : DS} {i : Int} (h : S.readE i ≠ 0) : S.readB i = [] := by
  unfold DS.readE at h
  unfold DS.readB
  split
  · rfl
  · rename_i h1
    rw [if_neg h1] at h
    split
    · rfl
    · rename_i h2
      rw [if_neg h2] at h
      exact absurd rfl h
theorem DS.readE_zero {S : DS} {i : Int} (h : S.readE i = 0) : S.out = false ∧ 0 ≤ i ∧ i < (S.n : Int) := by
  unfold DS.readE at h
  split at h
  · cases h
  · rename_i h1
    split at h
    · cases h
    · rename_i h2
      rw [Bool.not_eq_false, DS.there_iff] at h2
      exact ⟨by simpa using h1, h2⟩
theorem DS.readB_yes {S : DS} {i : Int} (h : S.readE i = 0) : S.readB i = S.last i.toNat := by
  obtain ⟨h1, h2, h3⟩ := DS.readE_zero h
  have h4 : S.there i = true := by rw [S.there_iff]; exact ⟨h2, h3⟩
  simp [DS.readB, h1, h4]
theorem DS.last_length {S : DS} (h : S.Ok) {k : Nat} (hk : k < S.n) : (S.last k).length = 64 := by
  unfold DS.last
  cases hl : S.loose k with
  | none => exact h.firm k hk
  | some l => exact (h.loose k l hl).2
theorem DS.readB_length {S : DS} (h : S.Ok) {i : Int} (hi : S.readE i = 0) : (S.readB i).length = 64 := by
  rw [DS.readB_yes hi]
  have := DS.readE_zero hi
  exact DS.last_length h (by omega)
theorem rdB_cap {w : World} {base c : Nat} {A : Option Addr} {l : List UInt8} (h : RdB w base A c l) : l.length ≤ c := by
  rcases h with ⟨rfl, _, rfl⟩ | ⟨g, E, rfl, _, _, rfl⟩ <;> simp
/-- what one half says -/
def halfV (S : DS) (i : Int) (A : Option Addr) (c : Nat) : Array Value := #[.int .i64 (S.readE i), .int .i64 (Slot.wrongE S i), .int .i64 (Slot.readN (S.readB i) : Int), .slice A (Slot.readB (S.readB i)).length c]
def LookPost (S : DS) (i : Int) (w : World) (e : Ending) (w' : World) : Prop :=
  ∃ A c, e = .returned (.agg (halfV S i A c)) ∧ c ≤ 9223372036854775807 ∧ Whole w' w.heap.size A c (Slot.readB (S.readB i)) ∧ Below w.heap.size w w'
def halfZ : List Value := [.int .i64 0, .int .i64 0, .int .i64 0, .slice none 0 0]
theorem halfTy : RowTy Tryz.prog 83 halfZ := ⟨fun w => by kernel_rfl, by kernel_rfl, _, Tryz.underlying83, rfl⟩
theorem half_one {a b c : Int} {A : Option Addr} {n k : Nat} : ∀ v ∈ ([.int .i64 a, .int .i64 b, .int .i64 c, .slice A n k] : List Value), v.oneCell' = true := by
  intro v hv
  simp at hv
  rcases hv with rfl | rfl | rfl | rfl <;> rfl
section
variable {At : World → Nat → (Nat → Prop) → DS → Prop} (D : Disks Tryz.prog At)
include D
set_option maxRecDepth 100000 in
theorem look_any (w : World) (b : Nat) (F : Nat → Prop) (S : DS) (i : Int) (ht : TabAt w) (h : At w b F S) : Calls Tryz.prog 63 #[.pointer (some ⟨b, 0, none⟩), .int .i64 i] w (LookPost S i w) := by
  by_cases hx : S.readE i = 0
  · have hl := DS.readB_length (D.ok _ _ _ _ h) hx
    have hw : Slot.wrongE S i = Slot.readE (S.readB i) := by unfold Slot.wrongE; rw [if_pos hx]
    have z : ∀ w, At w b F S → _ := fun w h => D.read w b F S i h
    unfold LookPost halfV
    rw [hw, hx]
    rw [hx] at z
    obtain ⟨rb, hrb⟩ : ∃ x, x = S.readB i := ⟨_, rfl⟩
    rw [← hrb] at z hl ⊢
    rw [hl] at z
    have HL := Lib.hid hl
    clear hw hx hl hrb
    obtain ⟨rn, hrn⟩ : ∃ x, x = Slot.readN rb := ⟨_, rfl⟩
    obtain ⟨re, hre⟩ : ∃ x, x = Slot.readE rb := ⟨_, rfl⟩
    obtain ⟨rr, hrr⟩ : ∃ x, x = Slot.readB rb := ⟨_, rfl⟩
    have zr : ∀ A c w, 64 ≤ c → TabAt w → BytesAt w w.heap.size A rb → _ := fun A c w h1 h2 h3 => slotRead_any A rb 64 c HL.out h1 w h2 h3
    unfold RdPost at zr
    rw [← hrn, ← hre, ← hrr] at zr ⊢
    clear hrn hre hrr
    go_enter Tryz.func63, Tryz.ntmps63
    go_wp2_with (first
      | ((with_reducible refine atWorld w ?_); refine wpList_allocRow (w := w) halfTy rfl rfl ?_; (intro w0 b0 B0 s0; have h0 := At_step D h B0; have t0 := ht.below B0 (Nat.le_refl _); have b0 := Lib.hid b0))
      | (go_at_call 48; refine (z w0 h0).mono ?_; (rintro e w1 ⟨A1, c1, rfl, o1, B1⟩; have r1 := o1.bytes; have hc1 := rdB_cap o1; rw [HL.out] at hc1; have t1 := t0.below B1 (Nat.le_refl _)))
      | (go_at_call 81; refine (zr A1 c1 w1 hc1 t1 r1).mono ?_; (rintro e w2 ⟨A2, c2, rfl, hc2, o2, B2⟩; have B02 := step_trans B1 B2))
      | ((with_reducible refine atWorld w2 ?_); refine wpList_storeRow (w := w2) halfTy rfl (.tmp 4) (.tmp 29) rfl w.heap.size [.int .i64 0, .int .i64 re, .int .i64 (rn : Int), .slice A2 rr.length c2] halfZ rfl rfl rfl rfl half_one (BlkR.step b0.out B02) ?_; (intro w3 b3 B3 s3 k3)))
    refine bodyPost_ret (w := w3) (results_cell1 Tryz.results63 _ _ _ _ _ rfl (loadRow halfTy (by rfl) b3)) rfl ⟨A2, c2, rfl, hc2, ?_, ?_⟩
    · exact (o2.less (Nat.le_trans B0.size B1.size)).keepBut k3 (by have := B1.size; omega) o2
    · exact B0.trans ((B02.mono B0.size).trans B3)
  · have hl : S.readB i = [] := DS.readB_no hx
    have hw : Slot.wrongE S i = 0 := by unfold Slot.wrongE; rw [if_neg hx]
    have z : ∀ w, At w b F S → _ := fun w h => D.read w b F S i h
    unfold LookPost halfV
    rw [hw, hl, Slot.readN_nil, Slot.readB_nil]
    rw [hl] at z
    obtain ⟨re, hre⟩ : ∃ x, x = S.readE i := ⟨_, rfl⟩
    rw [← hre] at z hx ⊢
    clear hre hl hw
    have hne : (re != 0) = true := by simpa using hx
    go_enter Tryz.func63, Tryz.ntmps63
    go_wp2_with (first
      | ((with_reducible refine atWorld w ?_); refine wpList_allocRow (w := w) halfTy rfl rfl ?_; (intro w0 b0 B0 s0; have h0 := At_step D h B0; have b0 := Lib.hid b0))
      | (go_at_call 48; refine (z w0 h0).mono ?_; (rintro e w1 ⟨A1, c1, rfl, o1, B1⟩))
      | ((with_reducible refine atWorld w1 ?_); refine wpList_storeRow (w := w1) halfTy rfl (.tmp 4) (.tmp 19) rfl w.heap.size [.int .i64 re, .int .i64 0, .int .i64 0, .slice none 0 0] halfZ rfl rfl rfl rfl half_one (BlkR.step b0.out B1) ?_; (intro w3 b3 B3 s3 k3)))
    refine bodyPost_ret (w := w3) (results_cell1 Tryz.results63 _ _ _ _ _ rfl (loadRow halfTy (by rfl) b3)) rfl ⟨none, 0, rfl, by decide, Whole.none_, ?_⟩
    exact B0.trans ((B1.mono B0.size).trans B3)
end
end Go.Proofs.YtcahpodmcklnbaaGreatDoor
/-
  slot.both, slot.newest, cmp.Or: both sectors of a slot. Conditions: a disk's methods do what the document says; the table of crc lies as the program's text lays it.
-/
namespace Go.Proofs.YtcahpodmcklnbaaGreatDoor
open Go.RowKit Fix

def orE (a b : Int) : Int := if a = 0 then b else a
theorem or_any (a b : Int) (g : Nat) (w : World) (c0 : w.cell? ⟨g, 0, none⟩ = some (.int .i64 a)) (c1 : w.cell? ⟨g, 1, none⟩ = some (.int .i64 b)) :
    Calls Tryz.prog 64 #[.slice (some ⟨g, 0, none⟩) 2 2] w fun e w' => e = .returned (.int .i64 (orE a b)) ∧ w = w' := by
  obtain ⟨o, ho⟩ : ∃ o, o = orE a b := ⟨_, rfl⟩
  rw [← ho]
  have HO := Lib.hid ho
  clear ho
  unfold orE at HO
  go_enter Tryz.func64, Tryz.ntmps64
  go_wp2
  go_loop [5, 8] (fun _ i => ∃ k : Nat, k ≤ 2 ∧ i = .int .i64 (k : Int) ∧ (1 ≤ k → a = 0) ∧ (2 ≤ k → b = 0)) (fun _ i => 2 - (intOf i).toNat)
  case atStart => exact ⟨0, by omega, rfl, by omega, by omega⟩
  case round =>
    obtain ⟨k, hk, rfl, h1, h2⟩ := hrel
    rcases k with _ | _ | _ | k
    · by_cases ha : a = 0
      · subst ha
        go_wp2
        go_round
        case rel => exact ⟨1, by omega, rfl, by simp, by simp⟩
        case measure => simp [intOf]
      · have hne : (a != 0) = true := by simpa using ha
        have HA := Lib.hid ha
        clear h1 h2 ha
        go_wp2
        go_ret
        exact ⟨congrArg (fun z => Ending.returned (Value.int .i64 z)) (show a = o by rw [HO.out, if_neg HA.out]), rfl⟩
    · obtain rfl := h1 (by omega)
      by_cases hb : b = 0
      · subst hb
        go_wp2
        go_round
        case rel => exact ⟨2, by omega, rfl, by simp, by simp⟩
        case measure => simp [intOf]
      · have hne : (b != 0) = true := by simpa using hb
        clear h1 h2 hb
        go_wp2
        go_ret
        exact ⟨congrArg (fun z => Ending.returned (Value.int .i64 z)) (show b = o by have := HO.out; simpa using this.symm), rfl⟩
    · obtain rfl := h1 (by omega)
      obtain rfl := h2 (by omega)
      clear h1 h2
      go_wp2
      go_ret
      exact ⟨congrArg (fun z => Ending.returned (Value.int .i64 z)) (show 0 = o by have := HO.out; simpa using this.symm), rfl⟩
    · omega
def bothZ : List Value := halfZ ++ halfZ
theorem bothTy : RowTy Tryz.prog 84 bothZ := ⟨fun w => by kernel_rfl, by kernel_rfl, _, Tryz.underlying84, rfl⟩
/-- both halves as cells -/
def bothL (r0 x0 n0 : Int) (A0 : Option Addr) (m0 c0 : Nat) (r1 x1 n1 : Int) (A1 : Option Addr) (m1 c1 : Nat) : List Value :=
  [.int .i64 r0, .int .i64 x0, .int .i64 n0, .slice A0 m0 c0, .int .i64 r1, .int .i64 x1, .int .i64 n1, .slice A1 m1 c1]
theorem bothL_one {r0 x0 n0 : Int} {A0 : Option Addr} {m0 c0 : Nat} {r1 x1 n1 : Int} {A1 : Option Addr} {m1 c1 : Nat} : ∀ v ∈ bothL r0 x0 n0 A0 m0 c0 r1 x1 n1 A1 m1 c1, v.oneCell' = true := by
  intro v hv
  simp [bothL] at hv
  rcases hv with rfl | rfl | rfl | rfl | rfl | rfl | rfl | rfl <;> rfl
set_option maxRecDepth 100000 in
theorem newest_any (r0 x0 n0 : Int) (A0 : Option Addr) (m0 c0 : Nat) (r1 x1 n1 : Int) (A1 : Option Addr) (m1 c1 : Nat) (w : World) :
    Calls Tryz.prog 31 #[.agg (bothL r0 x0 n0 A0 m0 c0 r1 x1 n1 A1 m1 c1).toArray] w fun e w' => e = .returned (.int .i64 (if n0 < n1 then 1 else 0)) ∧ Below w.heap.size w w' := by
  have hB : ∀ v, Below w.heap.size w (w.alloc (.cells v 84)) := fun v => (Below.refl _ _).alloc (Nat.le_refl _) _
  unfold bothL
  by_cases h : n0 < n1
  · rw [if_pos h]
    go_enter Tryz.func31, Tryz.ntmps31
    go_wp2
    go_ret
    exact ⟨rfl, hB _⟩
  · rw [if_neg h]
    go_enter Tryz.func31, Tryz.ntmps31
    go_wp2
    go_ret
    exact ⟨rfl, hB _⟩
namespace Slot
theorem lookE_or (S : DS) (h : S.Ok) (i : Int) : orE (S.readE i) (S.readE (IntKind.i64.wrap (i + 1))) = lookE S i := by
  unfold orE lookE
  by_cases h0 : S.readE i = 0
  · rw [if_pos h0, if_pos h0]
    obtain ⟨_, h1, h2⟩ := DS.readE_zero h0
    have := h.n2
    rw [IntWalk.i64_in (i + 1) (by omega)]
  · rw [if_neg h0, if_neg h0]
end Slot
/-- the second place, as a program counts it -/
def nxt (i : Int) : Int := IntKind.i64.wrap (i + 1)
theorem one_blk {w' : World} {g : Nat} {E : TypeId} {r0 x0 n0 : Int} {A0 : Option Addr} {m0 c0 : Nat} {r1 x1 n1 : Int} {A1 : Option Addr} {m1 c1 : Nat} (h : BlkR E w' g (bothL r0 x0 n0 A0 m0 c0 r1 x1 n1 A1 m1 c1)) :
    w'.cell? ⟨g, 0, none⟩ = some (.int .i64 r0) ∧ w'.cell? ⟨g, 1, none⟩ = some (.int .i64 x0) ∧ w'.cell? ⟨g, 2, none⟩ = some (.int .i64 n0) ∧ w'.cell? ⟨g, 3, none⟩ = some (.slice A0 m0 c0) ∧ w'.cell? ⟨g, 4, none⟩ = some (.int .i64 r1) ∧ w'.cell? ⟨g, 5, none⟩ = some (.int .i64 x1) ∧ w'.cell? ⟨g, 6, none⟩ = some (.int .i64 n1) ∧ w'.cell? ⟨g, 7, none⟩ = some (.slice A1 m1 c1) := ⟨h.cell rfl, h.cell rfl, h.cell rfl, h.cell rfl, h.cell rfl, h.cell rfl, h.cell rfl, h.cell rfl⟩
theorem zero_blk {w' : World} {g : Nat} {E : TypeId} (h : BlkR E w' g bothZ) :
    w'.cell? ⟨g, 0, none⟩ = some (.int .i64 0) ∧ w'.cell? ⟨g, 1, none⟩ = some (.int .i64 0) ∧ w'.cell? ⟨g, 2, none⟩ = some (.int .i64 0) ∧ w'.cell? ⟨g, 3, none⟩ = some (.slice none 0 0) ∧ w'.cell? ⟨g, 4, none⟩ = some (.int .i64 0) ∧ w'.cell? ⟨g, 5, none⟩ = some (.int .i64 0) ∧ w'.cell? ⟨g, 6, none⟩ = some (.int .i64 0) ∧ w'.cell? ⟨g, 7, none⟩ = some (.slice none 0 0) ∧ w'.frozen? ⟨g, 0, none⟩ = false ∧ w'.frozen? ⟨g, 1, none⟩ = false ∧ w'.frozen? ⟨g, 2, none⟩ = false ∧ w'.frozen? ⟨g, 3, none⟩ = false ∧ w'.frozen? ⟨g, 4, none⟩ = false ∧ w'.frozen? ⟨g, 5, none⟩ = false ∧ w'.frozen? ⟨g, 6, none⟩ = false ∧ w'.frozen? ⟨g, 7, none⟩ = false := ⟨h.cell rfl, h.cell rfl, h.cell rfl, h.cell rfl, h.cell rfl, h.cell rfl, h.cell rfl, h.cell rfl, h.frozen _, h.frozen _, h.frozen _, h.frozen _, h.frozen _, h.frozen _, h.frozen _, h.frozen _⟩
theorem chain8 {w5 : World} {g : Nat} {E : TypeId} (v0 v1 v2 v3 v4 v5 v6 v7 : Value) (b : BlkR E w5 g bothZ) :
    BlkR E ((((((((w5.setCell ⟨g, 0, none⟩ v0).setCell ⟨g, 1, none⟩ v1).setCell ⟨g, 2, none⟩ v2).setCell ⟨g, 3, none⟩ v3).setCell ⟨g, 4, none⟩ v4).setCell ⟨g, 5, none⟩ v5).setCell ⟨g, 6, none⟩ v6).setCell ⟨g, 7, none⟩ v7) g [v0, v1, v2, v3, v4, v5, v6, v7] ∧ (∀ k, k ≠ g → ((((((((w5.setCell ⟨g, 0, none⟩ v0).setCell ⟨g, 1, none⟩ v1).setCell ⟨g, 2, none⟩ v2).setCell ⟨g, 3, none⟩ v3).setCell ⟨g, 4, none⟩ v4).setCell ⟨g, 5, none⟩ v5).setCell ⟨g, 6, none⟩ v6).setCell ⟨g, 7, none⟩ v7).heap[k]? = w5.heap[k]?) ∧ Below g w5 ((((((((w5.setCell ⟨g, 0, none⟩ v0).setCell ⟨g, 1, none⟩ v1).setCell ⟨g, 2, none⟩ v2).setCell ⟨g, 3, none⟩ v3).setCell ⟨g, 4, none⟩ v4).setCell ⟨g, 5, none⟩ v5).setCell ⟨g, 6, none⟩ v6).setCell ⟨g, 7, none⟩ v7) := by
  refine ⟨(((((((b.set_ 0 v0).set_ 1 v1).set_ 2 v2).set_ 3 v3).set_ 4 v4).set_ 5 v5).set_ 6 v6).set_ 7 v7, fun k hk => ?_, ?_⟩
  · repeat refine (Below.heap_setCell _ ⟨g, _, none⟩ _ k hk).trans ?_
    rfl
  · repeat refine Below.setCell ?_ (p := ⟨g, _, none⟩) (Nat.le_refl g) _
    exact Below.refl _ _
theorem errBelow (w : World) (v : Array Value) : Below w.heap.size w (w.alloc (.cells v 25)) := (Below.refl _ _).alloc (Nat.le_refl _) _
/-- one half, as look tells it -/
def LookIs (r0 x0 n0 : Int) (l0 : List UInt8) (w : World) (e : Ending) (w' : World) : Prop :=
  ∃ A c, e = .returned (.agg #[.int .i64 r0, .int .i64 x0, .int .i64 n0, .slice A l0.length c]) ∧ c ≤ 9223372036854775807 ∧ Whole w' w.heap.size A c l0 ∧ Below w.heap.size w w'
/-- both halves and an error, as both tells them -/
def BothIs (r0 x0 n0 : Int) (l0 : List UInt8) (r1 x1 n1 : Int) (l1 : List UInt8) (lo : Int) (w : World) (e : Ending) (w' : World) : Prop :=
  ∃ A0 c0 A1 c1, e = .returned (.tuple #[.agg (bothL r0 x0 n0 A0 l0.length c0 r1 x1 n1 A1 l1.length c1).toArray, .int .i64 lo]) ∧ Whole w' w.heap.size A0 c0 l0 ∧ Whole w' w.heap.size A1 c1 l1 ∧ Below w.heap.size w w'
set_option maxRecDepth 100000 in
set_option maxHeartbeats 1000000 in
theorem both_go (p : Value) (Q : World → Prop) (hQ : ∀ w w', Q w → Below w.heap.size w w' → Q w') (i i1 : Int) (hnx : IntKind.i64.wrap (i + 1) = i1) (r0 x0 n0 : Int) (l0 : List UInt8) (r1 x1 n1 : Int) (l1 : List UInt8) (lo : Int) (hor : orE r0 r1 = lo)
    (z0 : ∀ w, Q w → Calls Tryz.prog 63 #[p, .int .i64 i] w (LookIs r0 x0 n0 l0 w)) (z1 : ∀ w, Q w → Calls Tryz.prog 63 #[p, .int .i64 i1] w (LookIs r1 x1 n1 l1 w)) (w : World) (hw : Q w) :
    Calls Tryz.prog 30 #[p, .int .i64 i] w (BothIs r0 x0 n0 l0 r1 x1 n1 l1 lo w) := by
  unfold LookIs at z0 z1
  unfold BothIs
  have zo : ∀ (g : Nat) (w : World), w.cell? ⟨g, 0, none⟩ = some (.int .i64 r0) → w.cell? ⟨g, 1, none⟩ = some (.int .i64 r1) → _ := fun g w h1 h2 => or_any r0 r1 g w h1 h2
  rw [hor] at zo
  clear hor
  obtain ⟨m0, hm0⟩ : ∃ x, x = l0.length := ⟨_, rfl⟩
  obtain ⟨m1, hm1⟩ : ∃ x, x = l1.length := ⟨_, rfl⟩
  rw [← hm0] at z0
  rw [← hm1] at z1
  rw [← hm0, ← hm1]
  clear hm0 hm1
  go_enter Tryz.func30, Tryz.ntmps30
  go_wp2_with (first
    | ((with_reducible refine atWorld w ?_); refine wpList_allocRow (w := w) bothTy rfl rfl ?_; (intro w0 b0 B0 s0; have h0 := hQ _ _ hw B0; have b0 := Lib.hid b0))
    | (go_at_call 63; first
      | ((with_reducible refine (z0 w0 h0).mono ?_); (rintro e w1 ⟨A0, c0, rfl, _, o0, B1⟩; have h1 := hQ _ _ h0 B1))
      | ((with_reducible refine (z1 w1 h1).mono ?_); (rintro e w2 ⟨A1, c1, rfl, _, o1, B2⟩; have o0 := o0.step B2; have B12 := step_trans B1 B2; have b02 := b0.out.step B12)))
    | ((with_reducible refine atWorld w2 ?_); refine wpList_allocRow (w := w2) bothTy rfl rfl ?_; (intro w3 b3 B3 s3))
    | ((with_reducible refine atWorld w3 ?_); refine wpList_storeRow (w := w3) bothTy rfl (.tmp 6) (.tmp 14) rfl w2.heap.size (bothL r0 x0 n0 A0 m0 c0 r1 x1 n1 A1 m1 c1) bothZ rfl rfl rfl rfl bothL_one b3 ?_; (intro w4 b4 B4 s4 k4)))
  have B24 : Below w2.heap.size w2 w4 := B3.trans B4
  have b04 := b02.step B24
  have o04 := o0.step B24
  have o14 := o1.step B24
  have HB := B0.trans ((step_trans B12 B24).mono B0.size)
  have hlt : w.heap.size < w2.heap.size := by have := B12.size; omega
  have hlt4 := b4.lt
  have hle0 : w.heap.size < w0.heap.size := by omega
  have hle1 := Nat.lt_of_lt_of_le hle0 B1.size
  have HW := Lib.hid (And.intro o04 (And.intro o14 (And.intro HB (And.intro hle0 (And.intro hle1 (And.intro hlt (Nat.ne_of_gt hlt)))))))
  have W1 : Below w4.heap.size w4 (w4.drew.alloc (.cells #[.int .i64 r0, .int .i64 r1] 25)) := (Below.refl _ w4).drew.alloc (Nat.le_refl _) _
  have S0 := one_blk (w' := w4.drew) b4
  have S1 := one_blk (b4.step W1)
  have bn : BlkR 25 (w4.drew.alloc (.cells #[.int .i64 r0, .int .i64 r1] 25)) w4.heap.size [.int .i64 r0, .int .i64 r1] := BlkR.new w4.drew _ _
  have q0 : (w4.drew.alloc (.cells #[.int .i64 r0, .int .i64 r1] 25)).cell? ⟨w4.heap.size, 0, none⟩ = some (.int .i64 r0) := bn.cell rfl
  have q1 : (w4.drew.alloc (.cells #[.int .i64 r0, .int .i64 r1] 25)).cell? ⟨w4.heap.size, 1, none⟩ = some (.int .i64 r1) := bn.cell rfl
  have zo2 := zo w4.heap.size _ q0 q1
  have HK := Lib.hid (And.intro (b04.step W1) (And.intro W1 (b4.step W1)))
  clear b0 b3 b4 b02 b04 bn B0 B1 B2 B3 B4 B12 B24 o0 o1 o04 o14 HB hle0 hle1 z0 z1 zo q0 q1 s0 s3 s4 k4 h0 h1 W1 hlt hlt4 hw hQ
  replace zo2 := Lib.hid zo2
  replace S0 := Lib.hid S0
  replace S1 := Lib.hid S1
  go_region_held3 (fun w' => w'.cell? ⟨w2.heap.size, 0, none⟩ = some (.int .i64 r0) ∧ w'.cell? ⟨w2.heap.size, 1, none⟩ = some (.int .i64 x0) ∧ w'.cell? ⟨w2.heap.size, 2, none⟩ = some (.int .i64 n0) ∧ w'.cell? ⟨w2.heap.size, 3, none⟩ = some (.slice A0 m0 c0) ∧ w'.cell? ⟨w2.heap.size, 4, none⟩ = some (.int .i64 r1) ∧ w'.cell? ⟨w2.heap.size, 5, none⟩ = some (.int .i64 x1) ∧ w'.cell? ⟨w2.heap.size, 6, none⟩ = some (.int .i64 n1) ∧ w'.cell? ⟨w2.heap.size, 7, none⟩ = some (.slice A1 m1 c1)) (first | with_reducible exact S5.out | (refine one_blk (E := 84) ?_; with_reducible refine BlkR.other ?_ _ _ ?_; repeat' (first | exact b65.out | exact HW.out.2.2.2.2.2.2 | with_reducible refine BlkR.other ?_ _ _ ?_)) | exact S0.out | exact S1.out) (first
    | (go_at_call 64; refine zo2.out.mono ?_; (rintro e w5 ⟨rfl, hw⟩; have b65 := HK.out.2.2; have b45 := HK.out.1; have B45 := HK.out.2.1; rw [hw] at b65 b45 B45; clear hw; obtain ⟨k0_, k1_, k2_, k3_, k4_, k5_, k6_, k7_, k8_, k9_, k10_, k11_, k12_, k13_, k14_, k15_⟩ := zero_blk b45; have S5 := Lib.hid (one_blk b65); have b65 := Lib.hid b65; have b45 := Lib.hid b45; have B45 := Lib.hid B45)))
  obtain ⟨c1, c2, c3⟩ := chain8 (.int .i64 r0) (.int .i64 x0) (.int .i64 n0) (.slice A0 m0 c0) (.int .i64 r1) (.int .i64 x1) (.int .i64 n1) (.slice A1 m1 c1) b45.out
  clear k0_ k1_ k2_ k3_ k4_ k5_ k6_ k7_ k8_ k9_ k10_ k11_ k12_ k13_ k14_ k15_ S5 S0 S1
  obtain ⟨ho0, ho1, hB, hle0, hle1, hlt, _⟩ := HW.out
  have hW0 := (ho0.step B45.out).less (Nat.le_of_lt hle0)
  have hW1 := (ho1.step B45.out).less (Nat.le_of_lt hle1)
  go_wp2
  refine bodyPost_ret (results_cell2 Tryz.results30 _ _ _ _ _ _ rfl rfl (loadRow bothTy (by rfl) c1)) rfl ⟨A0, c0, A1, _, rfl, ?_, ?_, ?_⟩
  · exact hW0.keepBut c2 hle0 (ho0.step B45.out)
  · exact hW1.keepBut c2 hle1 (ho1.step B45.out)
  · exact (hB.trans (B45.out.mono hB.size)).trans c3
section
variable {At : World → Nat → (Nat → Prop) → DS → Prop} (D : Disks Tryz.prog At)
include D
theorem both_is (w : World) (b : Nat) (F : Nat → Prop) (S : DS) (i : Int) (ht : TabAt w) (h : At w b F S) : Calls Tryz.prog 30 #[.pointer (some ⟨b, 0, none⟩), .int .i64 i] w
    (BothIs (S.readE i) (Slot.wrongE S i) (Slot.readN (S.readB i) : Int) (Slot.readB (S.readB i)) (S.readE (nxt i)) (Slot.wrongE S (nxt i)) (Slot.readN (S.readB (nxt i)) : Int) (Slot.readB (S.readB (nxt i))) (Slot.lookE S i) w) :=
  both_go (.pointer (some ⟨b, 0, none⟩)) (fun w => TabAt w ∧ At w b F S) (fun _ _ h hB => ⟨h.1.below hB (Nat.le_refl _), At_step D h.2 hB⟩) i (nxt i) rfl _ _ _ _ _ _ _ _ _ (Slot.lookE_or S (D.ok _ _ _ _ h) i)
    (fun w h => look_any D w b F S i h.1 h.2) (fun w h => look_any D w b F S (nxt i) h.1 h.2) w ⟨ht, h⟩
end
end Go.Proofs.YtcahpodmcklnbaaGreatDoor
/-
  slot.Load: what it tells. Conditions: a disk's methods do what the document says; the table of crc lies as the program's text lays it.
-/
namespace Go.Proofs.YtcahpodmcklnbaaGreatDoor
open Go.RowKit Fix

namespace Slot
theorem readN_le (b : List UInt8) : readN b ≤ 1099511627776 := by
  unfold readN
  split
  · rename_i h; exact ((right_iff b).1 h).2.2.1
  · exact Nat.zero_le _
theorem readN_pos {b : List UInt8} : 0 < readN b ↔ right b = true := by
  unfold readN
  by_cases h : right b = true
  · rw [if_pos h]; have := ((right_iff b).1 h).2.1; simp [h]; omega
  · rw [if_neg h]; simp [h]
theorem second_iff (a b : List UInt8) : second a b = true ↔ readN a < readN b := by
  unfold second
  by_cases hb : right b = true
  · have hb1 := ((right_iff b).1 hb).2.1
    have e1 : readN b = num b := by simp [readN, hb]
    by_cases ha : right a = true
    · have e0 : readN a = num a := by simp [readN, ha]
      simp [hb, ha, e0, e1]
    · have e0 : readN a = 0 := by simp [readN, ha]
      simp [hb, ha, e0, e1]; omega
  · have e1 : readN b = 0 := by simp [readN, hb]
    simp [hb, e1]
theorem topN_eq (a b : List UInt8) : topN a b = if readN a < readN b then readN b else readN a := by
  unfold topN
  by_cases h : second a b = true
  · rw [if_pos h, if_pos ((second_iff a b).1 h)]
    have hb : right b = true := by unfold second at h; simp at h; exact h.1
    simp [readN, hb]
  · rw [if_neg h, if_neg (fun x => h ((second_iff a b).2 x))]
theorem topB_eq (a b : List UInt8) : topB a b = if readN a < readN b then readB b else readB a := by
  unfold topB
  by_cases h : second a b = true
  · rw [if_pos h, if_pos ((second_iff a b).1 h)]
    have hb : right b = true := by unfold second at h; simp at h; exact h.1
    simp [readB, hb]
  · rw [if_neg h, if_neg (fun x => h ((second_iff a b).2 x))]
theorem newestI_eq (a b : List UInt8) : newestI a b = if readN a < readN b then 1 else if 0 < readN a then 0 else -1 := by
  unfold newestI
  by_cases h : second a b = true
  · rw [if_pos h, if_pos ((second_iff a b).1 h)]
  · rw [if_neg h, if_neg (fun x => h ((second_iff a b).2 x))]
    by_cases ha : right a = true
    · rw [if_pos ha, if_pos (readN_pos.2 ha)]
    · rw [if_neg ha, if_neg (fun x => ha (readN_pos.1 x))]
theorem readE_nots {b : List UInt8} : readE b = 6 ↔ b = nots := by
  constructor
  · intro h
    unfold readE at h
    split at h
    · cases h
    · split at h
      · assumption
      · split at h <;> cases h
  · rintro rfl; decide
end Slot
theorem nxt_eq (S : DS) (h : S.Ok) (i : Int) (h0 : Slot.lookE S i = 0) : nxt i = i + 1 ∧ S.readE i = 0 ∧ S.readE (i + 1) = 0 := by
  unfold Slot.lookE at h0
  split at h0
  · rename_i h1
    obtain ⟨_, h2, h3⟩ := DS.readE_zero h1
    have := h.n2
    exact ⟨IntWalk.i64_in _ (by omega), h1, h0⟩
  · rename_i h1
    exact absurd h0 h1
def LoadPost (S : DS) (i : Int) (w : World) (e : Ending) (w' : World) : Prop :=
  ∃ A c, e = .returned (.tuple #[.slice A (Slot.loadB S i).length c, .int .i64 (Slot.loadE S i)]) ∧ Whole w' w.heap.size A c (Slot.loadB S i) ∧ Below w.heap.size w w'
theorem LoadPost.none_ {S : DS} {i x : Int} {w w' : World} (hx : Slot.loadE S i = x) (h0 : x ≠ 0) (hB : Below w.heap.size w w') : LoadPost S i w (.returned (.tuple #[.slice none 0 0, .int .i64 x])) w' := by
  have e : Slot.loadB S i = [] := by unfold Slot.loadB; rw [if_neg (by rw [hx]; exact h0)]
  exact ⟨none, 0, by rw [e, hx]; rfl, by rw [e]; exact Whole.none_, hB⟩
set_option maxRecDepth 100000 in
theorem load_err (w : World) (p : Value) (i r0 x0 n0 : Int) (l0 : List UInt8) (r1 x1 n1 : Int) (l1 : List UInt8) (lo : Int) (zb : Calls Tryz.prog 30 #[p, .int .i64 i] w (BothIs r0 x0 n0 l0 r1 x1 n1 l1 lo w)) (hlo : lo ≠ 0) :
    Calls Tryz.prog 77 #[p, .int .i64 i] w fun e w' => e = .returned (.tuple #[.slice none 0 0, .int .i64 lo]) ∧ Below w.heap.size w w' := by
  have hne : (lo != 0) = true := by simpa using hlo
  unfold BothIs at zb
  go_enter Tryz.func77, Tryz.ntmps77
  go_wp2_with (first
    | (go_at_call 30; refine zb.mono ?_; (rintro e w1 ⟨A0, c0, A1, c1, rfl, o0, o1, B1⟩))
    | ((with_reducible refine atWorld w1 ?_); refine wpList_allocRow (w := w1) bothTy rfl rfl ?_; (intro w2 b2 B2 s2; have b2 := Lib.hid b2))
    | ((with_reducible refine atWorld w2 ?_); refine wpList_storeRow (w := w2) bothTy rfl (.tmp 6) (.tmp 13) rfl w1.heap.size (bothL r0 x0 n0 A0 l0.length c0 r1 x1 n1 A1 l1.length c1) bothZ rfl rfl rfl rfl bothL_one b2.out ?_; (intro w3 b3 B3 s3 k3; have y1 : w3.cell? ⟨w1.heap.size, 1, none⟩ = some (.int .i64 x0) := b3.cell rfl; have y5 : w3.cell? ⟨w1.heap.size, 5, none⟩ = some (.int .i64 x1) := b3.cell rfl; have B13 := B2.trans B3; have b3 := Lib.hid b3)))
  go_ret2
  exact ⟨rfl, B1.trans (B13.mono B1.size)⟩
set_option maxRecDepth 100000 in
theorem load_none (w : World) (b : Nat) (i r0 n0 : Int) (l0 : List UInt8) (r1 n1 : Int) (l1 : List UInt8) (zb : Calls Tryz.prog 30 #[.pointer (some ⟨b, 0, none⟩), .int .i64 i] w (BothIs r0 6 n0 l0 r1 6 n1 l1 0 w))  :
    Calls Tryz.prog 77 #[.pointer (some ⟨b, 0, none⟩), .int .i64 i] w fun e w' => e = .returned (.tuple #[.slice none 0 0, .int .i64 6]) ∧ Below w.heap.size w w' := by
  unfold BothIs at zb
  go_enter Tryz.func77, Tryz.ntmps77
  go_wp2_with (first
    | (go_at_call 30; refine zb.mono ?_; (rintro e w1 ⟨A0, c0, A1, c1, rfl, o0, o1, B1⟩))
    | ((with_reducible refine atWorld w1 ?_); refine wpList_allocRow (w := w1) bothTy rfl rfl ?_; (intro w2 b2 B2 s2; have b2 := Lib.hid b2))
    | ((with_reducible refine atWorld w2 ?_); refine wpList_storeRow (w := w2) bothTy rfl (.tmp 6) (.tmp 13) rfl w1.heap.size (bothL r0 6 n0 A0 l0.length c0 r1 6 n1 A1 l1.length c1) bothZ rfl rfl rfl rfl bothL_one b2.out ?_; (intro w3 b3 B3 s3 k3; have y1 : w3.cell? ⟨w1.heap.size, 1, none⟩ = some (.int .i64 6) := b3.cell rfl; have y5 : w3.cell? ⟨w1.heap.size, 5, none⟩ = some (.int .i64 6) := b3.cell rfl; have B13 := B2.trans B3; have b3 := Lib.hid b3)))
  go_ret2
  exact ⟨rfl, B1.trans (B13.mono B1.size)⟩
set_option maxRecDepth 100000 in
theorem load_second0 (w : World) (b : Nat) (i r0 x0 n0 : Int) (l0 : List UInt8) (r1 x1 n1 : Int) (l1 : List UInt8) (zb : Calls Tryz.prog 30 #[.pointer (some ⟨b, 0, none⟩), .int .i64 i] w (BothIs r0 x0 n0 l0 r1 x1 n1 l1 0 w)) (h0 : x0 ≠ 6) (hlt : n0 < n1) (hn : n1 ≠ 0) :
    Calls Tryz.prog 77 #[.pointer (some ⟨b, 0, none⟩), .int .i64 i] w fun e w' => ∃ A c, e = .returned (.tuple #[.slice A l1.length c, .int .i64 0]) ∧ Whole w' w.heap.size A c l1 ∧ Below w.heap.size w w' := by
  have e0 : (x0 == 6) = false := by simpa using h0
  have en : (n1 == 0) = false := by simpa using hn
  have HIF := Lib.hid (show (if n0 < n1 then (1 : Int) else 0) = 1 by rw [if_pos hlt])
  unfold BothIs at zb
  go_enter Tryz.func77, Tryz.ntmps77
  go_wp2_with (first
    | (go_at_call 30; refine zb.mono ?_; (rintro e w1 ⟨A0, c0, A1, c1, rfl, o0, o1, B1⟩))
    | ((with_reducible refine atWorld w1 ?_); refine wpList_allocRow (w := w1) bothTy rfl rfl ?_; (intro w2 b2 B2 s2; have b2 := Lib.hid b2))
    | ((with_reducible refine atWorld w2 ?_); refine wpList_storeRow (w := w2) bothTy rfl (.tmp 6) (.tmp 13) rfl w1.heap.size (bothL r0 x0 n0 A0 l0.length c0 r1 x1 n1 A1 l1.length c1) bothZ rfl rfl rfl rfl bothL_one b2.out ?_; (intro w3 b3 B3 s3 k3; have y1 : w3.cell? ⟨w1.heap.size, 1, none⟩ = some (.int .i64 x0) := b3.cell rfl; have y5 : w3.cell? ⟨w1.heap.size, 5, none⟩ = some (.int .i64 x1) := b3.cell rfl; have B13 := B2.trans B3; have b3 := Lib.hid b3))
    | ((with_reducible refine atWorld w3 ?_); refine wpList_loadRow (w := w3) bothTy rfl (.tmp 6) rfl w1.heap.size 0 (bothL r0 x0 n0 A0 l0.length c0 r1 x1 n1 A1 l1.length c1) rfl rfl (rangeOf b3.out) ?_)
    | (go_at_call 31; refine (newest_any r0 x0 n0 A0 l0.length c0 r1 x1 n1 A1 l1.length c1 w3).mono ?_; (rintro e w4 ⟨rfl, B4⟩; rw [HIF.out]; have b4 := Lib.hid (b3.out.step B4)))
    | ((with_reducible refine atWorld w4 ?_); refine wpList_loadRow (w := w4) halfTy rfl (.tmp 30) rfl w1.heap.size 4 [.int .i64 r1, .int .i64 x1, .int .i64 n1, .slice A1 l1.length c1] rfl rfl (rangeMid (n := 4) b4.out rfl) ?_)
    | ((with_reducible refine atWorld w4 ?_); refine wpList_allocRow (w := w4) halfTy rfl rfl ?_; (intro w5 b5 B5 s5; have b5 := Lib.hid b5))
    | ((with_reducible refine atWorld w5 ?_); refine wpList_storeRow (w := w5) halfTy rfl (.tmp 8) (.tmp 31) rfl w4.heap.size [.int .i64 r1, .int .i64 x1, .int .i64 n1, .slice A1 l1.length c1] halfZ rfl rfl rfl rfl half_one b5.out ?_; (intro w6 b6 B6 s6 k6; have v2 : w6.cell? ⟨w4.heap.size, 2, none⟩ = some (.int .i64 n1) := b6.cell rfl; have v3 : w6.cell? ⟨w4.heap.size, 3, none⟩ = some (.slice A1 l1.length c1) := b6.cell rfl; have B46 := B5.trans B6)))
  go_ret2
  exact ⟨A1, c1, rfl, o1.step (B13.trans ((step_trans B4 B46).mono B13.size)), (B1.trans (B13.mono B1.size)).trans ((step_trans B4 B46).mono (Nat.le_trans B1.size B13.size))⟩
set_option maxRecDepth 100000 in
theorem load_first0 (w : World) (b : Nat) (i r0 x0 n0 : Int) (l0 : List UInt8) (r1 x1 n1 : Int) (l1 : List UInt8) (zb : Calls Tryz.prog 30 #[.pointer (some ⟨b, 0, none⟩), .int .i64 i] w (BothIs r0 x0 n0 l0 r1 x1 n1 l1 0 w)) (h0 : x0 ≠ 6) (hlt : ¬ n0 < n1) (hn : n0 ≠ 0) :
    Calls Tryz.prog 77 #[.pointer (some ⟨b, 0, none⟩), .int .i64 i] w fun e w' => ∃ A c, e = .returned (.tuple #[.slice A l0.length c, .int .i64 0]) ∧ Whole w' w.heap.size A c l0 ∧ Below w.heap.size w w' := by
  have e0 : (x0 == 6) = false := by simpa using h0
  have en : (n0 == 0) = false := by simpa using hn
  have HIF := Lib.hid (show (if n0 < n1 then (1 : Int) else 0) = 0 by rw [if_neg hlt])
  unfold BothIs at zb
  go_enter Tryz.func77, Tryz.ntmps77
  go_wp2_with (first
    | (go_at_call 30; refine zb.mono ?_; (rintro e w1 ⟨A0, c0, A1, c1, rfl, o0, o1, B1⟩))
    | ((with_reducible refine atWorld w1 ?_); refine wpList_allocRow (w := w1) bothTy rfl rfl ?_; (intro w2 b2 B2 s2; have b2 := Lib.hid b2))
    | ((with_reducible refine atWorld w2 ?_); refine wpList_storeRow (w := w2) bothTy rfl (.tmp 6) (.tmp 13) rfl w1.heap.size (bothL r0 x0 n0 A0 l0.length c0 r1 x1 n1 A1 l1.length c1) bothZ rfl rfl rfl rfl bothL_one b2.out ?_; (intro w3 b3 B3 s3 k3; have y1 : w3.cell? ⟨w1.heap.size, 1, none⟩ = some (.int .i64 x0) := b3.cell rfl; have y5 : w3.cell? ⟨w1.heap.size, 5, none⟩ = some (.int .i64 x1) := b3.cell rfl; have B13 := B2.trans B3; have b3 := Lib.hid b3))
    | ((with_reducible refine atWorld w3 ?_); refine wpList_loadRow (w := w3) bothTy rfl (.tmp 6) rfl w1.heap.size 0 (bothL r0 x0 n0 A0 l0.length c0 r1 x1 n1 A1 l1.length c1) rfl rfl (rangeOf b3.out) ?_)
    | (go_at_call 31; refine (newest_any r0 x0 n0 A0 l0.length c0 r1 x1 n1 A1 l1.length c1 w3).mono ?_; (rintro e w4 ⟨rfl, B4⟩; rw [HIF.out]; have b4 := Lib.hid (b3.out.step B4)))
    | ((with_reducible refine atWorld w4 ?_); refine wpList_loadRow (w := w4) halfTy rfl (.tmp 30) rfl w1.heap.size 0 [.int .i64 r0, .int .i64 x0, .int .i64 n0, .slice A0 l0.length c0] rfl rfl (rangeMid (n := 4) b4.out rfl) ?_)
    | ((with_reducible refine atWorld w4 ?_); refine wpList_allocRow (w := w4) halfTy rfl rfl ?_; (intro w5 b5 B5 s5; have b5 := Lib.hid b5))
    | ((with_reducible refine atWorld w5 ?_); refine wpList_storeRow (w := w5) halfTy rfl (.tmp 8) (.tmp 31) rfl w4.heap.size [.int .i64 r0, .int .i64 x0, .int .i64 n0, .slice A0 l0.length c0] halfZ rfl rfl rfl rfl half_one b5.out ?_; (intro w6 b6 B6 s6 k6; have v2 : w6.cell? ⟨w4.heap.size, 2, none⟩ = some (.int .i64 n0) := b6.cell rfl; have v3 : w6.cell? ⟨w4.heap.size, 3, none⟩ = some (.slice A0 l0.length c0) := b6.cell rfl; have B46 := B5.trans B6)))
  go_ret2
  exact ⟨A0, c0, rfl, o0.step (B13.trans ((step_trans B4 B46).mono B13.size)), (B1.trans (B13.mono B1.size)).trans ((step_trans B4 B46).mono (Nat.le_trans B1.size B13.size))⟩
set_option maxRecDepth 100000 in
theorem load_bad0 (w : World) (b : Nat) (i r0 x0 : Int) (l0 : List UInt8) (r1 x1 n1 : Int) (l1 : List UInt8) (zb : Calls Tryz.prog 30 #[.pointer (some ⟨b, 0, none⟩), .int .i64 i] w (BothIs r0 x0 0 l0 r1 x1 n1 l1 0 w)) (h0 : x0 ≠ 6) (hlt : ¬ 0 < n1) :
    Calls Tryz.prog 77 #[.pointer (some ⟨b, 0, none⟩), .int .i64 i] w fun e w' => e = .returned (.tuple #[.slice none 0 0, .int .i64 11]) ∧ Below w.heap.size w w' := by
  have e0 : (x0 == 6) = false := by simpa using h0
  have HIF := Lib.hid (show (if 0 < n1 then (1 : Int) else 0) = 0 by rw [if_neg hlt])
  unfold BothIs at zb
  go_enter Tryz.func77, Tryz.ntmps77
  go_wp2_with (first
    | (go_at_call 30; refine zb.mono ?_; (rintro e w1 ⟨A0, c0, A1, c1, rfl, o0, o1, B1⟩))
    | ((with_reducible refine atWorld w1 ?_); refine wpList_allocRow (w := w1) bothTy rfl rfl ?_; (intro w2 b2 B2 s2; have b2 := Lib.hid b2))
    | ((with_reducible refine atWorld w2 ?_); refine wpList_storeRow (w := w2) bothTy rfl (.tmp 6) (.tmp 13) rfl w1.heap.size (bothL r0 x0 0 A0 l0.length c0 r1 x1 n1 A1 l1.length c1) bothZ rfl rfl rfl rfl bothL_one b2.out ?_; (intro w3 b3 B3 s3 k3; have y1 : w3.cell? ⟨w1.heap.size, 1, none⟩ = some (.int .i64 x0) := b3.cell rfl; have y5 : w3.cell? ⟨w1.heap.size, 5, none⟩ = some (.int .i64 x1) := b3.cell rfl; have B13 := B2.trans B3; have b3 := Lib.hid b3))
    | ((with_reducible refine atWorld w3 ?_); refine wpList_loadRow (w := w3) bothTy rfl (.tmp 6) rfl w1.heap.size 0 (bothL r0 x0 0 A0 l0.length c0 r1 x1 n1 A1 l1.length c1) rfl rfl (rangeOf b3.out) ?_)
    | (go_at_call 31; refine (newest_any r0 x0 0 A0 l0.length c0 r1 x1 n1 A1 l1.length c1 w3).mono ?_; (rintro e w4 ⟨rfl, B4⟩; rw [HIF.out]; have b4 := Lib.hid (b3.out.step B4)))
    | ((with_reducible refine atWorld w4 ?_); refine wpList_loadRow (w := w4) halfTy rfl (.tmp 30) rfl w1.heap.size 0 [.int .i64 r0, .int .i64 x0, .int .i64 0, .slice A0 l0.length c0] rfl rfl (rangeMid (n := 4) b4.out rfl) ?_)
    | ((with_reducible refine atWorld w4 ?_); refine wpList_allocRow (w := w4) halfTy rfl rfl ?_; (intro w5 b5 B5 s5; have b5 := Lib.hid b5))
    | ((with_reducible refine atWorld w5 ?_); refine wpList_storeRow (w := w5) halfTy rfl (.tmp 8) (.tmp 31) rfl w4.heap.size [.int .i64 r0, .int .i64 x0, .int .i64 0, .slice A0 l0.length c0] halfZ rfl rfl rfl rfl half_one b5.out ?_; (intro w6 b6 B6 s6 k6; have v2 : w6.cell? ⟨w4.heap.size, 2, none⟩ = some (.int .i64 0) := b6.cell rfl; have v3 : w6.cell? ⟨w4.heap.size, 3, none⟩ = some (.slice A0 l0.length c0) := b6.cell rfl; have B46 := B5.trans B6)))
  go_ret2
  exact ⟨rfl, (B1.trans (B13.mono B1.size)).trans ((step_trans B4 B46).mono (Nat.le_trans B1.size B13.size))⟩
set_option maxRecDepth 100000 in
theorem load_second1 (w : World) (b : Nat) (i r0 n0 : Int) (l0 : List UInt8) (r1 x1 n1 : Int) (l1 : List UInt8) (zb : Calls Tryz.prog 30 #[.pointer (some ⟨b, 0, none⟩), .int .i64 i] w (BothIs r0 6 n0 l0 r1 x1 n1 l1 0 w)) (h1 : x1 ≠ 6) (hlt : n0 < n1) (hn : n1 ≠ 0) :
    Calls Tryz.prog 77 #[.pointer (some ⟨b, 0, none⟩), .int .i64 i] w fun e w' => ∃ A c, e = .returned (.tuple #[.slice A l1.length c, .int .i64 0]) ∧ Whole w' w.heap.size A c l1 ∧ Below w.heap.size w w' := by
  have e1 : (x1 == 6) = false := by simpa using h1
  have en : (n1 == 0) = false := by simpa using hn
  have HIF := Lib.hid (show (if n0 < n1 then (1 : Int) else 0) = 1 by rw [if_pos hlt])
  unfold BothIs at zb
  go_enter Tryz.func77, Tryz.ntmps77
  go_wp2_with (first
    | (go_at_call 30; refine zb.mono ?_; (rintro e w1 ⟨A0, c0, A1, c1, rfl, o0, o1, B1⟩))
    | ((with_reducible refine atWorld w1 ?_); refine wpList_allocRow (w := w1) bothTy rfl rfl ?_; (intro w2 b2 B2 s2; have b2 := Lib.hid b2))
    | ((with_reducible refine atWorld w2 ?_); refine wpList_storeRow (w := w2) bothTy rfl (.tmp 6) (.tmp 13) rfl w1.heap.size (bothL r0 6 n0 A0 l0.length c0 r1 x1 n1 A1 l1.length c1) bothZ rfl rfl rfl rfl bothL_one b2.out ?_; (intro w3 b3 B3 s3 k3; have y1 : w3.cell? ⟨w1.heap.size, 1, none⟩ = some (.int .i64 6) := b3.cell rfl; have y5 : w3.cell? ⟨w1.heap.size, 5, none⟩ = some (.int .i64 x1) := b3.cell rfl; have B13 := B2.trans B3; have b3 := Lib.hid b3))
    | ((with_reducible refine atWorld w3 ?_); refine wpList_loadRow (w := w3) bothTy rfl (.tmp 6) rfl w1.heap.size 0 (bothL r0 6 n0 A0 l0.length c0 r1 x1 n1 A1 l1.length c1) rfl rfl (rangeOf b3.out) ?_)
    | (go_at_call 31; refine (newest_any r0 6 n0 A0 l0.length c0 r1 x1 n1 A1 l1.length c1 w3).mono ?_; (rintro e w4 ⟨rfl, B4⟩; rw [HIF.out]; have b4 := Lib.hid (b3.out.step B4)))
    | ((with_reducible refine atWorld w4 ?_); refine wpList_loadRow (w := w4) halfTy rfl (.tmp 30) rfl w1.heap.size 4 [.int .i64 r1, .int .i64 x1, .int .i64 n1, .slice A1 l1.length c1] rfl rfl (rangeMid (n := 4) b4.out rfl) ?_)
    | ((with_reducible refine atWorld w4 ?_); refine wpList_allocRow (w := w4) halfTy rfl rfl ?_; (intro w5 b5 B5 s5; have b5 := Lib.hid b5))
    | ((with_reducible refine atWorld w5 ?_); refine wpList_storeRow (w := w5) halfTy rfl (.tmp 8) (.tmp 31) rfl w4.heap.size [.int .i64 r1, .int .i64 x1, .int .i64 n1, .slice A1 l1.length c1] halfZ rfl rfl rfl rfl half_one b5.out ?_; (intro w6 b6 B6 s6 k6; have v2 : w6.cell? ⟨w4.heap.size, 2, none⟩ = some (.int .i64 n1) := b6.cell rfl; have v3 : w6.cell? ⟨w4.heap.size, 3, none⟩ = some (.slice A1 l1.length c1) := b6.cell rfl; have B46 := B5.trans B6)))
  go_ret2
  exact ⟨A1, c1, rfl, o1.step (B13.trans ((step_trans B4 B46).mono B13.size)), (B1.trans (B13.mono B1.size)).trans ((step_trans B4 B46).mono (Nat.le_trans B1.size B13.size))⟩
set_option maxRecDepth 100000 in
theorem load_first1 (w : World) (b : Nat) (i r0 n0 : Int) (l0 : List UInt8) (r1 x1 n1 : Int) (l1 : List UInt8) (zb : Calls Tryz.prog 30 #[.pointer (some ⟨b, 0, none⟩), .int .i64 i] w (BothIs r0 6 n0 l0 r1 x1 n1 l1 0 w)) (h1 : x1 ≠ 6) (hlt : ¬ n0 < n1) (hn : n0 ≠ 0) :
    Calls Tryz.prog 77 #[.pointer (some ⟨b, 0, none⟩), .int .i64 i] w fun e w' => ∃ A c, e = .returned (.tuple #[.slice A l0.length c, .int .i64 0]) ∧ Whole w' w.heap.size A c l0 ∧ Below w.heap.size w w' := by
  have e1 : (x1 == 6) = false := by simpa using h1
  have en : (n0 == 0) = false := by simpa using hn
  have HIF := Lib.hid (show (if n0 < n1 then (1 : Int) else 0) = 0 by rw [if_neg hlt])
  unfold BothIs at zb
  go_enter Tryz.func77, Tryz.ntmps77
  go_wp2_with (first
    | (go_at_call 30; refine zb.mono ?_; (rintro e w1 ⟨A0, c0, A1, c1, rfl, o0, o1, B1⟩))
    | ((with_reducible refine atWorld w1 ?_); refine wpList_allocRow (w := w1) bothTy rfl rfl ?_; (intro w2 b2 B2 s2; have b2 := Lib.hid b2))
    | ((with_reducible refine atWorld w2 ?_); refine wpList_storeRow (w := w2) bothTy rfl (.tmp 6) (.tmp 13) rfl w1.heap.size (bothL r0 6 n0 A0 l0.length c0 r1 x1 n1 A1 l1.length c1) bothZ rfl rfl rfl rfl bothL_one b2.out ?_; (intro w3 b3 B3 s3 k3; have y1 : w3.cell? ⟨w1.heap.size, 1, none⟩ = some (.int .i64 6) := b3.cell rfl; have y5 : w3.cell? ⟨w1.heap.size, 5, none⟩ = some (.int .i64 x1) := b3.cell rfl; have B13 := B2.trans B3; have b3 := Lib.hid b3))
    | ((with_reducible refine atWorld w3 ?_); refine wpList_loadRow (w := w3) bothTy rfl (.tmp 6) rfl w1.heap.size 0 (bothL r0 6 n0 A0 l0.length c0 r1 x1 n1 A1 l1.length c1) rfl rfl (rangeOf b3.out) ?_)
    | (go_at_call 31; refine (newest_any r0 6 n0 A0 l0.length c0 r1 x1 n1 A1 l1.length c1 w3).mono ?_; (rintro e w4 ⟨rfl, B4⟩; rw [HIF.out]; have b4 := Lib.hid (b3.out.step B4)))
    | ((with_reducible refine atWorld w4 ?_); refine wpList_loadRow (w := w4) halfTy rfl (.tmp 30) rfl w1.heap.size 0 [.int .i64 r0, .int .i64 6, .int .i64 n0, .slice A0 l0.length c0] rfl rfl (rangeMid (n := 4) b4.out rfl) ?_)
    | ((with_reducible refine atWorld w4 ?_); refine wpList_allocRow (w := w4) halfTy rfl rfl ?_; (intro w5 b5 B5 s5; have b5 := Lib.hid b5))
    | ((with_reducible refine atWorld w5 ?_); refine wpList_storeRow (w := w5) halfTy rfl (.tmp 8) (.tmp 31) rfl w4.heap.size [.int .i64 r0, .int .i64 6, .int .i64 n0, .slice A0 l0.length c0] halfZ rfl rfl rfl rfl half_one b5.out ?_; (intro w6 b6 B6 s6 k6; have v2 : w6.cell? ⟨w4.heap.size, 2, none⟩ = some (.int .i64 n0) := b6.cell rfl; have v3 : w6.cell? ⟨w4.heap.size, 3, none⟩ = some (.slice A0 l0.length c0) := b6.cell rfl; have B46 := B5.trans B6)))
  go_ret2
  exact ⟨A0, c0, rfl, o0.step (B13.trans ((step_trans B4 B46).mono B13.size)), (B1.trans (B13.mono B1.size)).trans ((step_trans B4 B46).mono (Nat.le_trans B1.size B13.size))⟩
set_option maxRecDepth 100000 in
theorem load_bad1 (w : World) (b : Nat) (i r0 : Int) (l0 : List UInt8) (r1 x1 n1 : Int) (l1 : List UInt8) (zb : Calls Tryz.prog 30 #[.pointer (some ⟨b, 0, none⟩), .int .i64 i] w (BothIs r0 6 0 l0 r1 x1 n1 l1 0 w)) (h1 : x1 ≠ 6) (hlt : ¬ 0 < n1) :
    Calls Tryz.prog 77 #[.pointer (some ⟨b, 0, none⟩), .int .i64 i] w fun e w' => e = .returned (.tuple #[.slice none 0 0, .int .i64 11]) ∧ Below w.heap.size w w' := by
  have e1 : (x1 == 6) = false := by simpa using h1
  have HIF := Lib.hid (show (if 0 < n1 then (1 : Int) else 0) = 0 by rw [if_neg hlt])
  unfold BothIs at zb
  go_enter Tryz.func77, Tryz.ntmps77
  go_wp2_with (first
    | (go_at_call 30; refine zb.mono ?_; (rintro e w1 ⟨A0, c0, A1, c1, rfl, o0, o1, B1⟩))
    | ((with_reducible refine atWorld w1 ?_); refine wpList_allocRow (w := w1) bothTy rfl rfl ?_; (intro w2 b2 B2 s2; have b2 := Lib.hid b2))
    | ((with_reducible refine atWorld w2 ?_); refine wpList_storeRow (w := w2) bothTy rfl (.tmp 6) (.tmp 13) rfl w1.heap.size (bothL r0 6 0 A0 l0.length c0 r1 x1 n1 A1 l1.length c1) bothZ rfl rfl rfl rfl bothL_one b2.out ?_; (intro w3 b3 B3 s3 k3; have y1 : w3.cell? ⟨w1.heap.size, 1, none⟩ = some (.int .i64 6) := b3.cell rfl; have y5 : w3.cell? ⟨w1.heap.size, 5, none⟩ = some (.int .i64 x1) := b3.cell rfl; have B13 := B2.trans B3; have b3 := Lib.hid b3))
    | ((with_reducible refine atWorld w3 ?_); refine wpList_loadRow (w := w3) bothTy rfl (.tmp 6) rfl w1.heap.size 0 (bothL r0 6 0 A0 l0.length c0 r1 x1 n1 A1 l1.length c1) rfl rfl (rangeOf b3.out) ?_)
    | (go_at_call 31; refine (newest_any r0 6 0 A0 l0.length c0 r1 x1 n1 A1 l1.length c1 w3).mono ?_; (rintro e w4 ⟨rfl, B4⟩; rw [HIF.out]; have b4 := Lib.hid (b3.out.step B4)))
    | ((with_reducible refine atWorld w4 ?_); refine wpList_loadRow (w := w4) halfTy rfl (.tmp 30) rfl w1.heap.size 0 [.int .i64 r0, .int .i64 6, .int .i64 0, .slice A0 l0.length c0] rfl rfl (rangeMid (n := 4) b4.out rfl) ?_)
    | ((with_reducible refine atWorld w4 ?_); refine wpList_allocRow (w := w4) halfTy rfl rfl ?_; (intro w5 b5 B5 s5; have b5 := Lib.hid b5))
    | ((with_reducible refine atWorld w5 ?_); refine wpList_storeRow (w := w5) halfTy rfl (.tmp 8) (.tmp 31) rfl w4.heap.size [.int .i64 r0, .int .i64 6, .int .i64 0, .slice A0 l0.length c0] halfZ rfl rfl rfl rfl half_one b5.out ?_; (intro w6 b6 B6 s6 k6; have v2 : w6.cell? ⟨w4.heap.size, 2, none⟩ = some (.int .i64 0) := b6.cell rfl; have v3 : w6.cell? ⟨w4.heap.size, 3, none⟩ = some (.slice A0 l0.length c0) := b6.cell rfl; have B46 := B5.trans B6)))
  go_ret2
  exact ⟨rfl, (B1.trans (B13.mono B1.size)).trans ((step_trans B4 B46).mono (Nat.le_trans B1.size B13.size))⟩
theorem int_lt (a b : Nat) : ((a : Int) < (b : Int)) ↔ a < b := by omega
section
variable {At : World → Nat → (Nat → Prop) → DS → Prop} (D : Disks Tryz.prog At)
include D
theorem load_any (w : World) (b : Nat) (F : Nat → Prop) (S : DS) (i : Int) (ht : TabAt w) (h : At w b F S) : Calls Tryz.prog 77 #[.pointer (some ⟨b, 0, none⟩), .int .i64 i] w (LoadPost S i w) := by
  have zb := both_is D w b F S i ht h
  by_cases hl : Slot.lookE S i = 0
  · obtain ⟨hn, e0, e1⟩ := nxt_eq S (D.ok _ _ _ _ h) i hl
    rw [hl, hn] at zb
    have x0 : Slot.wrongE S i = Slot.readE (S.readB i) := by unfold Slot.wrongE; rw [if_pos e0]
    have x1 : Slot.wrongE S (i + 1) = Slot.readE (S.readB (i + 1)) := by unfold Slot.wrongE; rw [if_pos e1]
    rw [x0, x1] at zb
    have hE : Slot.loadE S i = if Slot.noneB (S.readB i) (S.readB (i + 1)) = true then 6 else if Slot.newestI (S.readB i) (S.readB (i + 1)) < 0 then 11 else 0 := by unfold Slot.loadE; rw [if_pos hl]
    have hB : Slot.loadE S i = 0 → Slot.loadB S i = Slot.topB (S.readB i) (S.readB (i + 1)) := fun h => by unfold Slot.loadB; rw [if_pos h]
    rw [Slot.newestI_eq] at hE
    rw [Slot.topB_eq] at hB
    by_cases hnn : Slot.readE (S.readB i) = 6 ∧ Slot.readE (S.readB (i + 1)) = 6
    · have e : Slot.loadE S i = 6 := by rw [hE, if_pos]; unfold Slot.noneB; simp [Slot.readE_nots.1 hnn.1, Slot.readE_nots.1 hnn.2]
      rw [hnn.1, hnn.2] at zb
      refine (load_none w b i _ _ _ _ _ _ zb).mono fun e' w' ⟨he, hw⟩ => ?_
      rw [he]
      exact LoadPost.none_ e (by decide) hw
    · have hno : ¬ Slot.noneB (S.readB i) (S.readB (i + 1)) = true := fun x => hnn (by unfold Slot.noneB at x; simp at x; exact ⟨Slot.readE_nots.2 x.1, Slot.readE_nots.2 x.2⟩)
      rw [if_neg hno] at hE
      by_cases hlt : Slot.readN (S.readB i) < Slot.readN (S.readB (i + 1))
      · rw [if_pos hlt, if_neg (by decide)] at hE
        have hB := hB hE
        rw [if_pos hlt] at hB
        have hpos : ((Slot.readN (S.readB (i + 1)) : Nat) : Int) ≠ 0 := by omega
        have fin : ∀ e' w', (∃ A c, e' = .returned (.tuple #[.slice A (Slot.readB (S.readB (i + 1))).length c, .int .i64 0]) ∧ Whole w' w.heap.size A c (Slot.readB (S.readB (i + 1))) ∧ Below w.heap.size w w') → LoadPost S i w e' w' := by
          rintro e' w' ⟨A, c, he, hW, hb⟩
          exact ⟨A, c, by rw [hB, hE]; exact he, by rw [hB]; exact hW, hb⟩
        by_cases h6 : Slot.readE (S.readB i) = 6
        · rw [h6] at zb
          exact (load_second1 w b i _ _ _ _ _ _ _ zb (fun x => hnn ⟨h6, x⟩) ((int_lt _ _).2 hlt) hpos).mono fin
        · exact (load_second0 w b i _ _ _ _ _ _ _ _ zb h6 ((int_lt _ _).2 hlt) hpos).mono fin
      · rw [if_neg hlt] at hE
        have hlt' : ¬ ((Slot.readN (S.readB i) : Nat) : Int) < ((Slot.readN (S.readB (i + 1)) : Nat) : Int) := fun x => hlt ((int_lt _ _).1 x)
        by_cases hp : 0 < Slot.readN (S.readB i)
        · rw [if_pos hp, if_neg (by decide)] at hE
          have hB := hB hE
          rw [if_neg hlt] at hB
          have hpos : ((Slot.readN (S.readB i) : Nat) : Int) ≠ 0 := by omega
          have fin : ∀ e' w', (∃ A c, e' = .returned (.tuple #[.slice A (Slot.readB (S.readB i)).length c, .int .i64 0]) ∧ Whole w' w.heap.size A c (Slot.readB (S.readB i)) ∧ Below w.heap.size w w') → LoadPost S i w e' w' := by
            rintro e' w' ⟨A, c, he, hW, hb⟩
            exact ⟨A, c, by rw [hB, hE]; exact he, by rw [hB]; exact hW, hb⟩
          by_cases h6 : Slot.readE (S.readB i) = 6
          · rw [h6] at zb
            exact (load_first1 w b i _ _ _ _ _ _ _ zb (fun x => hnn ⟨h6, x⟩) hlt' hpos).mono fin
          · exact (load_first0 w b i _ _ _ _ _ _ _ _ zb h6 hlt' hpos).mono fin
        · rw [if_neg hp, if_pos (by decide)] at hE
          have z0 : Slot.readN (S.readB i) = 0 := by omega
          rw [z0] at zb hlt'
          have fin : ∀ e' w', (e' = .returned (.tuple #[.slice none 0 0, .int .i64 11]) ∧ Below w.heap.size w w') → LoadPost S i w e' w' := by
            rintro e' w' ⟨he, hb⟩
            rw [he]
            exact LoadPost.none_ hE (by decide) hb
          by_cases h6 : Slot.readE (S.readB i) = 6
          · rw [h6] at zb
            exact (load_bad1 w b i _ _ _ _ _ _ zb (fun x => hnn ⟨h6, x⟩) hlt').mono fin
          · exact (load_bad0 w b i _ _ _ _ _ _ _ zb h6 hlt').mono fin
  · refine (load_err w (.pointer (some ⟨b, 0, none⟩)) i _ _ _ _ _ _ _ _ _ zb hl).mono fun e' w' ⟨he, hw⟩ => ?_
    rw [he]
    exact LoadPost.none_ (by unfold Slot.loadE; rw [if_neg hl]) hl hw
end
end Go.Proofs.YtcahpodmcklnbaaGreatDoor
