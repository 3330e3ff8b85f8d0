/-
  slot.both, slot.newest, cmp.Or: both sectors of a slot. Conditions: a disk's methods do what the document says; the table of crc lies as the program's text lays it.
-/
import Derived.Test.YtgnfajmjhlnobaaDoorSlLook
namespace Go.Proofs.YtgnfajmjhlnobaaDoor
open Go.RowKit Fix

def orE (a b : Int) : Int := if a = 0 then b else a
theorem or_any (a b : Int) (g : Nat) (w : World) (c0 : w.cell? ⟨g, 0, none⟩ = some (.int .i64 a)) (c1 : w.cell? ⟨g, 1, none⟩ = some (.int .i64 b)) :
    Calls Tryd.prog 61 #[.slice (some ⟨g, 0, none⟩) 2 2] w fun e w' => e = .returned (.int .i64 (orE a b)) ∧ w = w' := by
  obtain ⟨o, ho⟩ : ∃ o, o = orE a b := ⟨_, rfl⟩
  rw [← ho]
  have HO := Lib.hid ho
  clear ho
  unfold orE at HO
  go_enter Tryd.func61, Tryd.ntmps61
  go_wp2
  go_loop [5, 8] (fun _ i => ∃ k : Nat, k ≤ 2 ∧ i = .int .i64 (k : Int) ∧ (1 ≤ k → a = 0) ∧ (2 ≤ k → b = 0)) (fun _ i => 2 - (intOf i).toNat)
  case atStart => exact ⟨0, by omega, rfl, by omega, by omega⟩
  case round =>
    obtain ⟨k, hk, rfl, h1, h2⟩ := hrel
    rcases k with _ | _ | _ | k
    · by_cases ha : a = 0
      · subst ha
        go_wp2
        go_round
        case rel => exact ⟨1, by omega, rfl, by simp, by simp⟩
        case measure => simp [intOf]
      · have hne : (a != 0) = true := by simpa using ha
        have HA := Lib.hid ha
        clear h1 h2 ha
        go_wp2
        go_ret
        exact ⟨congrArg (fun z => Ending.returned (Value.int .i64 z)) (show a = o by rw [HO.out, if_neg HA.out]), rfl⟩
    · obtain rfl := h1 (by omega)
      by_cases hb : b = 0
      · subst hb
        go_wp2
        go_round
        case rel => exact ⟨2, by omega, rfl, by simp, by simp⟩
        case measure => simp [intOf]
      · have hne : (b != 0) = true := by simpa using hb
        clear h1 h2 hb
        go_wp2
        go_ret
        exact ⟨congrArg (fun z => Ending.returned (Value.int .i64 z)) (show b = o by have := HO.out; simpa using this.symm), rfl⟩
    · obtain rfl := h1 (by omega)
      obtain rfl := h2 (by omega)
      clear h1 h2
      go_wp2
      go_ret
      exact ⟨congrArg (fun z => Ending.returned (Value.int .i64 z)) (show 0 = o by have := HO.out; simpa using this.symm), rfl⟩
    · omega
def bothZ : List Value := halfZ ++ halfZ
theorem bothTy : RowTy Tryd.prog 79 bothZ := ⟨fun w => by kernel_rfl, by kernel_rfl, _, Tryd.underlying79, rfl⟩
/-- both halves as cells -/
def bothL (r0 x0 n0 : Int) (A0 : Option Addr) (m0 c0 : Nat) (r1 x1 n1 : Int) (A1 : Option Addr) (m1 c1 : Nat) : List Value :=
  [.int .i64 r0, .int .i64 x0, .int .i64 n0, .slice A0 m0 c0, .int .i64 r1, .int .i64 x1, .int .i64 n1, .slice A1 m1 c1]
theorem bothL_one {r0 x0 n0 : Int} {A0 : Option Addr} {m0 c0 : Nat} {r1 x1 n1 : Int} {A1 : Option Addr} {m1 c1 : Nat} : ∀ v ∈ bothL r0 x0 n0 A0 m0 c0 r1 x1 n1 A1 m1 c1, v.oneCell' = true := by
  intro v hv
  simp [bothL] at hv
  rcases hv with rfl | rfl | rfl | rfl | rfl | rfl | rfl | rfl <;> rfl
set_option maxRecDepth 100000 in
theorem newest_any (r0 x0 n0 : Int) (A0 : Option Addr) (m0 c0 : Nat) (r1 x1 n1 : Int) (A1 : Option Addr) (m1 c1 : Nat) (w : World) :
    Calls Tryd.prog 43 #[.agg (bothL r0 x0 n0 A0 m0 c0 r1 x1 n1 A1 m1 c1).toArray] w fun e w' => e = .returned (.int .i64 (if n0 < n1 then 1 else 0)) ∧ Below w.heap.size w w' := by
  have hB : ∀ v, Below w.heap.size w (w.alloc (.cells v 79)) := fun v => (Below.refl _ _).alloc (Nat.le_refl _) _
  unfold bothL
  by_cases h : n0 < n1
  · rw [if_pos h]
    go_enter Tryd.func43, Tryd.ntmps43
    go_wp2
    go_ret
    exact ⟨rfl, hB _⟩
  · rw [if_neg h]
    go_enter Tryd.func43, Tryd.ntmps43
    go_wp2
    go_ret
    exact ⟨rfl, hB _⟩
namespace Slot
theorem lookE_or (S : DS) (h : S.Ok) (i : Int) : orE (S.readE i) (S.readE (IntKind.i64.wrap (i + 1))) = lookE S i := by
  unfold orE lookE
  by_cases h0 : S.readE i = 0
  · rw [if_pos h0, if_pos h0]
    obtain ⟨_, h1, h2⟩ := DS.readE_zero h0
    have := h.n2
    rw [IntWalk.i64_in (i + 1) (by omega)]
  · rw [if_neg h0, if_neg h0]
end Slot
/-- the second place, as a program counts it -/
def nxt (i : Int) : Int := IntKind.i64.wrap (i + 1)
theorem one_blk {w' : World} {g : Nat} {E : TypeId} {r0 x0 n0 : Int} {A0 : Option Addr} {m0 c0 : Nat} {r1 x1 n1 : Int} {A1 : Option Addr} {m1 c1 : Nat} (h : BlkR E w' g (bothL r0 x0 n0 A0 m0 c0 r1 x1 n1 A1 m1 c1)) :
    w'.cell? ⟨g, 0, none⟩ = some (.int .i64 r0) ∧ w'.cell? ⟨g, 1, none⟩ = some (.int .i64 x0) ∧ w'.cell? ⟨g, 2, none⟩ = some (.int .i64 n0) ∧ w'.cell? ⟨g, 3, none⟩ = some (.slice A0 m0 c0) ∧ w'.cell? ⟨g, 4, none⟩ = some (.int .i64 r1) ∧ w'.cell? ⟨g, 5, none⟩ = some (.int .i64 x1) ∧ w'.cell? ⟨g, 6, none⟩ = some (.int .i64 n1) ∧ w'.cell? ⟨g, 7, none⟩ = some (.slice A1 m1 c1) := ⟨h.cell rfl, h.cell rfl, h.cell rfl, h.cell rfl, h.cell rfl, h.cell rfl, h.cell rfl, h.cell rfl⟩
theorem zero_blk {w' : World} {g : Nat} {E : TypeId} (h : BlkR E w' g bothZ) :
    w'.cell? ⟨g, 0, none⟩ = some (.int .i64 0) ∧ w'.cell? ⟨g, 1, none⟩ = some (.int .i64 0) ∧ w'.cell? ⟨g, 2, none⟩ = some (.int .i64 0) ∧ w'.cell? ⟨g, 3, none⟩ = some (.slice none 0 0) ∧ w'.cell? ⟨g, 4, none⟩ = some (.int .i64 0) ∧ w'.cell? ⟨g, 5, none⟩ = some (.int .i64 0) ∧ w'.cell? ⟨g, 6, none⟩ = some (.int .i64 0) ∧ w'.cell? ⟨g, 7, none⟩ = some (.slice none 0 0) ∧ w'.frozen? ⟨g, 0, none⟩ = false ∧ w'.frozen? ⟨g, 1, none⟩ = false ∧ w'.frozen? ⟨g, 2, none⟩ = false ∧ w'.frozen? ⟨g, 3, none⟩ = false ∧ w'.frozen? ⟨g, 4, none⟩ = false ∧ w'.frozen? ⟨g, 5, none⟩ = false ∧ w'.frozen? ⟨g, 6, none⟩ = false ∧ w'.frozen? ⟨g, 7, none⟩ = false := ⟨h.cell rfl, h.cell rfl, h.cell rfl, h.cell rfl, h.cell rfl, h.cell rfl, h.cell rfl, h.cell rfl, h.frozen _, h.frozen _, h.frozen _, h.frozen _, h.frozen _, h.frozen _, h.frozen _, h.frozen _⟩
theorem chain8 {w5 : World} {g : Nat} {E : TypeId} (v0 v1 v2 v3 v4 v5 v6 v7 : Value) (b : BlkR E w5 g bothZ) :
    BlkR E ((((((((w5.setCell ⟨g, 0, none⟩ v0).setCell ⟨g, 1, none⟩ v1).setCell ⟨g, 2, none⟩ v2).setCell ⟨g, 3, none⟩ v3).setCell ⟨g, 4, none⟩ v4).setCell ⟨g, 5, none⟩ v5).setCell ⟨g, 6, none⟩ v6).setCell ⟨g, 7, none⟩ v7) g [v0, v1, v2, v3, v4, v5, v6, v7] ∧ (∀ k, k ≠ g → ((((((((w5.setCell ⟨g, 0, none⟩ v0).setCell ⟨g, 1, none⟩ v1).setCell ⟨g, 2, none⟩ v2).setCell ⟨g, 3, none⟩ v3).setCell ⟨g, 4, none⟩ v4).setCell ⟨g, 5, none⟩ v5).setCell ⟨g, 6, none⟩ v6).setCell ⟨g, 7, none⟩ v7).heap[k]? = w5.heap[k]?) ∧ Below g w5 ((((((((w5.setCell ⟨g, 0, none⟩ v0).setCell ⟨g, 1, none⟩ v1).setCell ⟨g, 2, none⟩ v2).setCell ⟨g, 3, none⟩ v3).setCell ⟨g, 4, none⟩ v4).setCell ⟨g, 5, none⟩ v5).setCell ⟨g, 6, none⟩ v6).setCell ⟨g, 7, none⟩ v7) := by
  refine ⟨(((((((b.set_ 0 v0).set_ 1 v1).set_ 2 v2).set_ 3 v3).set_ 4 v4).set_ 5 v5).set_ 6 v6).set_ 7 v7, fun k hk => ?_, ?_⟩
  · repeat refine (Below.heap_setCell _ ⟨g, _, none⟩ _ k hk).trans ?_
    rfl
  · repeat refine Below.setCell ?_ (p := ⟨g, _, none⟩) (Nat.le_refl g) _
    exact Below.refl _ _
theorem errBelow (w : World) (v : Array Value) : Below w.heap.size w (w.alloc (.cells v 24)) := (Below.refl _ _).alloc (Nat.le_refl _) _
/-- one half, as look tells it -/
def LookIs (r0 x0 n0 : Int) (l0 : List UInt8) (w : World) (e : Ending) (w' : World) : Prop :=
  ∃ A c, e = .returned (.agg #[.int .i64 r0, .int .i64 x0, .int .i64 n0, .slice A l0.length c]) ∧ c ≤ 9223372036854775807 ∧ Whole w' w.heap.size A c l0 ∧ Below w.heap.size w w'
/-- both halves and an error, as both tells them -/
def BothIs (r0 x0 n0 : Int) (l0 : List UInt8) (r1 x1 n1 : Int) (l1 : List UInt8) (lo : Int) (w : World) (e : Ending) (w' : World) : Prop :=
  ∃ A0 c0 A1 c1, e = .returned (.tuple #[.agg (bothL r0 x0 n0 A0 l0.length c0 r1 x1 n1 A1 l1.length c1).toArray, .int .i64 lo]) ∧ Whole w' w.heap.size A0 c0 l0 ∧ Whole w' w.heap.size A1 c1 l1 ∧ Below w.heap.size w w'
set_option maxRecDepth 100000 in
set_option maxHeartbeats 1000000 in
theorem both_go (p : Value) (Q : World → Prop) (hQ : ∀ w w', Q w → Below w.heap.size w w' → Q w') (i i1 : Int) (hnx : IntKind.i64.wrap (i + 1) = i1) (r0 x0 n0 : Int) (l0 : List UInt8) (r1 x1 n1 : Int) (l1 : List UInt8) (lo : Int) (hor : orE r0 r1 = lo)
    (z0 : ∀ w, Q w → Calls Tryd.prog 60 #[p, .int .i64 i] w (LookIs r0 x0 n0 l0 w)) (z1 : ∀ w, Q w → Calls Tryd.prog 60 #[p, .int .i64 i1] w (LookIs r1 x1 n1 l1 w)) (w : World) (hw : Q w) :
    Calls Tryd.prog 42 #[p, .int .i64 i] w (BothIs r0 x0 n0 l0 r1 x1 n1 l1 lo w) := by
  unfold LookIs at z0 z1
  unfold BothIs
  have zo : ∀ (g : Nat) (w : World), w.cell? ⟨g, 0, none⟩ = some (.int .i64 r0) → w.cell? ⟨g, 1, none⟩ = some (.int .i64 r1) → _ := fun g w h1 h2 => or_any r0 r1 g w h1 h2
  rw [hor] at zo
  clear hor
  obtain ⟨m0, hm0⟩ : ∃ x, x = l0.length := ⟨_, rfl⟩
  obtain ⟨m1, hm1⟩ : ∃ x, x = l1.length := ⟨_, rfl⟩
  rw [← hm0] at z0
  rw [← hm1] at z1
  rw [← hm0, ← hm1]
  clear hm0 hm1
  go_enter Tryd.func42, Tryd.ntmps42
  go_wp2_with (first
    | ((with_reducible refine atWorld w ?_); refine wpList_allocRow (w := w) bothTy rfl rfl ?_; (intro w0 b0 B0 s0; have h0 := hQ _ _ hw B0; have b0 := Lib.hid b0))
    | (go_at_call 60; first
      | ((with_reducible refine (z0 w0 h0).mono ?_); (rintro e w1 ⟨A0, c0, rfl, _, o0, B1⟩; have h1 := hQ _ _ h0 B1))
      | ((with_reducible refine (z1 w1 h1).mono ?_); (rintro e w2 ⟨A1, c1, rfl, _, o1, B2⟩; have o0 := o0.step B2; have B12 := step_trans B1 B2; have b02 := b0.out.step B12)))
    | ((with_reducible refine atWorld w2 ?_); refine wpList_allocRow (w := w2) bothTy rfl rfl ?_; (intro w3 b3 B3 s3))
    | ((with_reducible refine atWorld w3 ?_); refine wpList_storeRow (w := w3) bothTy rfl (.tmp 6) (.tmp 14) rfl w2.heap.size (bothL r0 x0 n0 A0 m0 c0 r1 x1 n1 A1 m1 c1) bothZ rfl rfl rfl rfl bothL_one b3 ?_; (intro w4 b4 B4 s4 k4)))
  have B24 : Below w2.heap.size w2 w4 := B3.trans B4
  have b04 := b02.step B24
  have o04 := o0.step B24
  have o14 := o1.step B24
  have HB := B0.trans ((step_trans B12 B24).mono B0.size)
  have hlt : w.heap.size < w2.heap.size := by have := B12.size; omega
  have hlt4 := b4.lt
  have hle0 : w.heap.size < w0.heap.size := by omega
  have hle1 := Nat.lt_of_lt_of_le hle0 B1.size
  have HW := Lib.hid (And.intro o04 (And.intro o14 (And.intro HB (And.intro hle0 (And.intro hle1 (And.intro hlt (Nat.ne_of_gt hlt)))))))
  have W1 : Below w4.heap.size w4 (w4.drew.alloc (.cells #[.int .i64 r0, .int .i64 r1] 24)) := (Below.refl _ w4).drew.alloc (Nat.le_refl _) _
  have S0 := one_blk (w' := w4.drew) b4
  have S1 := one_blk (b4.step W1)
  have bn : BlkR 24 (w4.drew.alloc (.cells #[.int .i64 r0, .int .i64 r1] 24)) w4.heap.size [.int .i64 r0, .int .i64 r1] := BlkR.new w4.drew _ _
  have q0 : (w4.drew.alloc (.cells #[.int .i64 r0, .int .i64 r1] 24)).cell? ⟨w4.heap.size, 0, none⟩ = some (.int .i64 r0) := bn.cell rfl
  have q1 : (w4.drew.alloc (.cells #[.int .i64 r0, .int .i64 r1] 24)).cell? ⟨w4.heap.size, 1, none⟩ = some (.int .i64 r1) := bn.cell rfl
  have zo2 := zo w4.heap.size _ q0 q1
  have HK := Lib.hid (And.intro (b04.step W1) (And.intro W1 (b4.step W1)))
  clear b0 b3 b4 b02 b04 bn B0 B1 B2 B3 B4 B12 B24 o0 o1 o04 o14 HB hle0 hle1 z0 z1 zo q0 q1 s0 s3 s4 k4 h0 h1 W1 hlt hlt4 hw hQ
  replace zo2 := Lib.hid zo2
  replace S0 := Lib.hid S0
  replace S1 := Lib.hid S1
  go_region_held3 (fun w' => w'.cell? ⟨w2.heap.size, 0, none⟩ = some (.int .i64 r0) ∧ w'.cell? ⟨w2.heap.size, 1, none⟩ = some (.int .i64 x0) ∧ w'.cell? ⟨w2.heap.size, 2, none⟩ = some (.int .i64 n0) ∧ w'.cell? ⟨w2.heap.size, 3, none⟩ = some (.slice A0 m0 c0) ∧ w'.cell? ⟨w2.heap.size, 4, none⟩ = some (.int .i64 r1) ∧ w'.cell? ⟨w2.heap.size, 5, none⟩ = some (.int .i64 x1) ∧ w'.cell? ⟨w2.heap.size, 6, none⟩ = some (.int .i64 n1) ∧ w'.cell? ⟨w2.heap.size, 7, none⟩ = some (.slice A1 m1 c1)) (first | with_reducible exact S5.out | (refine one_blk (E := 79) ?_; with_reducible refine BlkR.other ?_ _ _ ?_; repeat' (first | exact b65.out | exact HW.out.2.2.2.2.2.2 | with_reducible refine BlkR.other ?_ _ _ ?_)) | exact S0.out | exact S1.out) (first
    | (go_at_call 61; refine zo2.out.mono ?_; (rintro e w5 ⟨rfl, hw⟩; have b65 := HK.out.2.2; have b45 := HK.out.1; have B45 := HK.out.2.1; rw [hw] at b65 b45 B45; clear hw; obtain ⟨k0_, k1_, k2_, k3_, k4_, k5_, k6_, k7_, k8_, k9_, k10_, k11_, k12_, k13_, k14_, k15_⟩ := zero_blk b45; have S5 := Lib.hid (one_blk b65); have b65 := Lib.hid b65; have b45 := Lib.hid b45; have B45 := Lib.hid B45)))
  obtain ⟨c1, c2, c3⟩ := chain8 (.int .i64 r0) (.int .i64 x0) (.int .i64 n0) (.slice A0 m0 c0) (.int .i64 r1) (.int .i64 x1) (.int .i64 n1) (.slice A1 m1 c1) b45.out
  clear k0_ k1_ k2_ k3_ k4_ k5_ k6_ k7_ k8_ k9_ k10_ k11_ k12_ k13_ k14_ k15_ S5 S0 S1
  obtain ⟨ho0, ho1, hB, hle0, hle1, hlt, _⟩ := HW.out
  have hW0 := (ho0.step B45.out).less (Nat.le_of_lt hle0)
  have hW1 := (ho1.step B45.out).less (Nat.le_of_lt hle1)
  go_wp2
  refine bodyPost_ret (results_cell2 Tryd.results42 _ _ _ _ _ _ rfl rfl (loadRow bothTy (by rfl) c1)) rfl ⟨A0, c0, A1, _, rfl, ?_, ?_, ?_⟩
  · exact hW0.keepBut c2 hle0 (ho0.step B45.out)
  · exact hW1.keepBut c2 hle1 (ho1.step B45.out)
  · exact (hB.trans (B45.out.mono hB.size)).trans c3
section
variable {At : World → Nat → (Nat → Prop) → DS → Prop} (D : Disks Tryd.prog At)
include D
theorem both_is (w : World) (b : Nat) (F : Nat → Prop) (S : DS) (i : Int) (ht : TabAt w) (h : At w b F S) : Calls Tryd.prog 42 #[.pointer (some ⟨b, 0, none⟩), .int .i64 i] w
    (BothIs (S.readE i) (Slot.wrongE S i) (Slot.readN (S.readB i) : Int) (Slot.readB (S.readB i)) (S.readE (nxt i)) (Slot.wrongE S (nxt i)) (Slot.readN (S.readB (nxt i)) : Int) (Slot.readB (S.readB (nxt i))) (Slot.lookE S i) w) :=
  both_go (.pointer (some ⟨b, 0, none⟩)) (fun w => TabAt w ∧ At w b F S) (fun _ _ h hB => ⟨h.1.below hB (Nat.le_refl _), At_step D h.2 hB⟩) i (nxt i) rfl _ _ _ _ _ _ _ _ _ (Slot.lookE_or S (D.ok _ _ _ _ h) i)
    (fun w h => look_any D w b F S i h.1 h.2) (fun w h => look_any D w b F S (nxt i) h.1 h.2) w ⟨ht, h⟩
end
end Go.Proofs.YtgnfajmjhlnobaaDoor
