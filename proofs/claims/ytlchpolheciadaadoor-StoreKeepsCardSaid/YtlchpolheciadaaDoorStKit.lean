/-
  tandemlaw09's small functions: of, gets, made. Conditions: a disk's methods and a store's do what the document says; the table of crc lies as the program's text lays it.
-/
import Derived.Test.YtlchpolheciadaaDoorStPost
import Derived.Test.YtlchpolheciadaaDoorBa
namespace Go.Proofs.YtlchpolheciadaaDoor
open Go.RowKit Fix

def b32 (x : UInt8) : List UInt8 := List.replicate 32 x
def b32At (x : UInt8) (j : Nat) : List UInt8 := List.replicate j x ++ List.replicate (32 - j) 0
theorem b32At_length (x : UInt8) (j : Nat) (h : j ≤ 32) : (b32At x j).length = 32 := by simp [b32At]; omega
theorem b32_length (x : UInt8) : (b32 x).length = 32 := by simp [b32]
theorem b32At_set (x : UInt8) (j : Nat) (h : j < 32) : (b32At x j).set j x = b32At x (j + 1) := by
  unfold b32At
  rw [List.set_append_right _ _ (by simp), List.length_replicate, Nat.sub_self, show 32 - j = (32 - (j + 1)) + 1 by omega, List.replicate_succ, List.set_cons_zero, List.replicate_succ', List.append_assoc]
  rfl
def Of9Post (x : UInt8) (w : World) (e : Ending) (w' : World) : Prop :=
  ∃ g, e = .returned (.slice (some ⟨g, 0, none⟩) 32 32) ∧ w.heap.size ≤ g ∧ BlkB w' g (b32 x) ∧ Below w.heap.size w w'
theorem of9_any (x : UInt8) (w : World) : Calls Tryd.prog 17 #[.int .u8 (x.toNat : Int)] w (Of9Post x w) := by
  have hmk := make_bytes 32 (by decide)
  have h0 : ∀ W : World, BlkB (W.alloc (.cells (List.replicate 32 (Value.int .u8 0)).toArray 5)) W.heap.size (b32At x 0) := fun W => heap_alloc_new W _
  replace h0 := Lib.hid h0
  rw [show ((32 : Nat) : Int) = 32 from rfl] at hmk
  go_enter Tryd.func17, Tryd.ntmps17
  go_wp2
  clear hmk
  go_loopw [4] (fun i wr => ∃ j : Nat, j ≤ 32 ∧ i = .int .i64 (j : Int) ∧ BlkB wr w.heap.size (b32At x j) ∧ Below w.heap.size w wr) (fun i _ => 32 - (intOf i).toNat)
  case atStart => exact ⟨0, by omega, rfl, h0.out w, (Below.refl _ _).alloc (Nat.le_refl _) _⟩
  case round =>
    obtain ⟨j, hj, rfl, hblk, hbel⟩ := hrel
    by_cases hj8 : j < 32
    · have hcell := hblk.cell j (by rw [b32At_length x j hj]; exact hj8)
      have hfr := hblk.frozen j
      have HB := Lib.hid hblk
      clear hblk
      go_wp2
      go_roundw
      case rel =>
        refine ⟨j + 1, by omega, by go_num, ?_, hbel.setCell (Nat.le_refl _) _⟩
        rw [← b32At_set x j hj8]
        exact HB.out.set_ _ _
      case measure => simp [intOf]; omega
    · obtain rfl : j = 32 := by omega
      rw [show b32At x 32 = b32 x by simp [b32At, b32]] at hblk
      go_wp2
      go_ret
      exact ⟨w.heap.size, rfl, Nat.le_refl _, hblk, hbel⟩
/-- of's answer, read -/
theorem Of9Post.bytes {x : UInt8} {w' : World} {g : Nat} (h : BlkB w' g (b32 x)) : BytesAt w' w'.heap.size (some ⟨g, 0, none⟩) (b32 x) := h.bytes (b32 x) ⟨[], by simp⟩ h.lt
section
variable {At : World → Nat → (Nat → Prop) → DS → Prop} {SAt : World → Nat → (Nat → Prop) → Nat → StM → Prop} (D : Disks Tryd.prog At) (T : Stores At SAt)
include D T
theorem gets_any (w : World) (b g : Nat) (H : Nat → Prop) (S : DS) (s : StM) (i : Int) (A : Option Addr) (d : List UInt8) (n c : Nat) (hn : d.length = n) (ht : TabAt w) (h : Duo At SAt w b g H S s) (hr : Aside H w A d) :
    Calls Tryd.prog 20 #[.pointer (some ⟨g, 0, none⟩), .int .i64 i, .slice A n c] w fun e w' => ∃ H', e = .returned (.bool (St.getE S s i == 0 && St.getB S s i == d)) ∧ Duo At SAt w' b g H' S (St.getS S s) ∧ Keep H w H' w' := by
  have z := duo_get D T h i ht
  obtain ⟨rb, hrb⟩ : ∃ x, x = St.getB S s i := ⟨_, rfl⟩
  obtain ⟨re, hre⟩ : ∃ x, x = St.getE S s i := ⟨_, rfl⟩
  obtain ⟨rs, hrs⟩ : ∃ x, x = St.getS S s := ⟨_, rfl⟩
  rw [← hrb, ← hre, ← hrs] at z
  rw [← hrb, ← hre, ← hrs]
  have HA := Lib.hid hr
  clear hrb hre hrs h ht hr
  cases h0 : (re == 0) with
  | true =>
    rw [Bool.true_and]
    go_enter Tryd.func20, Tryd.ntmps20
    go_wp2_with (first
      | (go_at_call 9; refine z.mono ?_; (rintro e w1 ⟨A1, c1, H1, rfl, o1, h1, K1⟩; have S1 := sameBytes_any A1 rb _ c1 rfl A d n c hn w1.heap.size w1 o1 (HA.out.keep K1).1))
      | (go_at_call 42; refine S1.mono ?_; (rintro e w2 ⟨rfl, rfl⟩)))
    go_ret
    exact ⟨H1, rfl, h1, K1⟩
  | false =>
    rw [Bool.false_and]
    go_enter Tryd.func20, Tryd.ntmps20
    go_wp2_with (go_at_call 9; refine z.mono ?_; (rintro e w1 ⟨A1, c1, H1, rfl, o1, h1, K1⟩))
    go_ret
    exact ⟨H1, rfl, h1, K1⟩
def MadePost (At : World → Nat → (Nat → Prop) → DS → Prop) (SAt : World → Nat → (Nat → Prop) → Nat → StM → Prop) (n : Nat) (w : World) (e : Ending) (w' : World) : Prop :=
  ∃ b g H S, e = .returned (.tuple #[.pointer (some ⟨b, 0, none⟩), .pointer (some ⟨g, 0, none⟩)]) ∧ Duo At SAt w' b g H S ⟨0, n, 1, false⟩ ∧ St.Calm S n 1 (fun _ => St.zeros) ∧ S.ops = n + 2 ∧ S.firm 0 = Slot.nots ∧ (∀ k, H k → w.heap.size ≤ k) ∧ Below w.heap.size w w'
theorem made_any (n : Nat) (h1 : 1 ≤ n) (h64 : n ≤ 64) (w : World) (ht : TabAt w) : Calls Tryd.prog 16 #[.int .i64 (n : Int)] w (MadePost At SAt n w) := by
  obtain ⟨S, hS, hC, hO, hf⟩ := St.make_fresh n h1 h64
  obtain ⟨o1, o2, o3, o4⟩ := hC.open_
  have zn := fun w : World => D.new_yes (n + 1) w (by omega) (by omega)
  rw [show ((n + 1 : Nat) : Int) = (n : Int) + 1 by omega] at zn
  have zm : ∀ w b F, TabAt w → At w b F (DS.fresh (n + 1)) → _ := fun w b F t h => T.make_ w b F (DS.fresh (n + 1)) 0 n t h (by show 0 ≤ 900000; decide)
  unfold ChgIs at zm
  rw [hS] at zm
  have zo : ∀ w b F, TabAt w → At w b F S → _ := fun w b F t h => (T.open_ w b F S 0 n t h (by omega)).mono fun e w' h => h.yes o1
  rw [o2, Int.toNat_natCast, o3, o4] at zo
  have hw1 : IntKind.i64.wrap ((n : Int) + 1) = (n : Int) + 1 := IntWalk.i64_in _ (by omega)
  have HP := Lib.hid (And.intro hC (And.intro hO hf))
  have HT := Lib.hid ht
  clear hS hC hO hf o1 o2 o3 o4
  go_enter Tryd.func16, Tryd.ntmps16
  go_wp2_with (first
    | (go_at_call 40; refine (zn w).mono ?_; (rintro e w1 ⟨b, F, rfl, a1, hF1, B1⟩; have t1 := ht.below B1 (Nat.le_refl _)))
    | (go_at_call 14; refine (zm w1 b F t1 a1).mono ?_; (rintro e w2 ⟨F2, rfl, a2, hF2, fr2⟩; obtain ⟨B2, hF2'⟩ := chg_go B1 hF1 hF2 fr2; have t2 := ht.below B2 (Nat.le_refl _)))
    | (go_at_call 10; refine (zo w2 b F2 t2 a2).mono ?_; (rintro e w3 ⟨g, H, A, c, rfl, h3, K3, _, _, _⟩; obtain ⟨B3, hH3⟩ := chg_go B2 hF2' K3.own K3.fr)))
  go_ret2
  exact ⟨b, g, H, S, rfl, h3, HP.out.1, HP.out.2.1, HP.out.2.2, hH3, B3⟩
/-- of a calm store: what a block is held against -/
theorem calm_gets {w : World} {b g : Nat} {H : Nat → Prop} {S : DS} {m N : Nat} {f : Nat → List UInt8} (h : Duo At SAt w b g H S ⟨0, m, N, false⟩) (C : St.Calm S m N f) (i : Nat) (hi : i < m) (A : Option Addr) (d : List UInt8) (n c : Nat) (hn : d.length = n) (ht : TabAt w) (hr : Aside H w A d) :
    Calls Tryd.prog 20 #[.pointer (some ⟨g, 0, none⟩), .int .i64 (i : Int), .slice A n c] w fun e w' => ∃ H', e = .returned (.bool (f i == d)) ∧ Duo At SAt w' b g H' S ⟨0, m, N, false⟩ ∧ Keep H w H' w' := by
  have z := gets_any D T w b g H S ⟨0, m, N, false⟩ i A d n c hn ht h hr
  obtain ⟨e1, e2⟩ := C.get hi
  rw [e1, e2, St.get_still C.q.out] at z
  exact z
omit D in
/-- a Put into a calm store -/
theorem calm_put {w : World} {b g : Nat} {H : Nat → Prop} {S : DS} {m N : Nat} {f : Nat → List UInt8} (h : Duo At SAt w b g H S ⟨0, m, N, false⟩) (C : St.Calm S m N f) (i : Nat) (hi : i < m) (hN : N < 1099511627776) (A : Option Addr) (d : List UInt8) (n c : Nat) (hn : d.length = n) (h32 : n = 32) (ht : TabAt w) (ho : S.ops ≤ 900000) (hr : Aside H w A d) :
    Calls Tryd.prog 11 #[.pointer (some ⟨g, 0, none⟩), .int .i64 (i : Int), .slice A n c] w fun e w' => ∃ H' S', e = .returned (.int .i64 0) ∧ Duo At SAt w' b g H' S' ⟨0, m, N + 1, false⟩ ∧ St.Calm S' m (N + 1) (DS.upd f i d) ∧ S'.ops = S.ops + 4 ∧ S'.firm 0 = Jn.sect i (N + 1) d ∧ Keep H w H' w' := by
  subst hn
  have z := duo_put T h i A d c ht ho hr
  obtain ⟨S', e1, e2, e3, e4, e5⟩ := C.put hi h32 hN
  rw [e1, e4] at z
  exact z.mono fun e w' ⟨H', z1, z2, z3⟩ => ⟨H', S', z1, z2, e2, e3, e5, z3⟩
omit D in
/-- a Put that may stop -/
theorem calm_stop {w : World} {b g : Nat} {H : Nat → Prop} {S : DS} {m N k : Nat} {f : Nat → List UInt8} (h : Duo At SAt w b g H { S with left := some k } ⟨0, m, N, false⟩) (C : St.Calm S m N f) (i : Nat) (hi : i < m) (hN : N < 1099511627776) (A : Option Addr) (d : List UInt8) (n c : Nat) (hn : d.length = n) (h32 : n = 32) (ht : TabAt w) (ho : S.ops ≤ 900000) (hr : Aside H w A d) (keeps : List Bool) (tear : Int) :
    Calls Tryd.prog 11 #[.pointer (some ⟨g, 0, none⟩), .int .i64 (i : Int), .slice A n c] w fun e w' => ∃ H' S' s' x, e = .returned (.int .i64 x) ∧ Duo At SAt w' b g H' S' s' ∧ S'.ops ≤ S.ops + 4 ∧ Keep H w H' w' ∧ (x = 0 ∨ x = 10) ∧ (k = 2 → x = 10) ∧
      ((x = 0 ∧ St.Good (S'.crash keeps tear) m (N + 1) (DS.upd f i d)) ∨ (x = 10 ∧ (St.Good (S'.crash keeps tear) m N f ∨ St.Good (S'.crash keeps tear) m (N + 1) (DS.upd f i d)))) := by
  subst hn
  have z := duo_put T h i A d c ht (show ({ S with left := some k } : DS).ops ≤ 900000 from ho) hr
  have o := St.ops_put { S with left := some k } ⟨0, m, N, false⟩ i d
  have k2 : k = 2 → (St.putD { S with left := some k } ⟨0, m, N, false⟩ i d).2 = 10 := fun e => by subst e; exact C.put_two hi h32 hN
  obtain ⟨S', e, e1, e2⟩ := C.put_good hi h32 hN k keeps tear
  rw [e1] at z o k2
  exact z.mono fun en w' ⟨H', z1, z2, z3⟩ => ⟨H', S', _, e, z1, z2, o, z3, e2.imp (fun x => x.1) fun x => x.1, k2, e2⟩
omit D T in
/-- bytes of one's own block beside a store -/
theorem aside_blk {w w' : World} {H : Nat → Prop} {g : Nat} {l : List UInt8} (hl : ∀ k, H k → k < w.heap.size) (hg : w.heap.size ≤ g) (h : BlkB w' g l) : Aside H w' (some ⟨g, 0, none⟩) l :=
  ⟨h.bytes l ⟨[], by simp⟩ h.lt, fun _ ad e => by cases e; exact ⟨h.lt, fun x => by have := hl _ x; simp at this; omega⟩⟩
end
end Go.Proofs.YtlchpolheciadaaDoor
