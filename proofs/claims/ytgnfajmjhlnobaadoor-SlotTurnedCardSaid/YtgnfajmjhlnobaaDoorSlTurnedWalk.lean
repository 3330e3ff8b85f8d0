/-
  The walk of SlotTurned. Conditions: the table of crc lies as the program's text lays it; the bytes can be read.
-/
import Derived.Test.YtgnfajmjhlnobaaDoorSlCalm
import Derived.Test.YtgnfajmjhlnobaaDoorKit
namespace Go.Proofs.YtgnfajmjhlnobaaDoor
open Go.RowKit Fix

/-- a sector with some bits of one byte turned -/
def turnB (l : List UInt8) (p : Nat) (m : UInt8) : List UInt8 := l.set p (l.getD p 0 ^^^ m)
theorem turnB_length (l : List UInt8) (p : Nat) (m : UInt8) : (turnB l p m).length = l.length := by simp [turnB]
theorem turnB_ne (l : List UInt8) (p : Nat) (m : UInt8) (hp : p < l.length) (hm : m ≠ 0) : turnB l p m ≠ l := by
  intro h
  have e : (turnB l p m)[p]? = l[p]? := by rw [h]
  unfold turnB at e
  rw [List.getElem?_set_self hp, List.getElem?_eq_getElem hp, List.getD_eq_getElem?_getD, List.getElem?_eq_getElem hp, Option.getD_some] at e
  have e := Option.some.inj e
  apply hm
  have : l[p] ^^^ (l[p] ^^^ m) = l[p] ^^^ l[p] := by rw [e]
  rwa [← UInt8.xor_assoc, UInt8.xor_self, UInt8.zero_xor] at this
namespace DS
theorem turn_quiet {S : DS} (h : S.Quiet) {i p : Nat} (hi : i < S.n) (hp : p < 64) (m : UInt8) : ∃ T, S.turn (i : Int) (p : Int) m = (T, 0) ∧ T.Quiet ∧ T.n = S.n ∧ T.ops = S.ops ∧ ∀ j, T.firm j = if j = i then turnB (S.firm i) p m else S.firm j := by
  have ht : S.there (i : Int) = true := by rw [S.there_iff]; omega
  have hc : S.there (i : Int) = true ∧ (0 : Int) ≤ (p : Int) ∧ (p : Int) < 64 := ⟨ht, by omega, by omega⟩
  unfold DS.turn
  rw [if_pos hc]
  exact ⟨_, rfl, ⟨h.out, h.left, h.loose⟩, rfl, rfl, fun j => rfl⟩
theorem fresh_quiet (n : Nat) : (DS.fresh n).Quiet := ⟨rfl, rfl, rfl⟩
end DS
namespace Slot
theorem top_left {t : List UInt8} (ht : right t = false) (n : Nat) (r : List UInt8) (h1 : 1 ≤ n) (h2 : n ≤ 1099511627776) (h : r.length ≤ 40) : topN (sect n r) t = n ∧ topB (sect n r) t = r := by
  obtain ⟨e1, e2, _⟩ := sect_read n r h1 h2 h
  have e3 : readN t = 0 := by simp [readN, ht]
  rw [topN_eq, topB_eq, e1, e2, e3, if_neg (by omega), if_neg (by omega)]
  exact ⟨rfl, rfl⟩
theorem top_right {t : List UInt8} (ht : right t = false) (n : Nat) (r : List UInt8) (h1 : 1 ≤ n) (h2 : n ≤ 1099511627776) (h : r.length ≤ 40) : topN t (sect n r) = n ∧ topB t (sect n r) = r := by
  obtain ⟨e1, e2, _⟩ := sect_read n r h1 h2 h
  have e3 : readN t = 0 := by simp [readN, ht]
  rw [topN_eq, topB_eq, e1, e2, e3, if_pos (by omega), if_pos (by omega)]
  exact ⟨rfl, rfl⟩
theorem top_none : topN nots nots = 0 := by decide
end Slot
section
variable {At : World → Nat → (Nat → Prop) → DS → Prop} (D : Disks Tryd.prog At)
include D
set_option maxRecDepth 100000 in
/-- is a turned sector right all the same -/
theorem forged_any (w : World) (b : Nat) (F : Nat → Prop) (S : DS) (i : Int) (A : Option Addr) (r : List UInt8) (m c : Nat) (hm : r.length = m) (n : Nat) (ht : TabAt w) (h : At w b F S) (hr : BytesAt w w.heap.size A r) (he : S.readE i = 0) (hne : S.readB i ≠ Slot.sect n r) :
    Calls Tryd.prog 27 #[.pointer (some ⟨b, 0, none⟩), .int .i64 i, .slice A m c, .int .i64 (n : Int)] w fun e w' => e = .returned (.bool (Slot.right (S.readB i))) ∧ Below w.heap.size w w' := by
  have z := D.read w b F S i h
  have hl := DS.readB_length (D.ok _ _ _ _ h) he
  obtain ⟨t, htt⟩ : ∃ t, t = S.readB i := ⟨_, rfl⟩
  rw [← htt] at z hl hne ⊢
  rw [he, hl] at z
  have zr := fun A c hc w t' h => slotRead_any A t 64 c hl hc w t' h
  unfold RdPost at zr
  have HL := Lib.hid hl
  clear he htt hl h
  cases hrt : Slot.right t with
  | false =>
    have e1 : Slot.readE t ≠ 0 := fun x => by rw [Slot.readE_zero, hrt] at x; cases x
    obtain ⟨re, hre⟩ : ∃ x, x = Slot.readE t := ⟨_, rfl⟩
    obtain ⟨rn, hrn⟩ : ∃ x, x = Slot.readN t := ⟨_, rfl⟩
    obtain ⟨rb, hrb⟩ : ∃ x, x = Slot.readB t := ⟨_, rfl⟩
    rw [← hre, ← hrn, ← hrb] at zr
    rw [← hre] at e1
    have hx : (re == 0) = false := by simpa using e1
    clear hre hrn hrb e1 hrt hne
    go_enter Tryd.func27, Tryd.ntmps27
    go_wp2_with (first
      | (go_at_call 49; refine z.mono ?_; (rintro e w1 ⟨A1, c1, rfl, o1, B1⟩; have r1 := o1.bytes; have hc1 := rdB_cap o1; rw [HL.out] at hc1; have t1 := ht.below B1 (Nat.le_refl _)))
      | (go_at_call 14; (with_reducible refine (zr A1 c1 hc1 w1 t1 r1).mono ?_); (rintro e w2 ⟨A2, c2, rfl, _, o2, B2⟩)))
    go_ret
    exact ⟨rfl, step_trans B1 B2⟩
  | true =>
    have e1 : Slot.readE t = 0 := (Slot.readE_zero t).2 hrt
    obtain ⟨_, _, _, e4⟩ := Slot.read_sect t e1
    rw [e1] at zr
    obtain ⟨rn, hrn⟩ : ∃ x, x = Slot.readN t := ⟨_, rfl⟩
    obtain ⟨rb, hrb⟩ : ∃ x, x = Slot.readB t := ⟨_, rfl⟩
    rw [← hrn, ← hrb] at zr
    rw [← hrn, ← hrb] at e4
    have HM := Lib.hid hm
    by_cases hn : rn = n
    · have hb : (rb == r) = false := by
        rw [← Bool.not_eq_true, beq_iff_eq]
        rintro rfl
        exact hne (by rw [← e4, hn])
      have hx : ((rn : Int) != (n : Int)) = false := by simp [hn]
      have zs := fun A1 c1 w1 h h' => sameBytes_any A1 rb rb.length c1 rfl A r m c HM.out w1.heap.size w1 h h'
      rw [hb] at zs
      obtain ⟨q, hq⟩ : ∃ q, q = rb.length := ⟨_, rfl⟩
      rw [← hq] at zs zr
      clear hrn hrb e4 e1 hrt hne hn hb hm hq
      go_enter Tryd.func27, Tryd.ntmps27
      go_wp2_with (first
        | (go_at_call 49; refine z.mono ?_; (rintro e w1 ⟨A1, c1, rfl, o1, B1⟩; have r1 := o1.bytes; have hc1 := rdB_cap o1; rw [HL.out] at hc1; have t1 := ht.below B1 (Nat.le_refl _); have x1 := hr.step B1))
        | (go_at_call 14; (with_reducible refine (zr A1 c1 hc1 w1 t1 r1).mono ?_); (rintro e w2 ⟨A2, c2, rfl, _, o2, B2⟩; have r2 := o2.bytes; have x2 := x1.step B2))
        | (go_at_call 16; (with_reducible refine (zs A2 c2 w2 r2 x2).mono ?_); (rintro e w3 ⟨rfl, rfl⟩)))
      go_ret
      exact ⟨rfl, step_trans B1 B2⟩
    · have hx : ((rn : Int) != (n : Int)) = true := by simp; omega
      obtain ⟨q, hq⟩ : ∃ q, q = rb.length := ⟨_, rfl⟩
      rw [← hq] at zr
      clear hrn hrb e4 e1 hrt hne hn hm hq
      go_enter Tryd.func27, Tryd.ntmps27
      go_wp2_with (first
        | (go_at_call 49; refine z.mono ?_; (rintro e w1 ⟨A1, c1, rfl, o1, B1⟩; have r1 := o1.bytes; have hc1 := rdB_cap o1; rw [HL.out] at hc1; have t1 := ht.below B1 (Nat.le_refl _)))
        | (go_at_call 14; (with_reducible refine (zr A1 c1 hc1 w1 t1 r1).mono ?_); (rintro e w2 ⟨A2, c2, rfl, _, o2, B2⟩)))
      go_ret
      exact ⟨rfl, step_trans B1 B2⟩
end
set_option maxRecDepth 100000 in
theorem turned_skip (A : Option Addr) (a : List UInt8) (c : Nat) (A' : Option Addr) (b : List UInt8) (c' : Nat) (n1 n2 : Int) (m : Int) (w : World) (ht : TabAt w) (h : 40 < a.length ∨ 40 < b.length ∨ m = 0) :
    Calls Tryd.prog 6 #[.slice A a.length c, .slice A' b.length c', .int .i64 n1, .int .i64 n2, .int .u8 m] w fun e w' => e = .returned (.bool true) ∧ Below w.heap.size w w' := by
  have zn := fun w : World => disks.new_yes 2 w (by decide) (by decide)
  rw [show ((2 : Nat) : Int) = 2 from rfl] at zn
  obtain ⟨p, hp⟩ : ∃ m, m = a.length := ⟨_, rfl⟩
  obtain ⟨q, hq⟩ : ∃ m, m = b.length := ⟨_, rfl⟩
  rw [← hp, ← hq] at h ⊢
  clear hp hq
  by_cases h1 : 40 < p
  · have i1 : (40 : Int) < (p : Int) := by omega
    clear h h1
    go_enter Tryd.func6, Tryd.ntmps6
    go_wp2_with (first
      | (go_at_call 19; refine (awake_any disks w ht).mono ?_; (rintro e w1 ⟨rfl, B1⟩))
      | (go_at_call 22; refine (zn w1).mono ?_; (rintro e w2 ⟨b, F, rfl, _, _, B2⟩)))
    go_ret
    exact ⟨rfl, step_trans B1 B2⟩
  · have i1 : ¬ (40 : Int) < (p : Int) := by omega
    by_cases h2 : 40 < q
    · have i2 : (40 : Int) < (q : Int) := by omega
      clear h h1 h2
      go_enter Tryd.func6, Tryd.ntmps6
      go_wp2_with (first
        | (go_at_call 19; refine (awake_any disks w ht).mono ?_; (rintro e w1 ⟨rfl, B1⟩))
        | (go_at_call 22; refine (zn w1).mono ?_; (rintro e w2 ⟨b, F, rfl, _, _, B2⟩)))
      go_ret
      exact ⟨rfl, step_trans B1 B2⟩
    · have i2 : ¬ (40 : Int) < (q : Int) := by omega
      obtain rfl : m = 0 := (h.resolve_left h1).resolve_left h2
      clear h h1 h2
      go_enter Tryd.func6, Tryd.ntmps6
      go_wp2_with (first
        | (go_at_call 19; refine (awake_any disks w ht).mono ?_; (rintro e w1 ⟨rfl, B1⟩))
        | (go_at_call 22; refine (zn w1).mono ?_; (rintro e w2 ⟨b, F, rfl, _, _, B2⟩)))
      go_ret
      exact ⟨rfl, step_trans B1 B2⟩
set_option maxRecDepth 100000 in
set_option maxHeartbeats 1000000 in
theorem turned_first (A : Option Addr) (p c : Nat) (A' : Option Addr) (q c' : Nat) (a b : List UInt8) (n1 n2 k r m : Int) (hk : n1 % 2 = k) (hr2 : n2 % 64 = r) (hn1 : -9223372036854775808 ≤ n1) (hn1' : n1 ≤ 9223372036854775807) (hn2 : -9223372036854775808 ≤ n2) (hn2' : n2 ≤ 9223372036854775807) (hm : (m == 0) = false) (i1 : ¬ (40 : Int) < (p : Int)) (i2 : ¬ (40 : Int) < (q : Int))
    (w : World) (ht : TabAt w) (ha : BytesAt w w.heap.size A a) (hb : BytesAt w w.heap.size A' b) (T0 T1 T2 : DS) (hT0 : T0 = DS.fresh 2)
    (z1 : ∀ w g F, TabAt w → DiskAt w g F T0 → BytesAt w w.heap.size A a → Calls Tryd.prog 21 #[.pointer (some ⟨g, 0, none⟩), .int .i64 0, .slice A p c] w (ChgPost DiskAt g F (T1, 0) w))
    (z2 : ∀ w g F, DiskAt w g F T1 → Calls Tryd.prog 26 #[.pointer (some ⟨g, 0, none⟩), .int .i64 k, .int .i64 r, .int .u8 m] w (ChgPost DiskAt g F (T2, 0) w))
    (z3 : ∀ w g F, TabAt w → DiskAt w g F T2 → BytesAt w w.heap.size A a → Calls Tryd.prog 27 #[.pointer (some ⟨g, 0, none⟩), .int .i64 k, .slice A p c, .int .i64 1] w fun e w' => e = .returned (.bool true) ∧ Below w.heap.size w w') :
    Calls Tryd.prog 6 #[.slice A p c, .slice A' q c', .int .i64 n1, .int .i64 n2, .int .u8 m] w fun e w' => e = .returned (.bool true) ∧ Below w.heap.size w w' := by
  have zn := fun w : World => disks.new_yes 2 w (by decide) (by decide)
  rw [show ((2 : Nat) : Int) = 2 from rfl, ← hT0] at zn
  have zp1 := fun w : World => pick_any n1 2 w hn1 hn1' (by decide) (by decide)
  have zp2 := fun w : World => pick_any n2 64 w hn2 hn2' (by decide) (by decide)
  rw [hk] at zp1
  rw [hr2] at zp2
  unfold ChgPost at z1 z2
  clear hk hr2 hT0
  go_enter Tryd.func6, Tryd.ntmps6
  go_wp2_with (first
    | (go_at_call 19; refine (awake_any disks w ht).mono ?_; (rintro e w1 ⟨rfl, B1⟩; have t1 := ht.below B1 (Nat.le_refl _); have a1 := ha.step B1; have b1 := hb.step B1))
    | (go_at_call 22; refine (zn w1).mono ?_; (rintro e w2 ⟨g, F, rfl, h2, hF, B2⟩; have C2 := step_trans B1 B2; have t2 := ht.below C2 (Nat.le_refl _); have a2 := a1.step B2; have b2 := b1.step B2; have G2 : ∀ k, F k → w.heap.size ≤ k := (fun k hk => Nat.le_trans B1.size (hF k hk)); have HA := Lib.hid ha))
    | (go_at_call 25; first
      | ((with_reducible refine (zp1 w2).mono ?_); (rintro e w3 ⟨rfl, rfl⟩))
      | ((with_reducible refine (zp2 _).mono ?_); (rintro e w3 ⟨rfl, rfl⟩)))
    | (go_at_call 21; first
      | ((with_reducible refine (z1 _ g F t2 h2 a2).mono ?_); (rintro e w4 ⟨F4, rfl, h4, hF4, fr4⟩; obtain ⟨C4, G4⟩ := chg_go C2 G2 hF4 fr4)))
    | (go_at_call 26; first
      | ((with_reducible refine (z2 w4 g F4 h4).mono ?_); (rintro e w5 ⟨F5, rfl, h5, hF5, fr5⟩; obtain ⟨C5, G5⟩ := chg_go C4 G4 hF5 fr5; have t5 := ht.below C5 (Nat.le_refl _); have a5 := ha.step C5; have b5 := hb.step C5)))
    | (go_at_call 27; first
      | ((with_reducible refine (z3 w5 g F5 t5 h5 a5).mono ?_); (rintro e w6 ⟨rfl, B6⟩; have C6 := step_trans C5 B6))))
  go_ret
  exact ⟨rfl, C6⟩
set_option maxRecDepth 100000 in
set_option maxHeartbeats 1000000 in
theorem turned_second (A : Option Addr) (p c : Nat) (A' : Option Addr) (q c' : Nat) (a b : List UInt8) (n1 n2 k r m : Int) (hk : n1 % 2 = k) (hr2 : n2 % 64 = r) (hn1 : -9223372036854775808 ≤ n1) (hn1' : n1 ≤ 9223372036854775807) (hn2 : -9223372036854775808 ≤ n2) (hn2' : n2 ≤ 9223372036854775807) (hm : (m == 0) = false) (i1 : ¬ (40 : Int) < (p : Int)) (i2 : ¬ (40 : Int) < (q : Int))
    (w : World) (ht : TabAt w) (ha : BytesAt w w.heap.size A a) (hb : BytesAt w w.heap.size A' b) (T0 T1 T2 T3 T4 : DS) (w78 : IntKind.i64.wrap (1 - k) = 1 - k) (hT0 : T0 = DS.fresh 2)
    (z1 : ∀ w g F, TabAt w → DiskAt w g F T0 → BytesAt w w.heap.size A a → Calls Tryd.prog 21 #[.pointer (some ⟨g, 0, none⟩), .int .i64 0, .slice A p c] w (ChgPost DiskAt g F (T1, 0) w))
    (z2 : ∀ w g F, DiskAt w g F T1 → Calls Tryd.prog 26 #[.pointer (some ⟨g, 0, none⟩), .int .i64 k, .int .i64 r, .int .u8 m] w (ChgPost DiskAt g F (T2, 0) w))
    (z3 : ∀ w g F, TabAt w → DiskAt w g F T2 → BytesAt w w.heap.size A a → Calls Tryd.prog 27 #[.pointer (some ⟨g, 0, none⟩), .int .i64 k, .slice A p c, .int .i64 1] w fun e w' => e = .returned (.bool false) ∧ Below w.heap.size w w')
    (z4 : ∀ w g F, TabAt w → DiskAt w g F T2 → BytesAt w w.heap.size A a → Calls Tryd.prog 28 #[.pointer (some ⟨g, 0, none⟩), .slice A p c] w fun e w' => e = .returned (.bool true) ∧ Below w.heap.size w w')
    (z5 : ∀ w g F, TabAt w → DiskAt w g F T2 → BytesAt w w.heap.size A' b → Calls Tryd.prog 21 #[.pointer (some ⟨g, 0, none⟩), .int .i64 0, .slice A' q c'] w (ChgPost DiskAt g F (T3, 0) w))
    (z6 : ∀ w g F, TabAt w → DiskAt w g F T3 → BytesAt w w.heap.size A' b → Calls Tryd.prog 28 #[.pointer (some ⟨g, 0, none⟩), .slice A' q c'] w fun e w' => e = .returned (.bool true) ∧ Below w.heap.size w w')
    (z7 : ∀ w g F, DiskAt w g F T3 → Calls Tryd.prog 26 #[.pointer (some ⟨g, 0, none⟩), .int .i64 (1 - k), .int .i64 r, .int .u8 m] w (ChgPost DiskAt g F (T4, 0) w))
    (z8 : ∀ w g F, TabAt w → DiskAt w g F T4 → BytesAt w w.heap.size A' b → Calls Tryd.prog 27 #[.pointer (some ⟨g, 0, none⟩), .int .i64 (1 - k), .slice A' q c', .int .i64 2] w fun e w' => e = .returned (.bool true) ∧ Below w.heap.size w w') :
    Calls Tryd.prog 6 #[.slice A p c, .slice A' q c', .int .i64 n1, .int .i64 n2, .int .u8 m] w fun e w' => e = .returned (.bool true) ∧ Below w.heap.size w w' := by
  have zn := fun w : World => disks.new_yes 2 w (by decide) (by decide)
  rw [show ((2 : Nat) : Int) = 2 from rfl, ← hT0] at zn
  have zp1 := fun w : World => pick_any n1 2 w hn1 hn1' (by decide) (by decide)
  have zp2 := fun w : World => pick_any n2 64 w hn2 hn2' (by decide) (by decide)
  rw [hk] at zp1
  rw [hr2] at zp2
  unfold ChgPost at z1 z2 z5 z7
  clear hk hr2 hT0
  go_enter Tryd.func6, Tryd.ntmps6
  go_wp2_with (first
    | (go_at_call 19; refine (awake_any disks w ht).mono ?_; (rintro e w1 ⟨rfl, B1⟩; have t1 := ht.below B1 (Nat.le_refl _); have a1 := ha.step B1; have b1 := hb.step B1))
    | (go_at_call 22; refine (zn w1).mono ?_; (rintro e w2 ⟨g, F, rfl, h2, hF, B2⟩; have C2 := step_trans B1 B2; have t2 := ht.below C2 (Nat.le_refl _); have a2 := a1.step B2; have b2 := b1.step B2; have G2 : ∀ k, F k → w.heap.size ≤ k := (fun k hk => Nat.le_trans B1.size (hF k hk)); have HA := Lib.hid ha))
    | (go_at_call 25; first
      | ((with_reducible refine (zp1 w2).mono ?_); (rintro e w3 ⟨rfl, rfl⟩))
      | ((with_reducible refine (zp2 _).mono ?_); (rintro e w3 ⟨rfl, rfl⟩)))
    | (go_at_call 21; first
      | ((with_reducible refine (z1 _ g F t2 h2 a2).mono ?_); (rintro e w4 ⟨F4, rfl, h4, hF4, fr4⟩; obtain ⟨C4, G4⟩ := chg_go C2 G2 hF4 fr4))
      | ((with_reducible refine (z5 w7 g F5 t7 h7 b7).mono ?_); (rintro e w8 ⟨F8, rfl, h8, hF8, fr8⟩; obtain ⟨C8, G8⟩ := chg_go C7 G5 hF8 fr8; have t8 := ht.below C8 (Nat.le_refl _); have b8 := hb.step C8)))
    | (go_at_call 26; first
      | ((with_reducible refine (z2 w4 g F4 h4).mono ?_); (rintro e w5 ⟨F5, rfl, h5, hF5, fr5⟩; obtain ⟨C5, G5⟩ := chg_go C4 G4 hF5 fr5; have t5 := ht.below C5 (Nat.le_refl _); have a5 := ha.step C5; have b5 := hb.step C5))
      | ((with_reducible refine (z7 w9 g F8 h9).mono ?_); (rintro e w10 ⟨F10, rfl, h10, hF10, fr10⟩; obtain ⟨C10, G10⟩ := chg_go C9 G8 hF10 fr10; have t10 := ht.below C10 (Nat.le_refl _); have b10 := hb.step C10)))
    | (go_at_call 27; first
      | ((with_reducible refine (z3 w5 g F5 t5 h5 a5).mono ?_); (rintro e w6 ⟨rfl, B6⟩; have C6 := step_trans C5 B6; have h6 := At_step disks h5 B6; have t6 := ht.below C6 (Nat.le_refl _); have a6 := ha.step C6; have b6 := hb.step C6))
      | ((with_reducible refine (z8 w10 g F10 t10 h10 b10).mono ?_); (rintro e w11 ⟨rfl, B11⟩; have C11 := step_trans C10 B11; have h11 := At_step disks h10 B11; have t11 := ht.below C11 (Nat.le_refl _); have b11 := hb.step C11)))
    | (go_at_call 28; first
      | ((with_reducible refine (z4 w6 g F5 t6 h6 a6).mono ?_); (rintro e w7 ⟨rfl, B7⟩; have C7 := step_trans C6 B7; have h7 := At_step disks h6 B7; have t7 := ht.below C7 (Nat.le_refl _); have b7 := hb.step C7))
      | ((with_reducible refine (z6 w8 g F8 t8 h8 b8).mono ?_); (rintro e w9 ⟨rfl, B9⟩; have C9 := step_trans C8 B9; have h9 := At_step disks h8 B9))))
  go_ret
  exact ⟨rfl, C11⟩
set_option maxRecDepth 100000 in
set_option maxHeartbeats 1000000 in
theorem turned_third (A : Option Addr) (p c : Nat) (A' : Option Addr) (q c' : Nat) (a b : List UInt8) (n1 n2 k r m : Int) (hk : n1 % 2 = k) (hr2 : n2 % 64 = r) (hn1 : -9223372036854775808 ≤ n1) (hn1' : n1 ≤ 9223372036854775807) (hn2 : -9223372036854775808 ≤ n2) (hn2' : n2 ≤ 9223372036854775807) (hm : (m == 0) = false) (i1 : ¬ (40 : Int) < (p : Int)) (i2 : ¬ (40 : Int) < (q : Int))
    (w : World) (ht : TabAt w) (ha : BytesAt w w.heap.size A a) (hb : BytesAt w w.heap.size A' b) (T0 T1 T2 T3 T4 : DS) (w78 : IntKind.i64.wrap (1 - k) = 1 - k) (hT0 : T0 = DS.fresh 2)
    (z1 : ∀ w g F, TabAt w → DiskAt w g F T0 → BytesAt w w.heap.size A a → Calls Tryd.prog 21 #[.pointer (some ⟨g, 0, none⟩), .int .i64 0, .slice A p c] w (ChgPost DiskAt g F (T1, 0) w))
    (z2 : ∀ w g F, DiskAt w g F T1 → Calls Tryd.prog 26 #[.pointer (some ⟨g, 0, none⟩), .int .i64 k, .int .i64 r, .int .u8 m] w (ChgPost DiskAt g F (T2, 0) w))
    (z3 : ∀ w g F, TabAt w → DiskAt w g F T2 → BytesAt w w.heap.size A a → Calls Tryd.prog 27 #[.pointer (some ⟨g, 0, none⟩), .int .i64 k, .slice A p c, .int .i64 1] w fun e w' => e = .returned (.bool false) ∧ Below w.heap.size w w')
    (z4 : ∀ w g F, TabAt w → DiskAt w g F T2 → BytesAt w w.heap.size A a → Calls Tryd.prog 28 #[.pointer (some ⟨g, 0, none⟩), .slice A p c] w fun e w' => e = .returned (.bool true) ∧ Below w.heap.size w w')
    (z5 : ∀ w g F, TabAt w → DiskAt w g F T2 → BytesAt w w.heap.size A' b → Calls Tryd.prog 21 #[.pointer (some ⟨g, 0, none⟩), .int .i64 0, .slice A' q c'] w (ChgPost DiskAt g F (T3, 0) w))
    (z6 : ∀ w g F, TabAt w → DiskAt w g F T3 → BytesAt w w.heap.size A' b → Calls Tryd.prog 28 #[.pointer (some ⟨g, 0, none⟩), .slice A' q c'] w fun e w' => e = .returned (.bool true) ∧ Below w.heap.size w w')
    (z7 : ∀ w g F, DiskAt w g F T3 → Calls Tryd.prog 26 #[.pointer (some ⟨g, 0, none⟩), .int .i64 (1 - k), .int .i64 r, .int .u8 m] w (ChgPost DiskAt g F (T4, 0) w))
    (z8 : ∀ w g F, TabAt w → DiskAt w g F T4 → BytesAt w w.heap.size A' b → Calls Tryd.prog 27 #[.pointer (some ⟨g, 0, none⟩), .int .i64 (1 - k), .slice A' q c', .int .i64 2] w fun e w' => e = .returned (.bool false) ∧ Below w.heap.size w w')
    (z9 : ∀ w g F, TabAt w → DiskAt w g F T4 → BytesAt w w.heap.size A' b → Calls Tryd.prog 28 #[.pointer (some ⟨g, 0, none⟩), .slice A' q c'] w fun e w' => e = .returned (.bool true) ∧ Below w.heap.size w w') :
    Calls Tryd.prog 6 #[.slice A p c, .slice A' q c', .int .i64 n1, .int .i64 n2, .int .u8 m] w fun e w' => e = .returned (.bool true) ∧ Below w.heap.size w w' := by
  have zn := fun w : World => disks.new_yes 2 w (by decide) (by decide)
  rw [show ((2 : Nat) : Int) = 2 from rfl, ← hT0] at zn
  have zp1 := fun w : World => pick_any n1 2 w hn1 hn1' (by decide) (by decide)
  have zp2 := fun w : World => pick_any n2 64 w hn2 hn2' (by decide) (by decide)
  rw [hk] at zp1
  rw [hr2] at zp2
  unfold ChgPost at z1 z2 z5 z7
  clear hk hr2 hT0
  go_enter Tryd.func6, Tryd.ntmps6
  go_wp2_with (first
    | (go_at_call 19; refine (awake_any disks w ht).mono ?_; (rintro e w1 ⟨rfl, B1⟩; have t1 := ht.below B1 (Nat.le_refl _); have a1 := ha.step B1; have b1 := hb.step B1))
    | (go_at_call 22; refine (zn w1).mono ?_; (rintro e w2 ⟨g, F, rfl, h2, hF, B2⟩; have C2 := step_trans B1 B2; have t2 := ht.below C2 (Nat.le_refl _); have a2 := a1.step B2; have b2 := b1.step B2; have G2 : ∀ k, F k → w.heap.size ≤ k := (fun k hk => Nat.le_trans B1.size (hF k hk)); have HA := Lib.hid ha))
    | (go_at_call 25; first
      | ((with_reducible refine (zp1 w2).mono ?_); (rintro e w3 ⟨rfl, rfl⟩))
      | ((with_reducible refine (zp2 _).mono ?_); (rintro e w3 ⟨rfl, rfl⟩)))
    | (go_at_call 21; first
      | ((with_reducible refine (z1 _ g F t2 h2 a2).mono ?_); (rintro e w4 ⟨F4, rfl, h4, hF4, fr4⟩; obtain ⟨C4, G4⟩ := chg_go C2 G2 hF4 fr4))
      | ((with_reducible refine (z5 w7 g F5 t7 h7 b7).mono ?_); (rintro e w8 ⟨F8, rfl, h8, hF8, fr8⟩; obtain ⟨C8, G8⟩ := chg_go C7 G5 hF8 fr8; have t8 := ht.below C8 (Nat.le_refl _); have b8 := hb.step C8)))
    | (go_at_call 26; first
      | ((with_reducible refine (z2 w4 g F4 h4).mono ?_); (rintro e w5 ⟨F5, rfl, h5, hF5, fr5⟩; obtain ⟨C5, G5⟩ := chg_go C4 G4 hF5 fr5; have t5 := ht.below C5 (Nat.le_refl _); have a5 := ha.step C5; have b5 := hb.step C5))
      | ((with_reducible refine (z7 w9 g F8 h9).mono ?_); (rintro e w10 ⟨F10, rfl, h10, hF10, fr10⟩; obtain ⟨C10, G10⟩ := chg_go C9 G8 hF10 fr10; have t10 := ht.below C10 (Nat.le_refl _); have b10 := hb.step C10)))
    | (go_at_call 27; first
      | ((with_reducible refine (z3 w5 g F5 t5 h5 a5).mono ?_); (rintro e w6 ⟨rfl, B6⟩; have C6 := step_trans C5 B6; have h6 := At_step disks h5 B6; have t6 := ht.below C6 (Nat.le_refl _); have a6 := ha.step C6; have b6 := hb.step C6))
      | ((with_reducible refine (z8 w10 g F10 t10 h10 b10).mono ?_); (rintro e w11 ⟨rfl, B11⟩; have C11 := step_trans C10 B11; have h11 := At_step disks h10 B11; have t11 := ht.below C11 (Nat.le_refl _); have b11 := hb.step C11)))
    | (go_at_call 28; first
      | ((with_reducible refine (z4 w6 g F5 t6 h6 a6).mono ?_); (rintro e w7 ⟨rfl, B7⟩; have C7 := step_trans C6 B7; have h7 := At_step disks h6 B7; have t7 := ht.below C7 (Nat.le_refl _); have b7 := hb.step C7))
      | ((with_reducible refine (z6 w8 g F8 t8 h8 b8).mono ?_); (rintro e w9 ⟨rfl, B9⟩; have C9 := step_trans C8 B9; have h9 := At_step disks h8 B9))
      | ((with_reducible refine (z9 w11 g F10 t11 h11 b11).mono ?_); (rintro e w12 ⟨rfl, B12⟩; have C12 := step_trans C11 B12))))
  go_ret
  exact ⟨rfl, C12⟩
theorem turned_any (A : Option Addr) (a : List UInt8) (c : Nat) (A' : Option Addr) (b : List UInt8) (c' : Nat) (n1 n2 m : Int) (hn1 : -9223372036854775808 ≤ n1) (hn1' : n1 ≤ 9223372036854775807) (hn2 : -9223372036854775808 ≤ n2) (hn2' : n2 ≤ 9223372036854775807) (hm0 : 0 ≤ m) (hm1 : m ≤ 255)
    (w : World) (ht : TabAt w) (ha : BytesAt w w.heap.size A a) (hb : BytesAt w w.heap.size A' b) :
    Calls Tryd.prog 6 #[.slice A a.length c, .slice A' b.length c', .int .i64 n1, .int .i64 n2, .int .u8 m] w fun e w' => e = .returned (.bool true) ∧ Below w.heap.size w w' := by
  by_cases hs : 40 < a.length ∨ 40 < b.length ∨ m = 0
  · exact turned_skip A a c A' b c' n1 n2 m w ht hs
  have la : a.length ≤ 40 := by omega
  have lb : b.length ≤ 40 := by omega
  have hm : (m == 0) = false := by simp; omega
  obtain ⟨u, hu⟩ : ∃ u : UInt8, (u.toNat : Int) = m := ⟨UInt8.ofNat m.toNat, by rw [UInt8.toNat_ofNat_of_lt' (show m.toNat < 256 by omega)]; omega⟩
  have hu0 : u ≠ 0 := by rintro rfl; apply hs; right; right; rw [← hu]; rfl
  obtain ⟨k, hk⟩ : ∃ k : Nat, n1 % 2 = (k : Int) := ⟨(n1 % 2).toNat, by omega⟩
  obtain ⟨r, hr⟩ : ∃ r : Nat, n2 % 64 = (r : Int) := ⟨(n2 % 64).toNat, by omega⟩
  have hk2 : k < 2 := by omega
  have hr2 : r < 64 := by omega
  have w78 : IntKind.i64.wrap (1 - (k : Int)) = 1 - (k : Int) := IntWalk.i64_in _ (by omega)
  have i1 : ¬ (40 : Int) < (a.length : Int) := by omega
  have i2 : ¬ (40 : Int) < (b.length : Int) := by omega
  have q0 : (DS.fresh 2).Quiet := DS.fresh_quiet 2
  obtain ⟨T1, s1, q1, c1, o1, f1⟩ := Slot.save_quiet q0 (i := 0) (by decide) a la (by show Slot.topN Slot.nots Slot.nots < _; rw [Slot.top_none]; decide)
  rw [show Slot.topN ((DS.fresh 2).firm 0) ((DS.fresh 2).firm (0 + 1)) = 0 from Slot.top_none] at f1
  have c1' : T1.n = 2 := c1
  obtain ⟨T2, s2, q2, c2, o2, f2⟩ := DS.turn_quiet q1 (i := k) (by omega) hr2 u
  have o1' : T1.ops = 4 := o1
  have fk : T1.firm k = Slot.sect 1 a := by rw [f1]; exact if_pos (by omega)
  have sl1 := Slot.sect_length 1 a la
  have sl2 := Slot.sect_length 2 b lb
  have ne2 : T2.firm k ≠ Slot.sect 1 a := by
    rw [f2, if_pos rfl, fk]
    exact turnB_ne _ r u (by omega) hu0
  have fo : ∀ j, j < 2 → j ≠ k → T2.firm j = Slot.sect 1 a := fun j hj hjk => by
    rw [f2, if_neg hjk, f1]
    exact if_pos (by omega)
  have rb2 := q2.readB (i := k) (by omega)
  have re2 := q2.readE (i := k) (by omega)
  have z1 : ∀ w g F, TabAt w → DiskAt w g F (DS.fresh 2) → BytesAt w w.heap.size A a → Calls Tryd.prog 21 #[.pointer (some ⟨g, 0, none⟩), .int .i64 0, .slice A a.length c] w (ChgPost DiskAt g F (T1, 0) w) := fun w g F t h hr => by
    have := save_any disks w g F (DS.fresh 2) 0 A a a.length c rfl t h hr (by decide)
    rwa [show Slot.save (DS.fresh 2) 0 a = (T1, 0) from s1] at this
  have z2 : ∀ w g F, DiskAt w g F T1 → Calls Tryd.prog 26 #[.pointer (some ⟨g, 0, none⟩), .int .i64 (k : Int), .int .i64 (r : Int), .int .u8 m] w (ChgPost DiskAt g F (T2, 0) w) := fun w g F h => by
    have := disks.turn w g F T1 (k : Int) (r : Int) u h
    rw [s2, hu] at this
    exact this
  have z3 := fun w g F t h hr => forged_any disks w g F T2 (k : Int) A a a.length c rfl 1 t h hr re2 (by rw [rb2]; exact ne2)
  rw [rb2] at z3
  cases hx : Slot.right (T2.firm k) with
  | true =>
    rw [hx] at z3
    exact turned_first A a.length c A' b.length c' a b n1 n2 k r m hk hr hn1 hn1' hn2 hn2' hm i1 i2 w ht ha hb (DS.fresh 2) T1 T2 rfl z1 z2 z3
  | false =>
    rw [hx] at z3
    have top2 : Slot.topN (T2.firm 0) (T2.firm (0 + 1)) = 1 ∧ Slot.topB (T2.firm 0) (T2.firm (0 + 1)) = a := by
      rcases (show k = 0 ∨ k = 1 by omega) with rfl | rfl
      · rw [fo (0 + 1) (by omega) (by omega)]
        exact Slot.top_right hx 1 a (by decide) (by decide) la
      · rw [fo 0 (by omega) (by omega)]
        exact Slot.top_left hx 1 a (by decide) (by decide) la
    obtain ⟨l2, b2⟩ := Slot.load_quiet q2 (i := 0) (by omega) (by rw [top2.1]; decide)
    have z4 := fun w g F t h hr => loads_any disks w g F T2 A a a.length c rfl t h hr true (by rw [show ((0 : Nat) : Int) = 0 from rfl] at l2 b2; rw [l2, b2, top2.2]; simp)
    obtain ⟨T3, s3, q3, c3, o3, f3⟩ := Slot.save_quiet q2 (i := 0) (by omega) b lb (by rw [top2.1]; decide)
    rw [top2.1] at f3
    have z5 : ∀ w g F, TabAt w → DiskAt w g F T2 → BytesAt w w.heap.size A' b → Calls Tryd.prog 21 #[.pointer (some ⟨g, 0, none⟩), .int .i64 0, .slice A' b.length c'] w (ChgPost DiskAt g F (T3, 0) w) := fun w g F t h hr => by
      have := save_any disks w g F T2 0 A' b b.length c' rfl t h hr (by omega)
      rwa [show Slot.save T2 0 b = (T3, 0) from s3] at this
    have g3 : ∀ j, j < 2 → T3.firm j = Slot.sect 2 b := fun j hj => by rw [f3]; exact if_pos (by omega)
    have top3 := Slot.topN_same 2 b (by decide) (by decide) lb
    obtain ⟨l3, b3⟩ := Slot.load_quiet q3 (i := 0) (by omega) (by rw [g3 0 (by omega), g3 (0 + 1) (by omega), top3.1]; decide)
    rw [g3 0 (by omega), g3 (0 + 1) (by omega), top3.2] at b3
    have z6 := fun w g F t h hr => loads_any disks w g F T3 A' b b.length c' rfl t h hr true (by rw [show ((0 : Nat) : Int) = 0 from rfl] at l3 b3; rw [l3, b3]; simp)
    obtain ⟨T4, s4, q4, c4, o4, f4⟩ := DS.turn_quiet q3 (i := 1 - k) (by omega) hr2 u
    have e1k : ((1 - k : Nat) : Int) = 1 - (k : Int) := by omega
    have z7 : ∀ w g F, DiskAt w g F T3 → Calls Tryd.prog 26 #[.pointer (some ⟨g, 0, none⟩), .int .i64 (1 - (k : Int)), .int .i64 (r : Int), .int .u8 m] w (ChgPost DiskAt g F (T4, 0) w) := fun w g F h => by
      have := disks.turn w g F T3 ((1 - k : Nat) : Int) (r : Int) u h
      rw [s4, hu, e1k] at this
      exact this
    have ne4 : T4.firm (1 - k) ≠ Slot.sect 2 b := by
      rw [f4, if_pos rfl, g3 (1 - k) (by omega)]
      exact turnB_ne _ r u (by omega) hu0
    have rb4 := q4.readB (i := 1 - k) (by omega)
    have re4 := q4.readE (i := 1 - k) (by omega)
    have z8 := fun w g F t h hr => forged_any disks w g F T4 ((1 - k : Nat) : Int) A' b b.length c' rfl 2 t h hr re4 (by rw [rb4]; exact ne4)
    rw [rb4, e1k] at z8
    have go4 : ∀ j, j < 2 → j ≠ 1 - k → T4.firm j = Slot.sect 2 b := fun j hj hjk => by rw [f4, if_neg hjk]; exact g3 j hj
    cases hy : Slot.right (T4.firm (1 - k)) with
    | true =>
      rw [hy] at z8
      exact turned_second A a.length c A' b.length c' a b n1 n2 k r m hk hr hn1 hn1' hn2 hn2' hm i1 i2 w ht ha hb (DS.fresh 2) T1 T2 T3 T4 w78 rfl z1 z2 z3 z4 z5 z6 z7 z8
    | false =>
      rw [hy] at z8
      have top4 : Slot.topN (T4.firm 0) (T4.firm (0 + 1)) = 2 ∧ Slot.topB (T4.firm 0) (T4.firm (0 + 1)) = b := by
        rcases (show k = 0 ∨ k = 1 by omega) with rfl | rfl
        · rw [go4 0 (by omega) (by omega)]
          exact Slot.top_left hy 2 b (by decide) (by decide) lb
        · rw [go4 (0 + 1) (by omega) (by omega)]
          exact Slot.top_right hy 2 b (by decide) (by decide) lb
      obtain ⟨l4, b4⟩ := Slot.load_quiet q4 (i := 0) (by omega) (by rw [top4.1]; decide)
      have z9 := fun w g F t h hr => loads_any disks w g F T4 A' b b.length c' rfl t h hr true (by rw [show ((0 : Nat) : Int) = 0 from rfl] at l4 b4; rw [l4, b4, top4.2]; simp)
      exact turned_third A a.length c A' b.length c' a b n1 n2 k r m hk hr hn1 hn1' hn2 hn2' hm i1 i2 w ht ha hb (DS.fresh 2) T1 T2 T3 T4 w78 rfl z1 z2 z3 z4 z5 z6 z7 z8 z9
end Go.Proofs.YtgnfajmjhlnobaaDoor
