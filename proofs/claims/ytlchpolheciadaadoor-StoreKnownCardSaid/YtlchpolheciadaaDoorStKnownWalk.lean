/-
  The walk of StoreKnown. Conditions: a disk's methods and a store's do what the document says; the table of crc lies as the program's text lays it.
-/
import Derived.Test.YtlchpolheciadaaDoorStAwake
import Derived.Test.YtlchpolheciadaaDoorStTurnM
import Derived.Test.YtlchpolheciadaaDoorKitIntsS
import Derived.Test.YtlchpolheciadaaDoorStAnew
namespace Go.Proofs.YtlchpolheciadaaDoor
open Go.RowKit Fix

namespace St
theorem known_turn {S : DS} {N : Nat} {f : Nat → List UInt8} (g : Even S 3 N f) (he : S.firm 0 = Jn.sect 2 N (f 2)) :
    ∃ T M, S.turn 2 20 1 = (T, 0) ∧ Worn T 3 N f ∧ openE T 0 3 = 0 ∧ openS T 0 3 = T ∧ bads T 0 3 = [1] ∧ opened T 0 3 = ⟨0, 3, M, false⟩ ∧ M ≤ N ∧ Blk.right (1 : Nat) (T.firm 2) = false ∧ T.ops = S.ops := by
  have hsn := g.c.sn
  have hN := g.c.N40
  have ht : S.there 2 = true := by rw [S.there_iff, hsn]; omega
  obtain ⟨T, hT⟩ : ∃ T : DS, T = { S with firm := DS.upd S.firm 2 ((S.firm 2).set 20 ((S.firm 2).getD 20 0 ^^^ 1)) } := ⟨_, rfl⟩
  have hturn : S.turn 2 20 1 = (T, 0) := by
    unfold DS.turn
    rw [if_pos ⟨ht, by decide, by decide⟩, hT]
    rfl
  have h2 : T.firm 2 = (S.firm 2).set 20 ((S.firm 2).getD 20 0 ^^^ 1) := by rw [hT]; simp [DS.upd]
  have ho : ∀ j, j ≠ 2 → T.firm j = S.firm j := fun j hj => by rw [hT]; simp [DS.upd, hj]
  have hq : T.Quiet := by rw [hT]; exact ⟨g.c.q.out, g.c.q.left, g.c.q.loose⟩
  have hlen : ∀ i, i ≤ 3 → (S.firm i).length = 64 := by
    intro i hi
    rcases Nat.eq_zero_or_pos i with e | e
    · rw [e]; exact g.c.jl
    · obtain ⟨k, _, _, h3⟩ := g.c.blk (i - 1) (by omega)
      rw [show i - 1 + 1 = i by omega] at h3
      rw [h3]
      exact Blk.sect_length _ k _ (g.c.dl _ (by omega))
  have hr1 : Blk.right (1 : Nat) (S.firm 2) = true := by
    obtain ⟨k, k1, k2, h3⟩ := g.c.blk 1 (by decide)
    rw [show (2 : Nat) = 1 + 1 from rfl, h3]
    exact Blk.sect_right 1 k (f 1) (blk_good (by decide) k1 (by omega) (g.c.dl 1 (by decide)))
  have hbad : Blk.right (1 : Nat) (T.firm 2) = false := by
    rw [h2]
    exact Blk.one_bad _ _ _ 20 1 hr1 (by decide) (by decide)
  have hw : Worn T 3 N f := g.worn hq (by rw [hT]) (fun i hi => by
      by_cases e : i = 2
      · rw [e, h2, List.length_set]; exact hlen 2 (by decide)
      · rw [ho i e]; exact hlen i hi) (.inl (ho 0 (by decide))) fun i hi => by
      by_cases e : i = 1
      · rw [e]; exact .inr hbad
      · exact .inl (ho (i + 1) (by omega))
  obtain ⟨M, o1, o2, _, o4⟩ := hw.open_
  have hgood : Jn.may ⟨(2 : Nat), (N : Nat), f 2⟩ = true := may_good (by decide) (by have := g.c.greatest.1; omega) hN (g.c.dl 2 (by decide))
  obtain ⟨r1, r2⟩ := Jn.read_sect 2 N (f 2) hgood
  have hjr : Jn.right (S.firm 0) = true := by rw [he]; exact Jn.sect_right 2 N (f 2) hgood
  have hheal : heals T 0 3 = false := by
    have hS := g.c.heals_no
    obtain ⟨a1, a2⟩ := last_quiet g.c.q (by rw [hsn]; omega)
    obtain ⟨b1, b2⟩ := last_quiet hq (by rw [hw.sn]; omega)
    rw [ho 0 (by decide)] at b1 b2
    rw [← a1] at b1
    rw [← a2] at b2
    have hv : Jn.lastV S 0 = ⟨(2 : Nat), (N : Nat), f 2⟩ := by rw [a2, he, r1]
    unfold heals at hS ⊢
    rw [b1, b2]
    rw [hv] at hS ⊢
    obtain ⟨c1, c2, _⟩ := reads g.c.q (i := 2) (by rw [hsn]; omega)
    obtain ⟨d1, d2, _⟩ := reads hq (i := 2) (by rw [hw.sn]; omega)
    rw [ho 3 (by decide)] at d1 d2
    have e1 : bE T 0 ((2 : Nat) : Int) = bE S 0 ((2 : Nat) : Int) := d1.trans c1.symm
    have e2 : bN T 0 ((2 : Nat) : Int) = bN S 0 ((2 : Nat) : Int) := d2.trans c2.symm
    simp only [e1, e2]
    exact hS
  have hroom := room_ok hw.q.out hw.sn hw.n1 hw.n64
  have hos : openS T 0 3 = T := by
    unfold openS mended
    rw [if_pos (show room T 0 3 = 0 from hroom), show Int.toNat 3 = 3 from rfl, hheal]
    rfl
  refine ⟨T, M, hturn, hw, o2, hos, bads_three T ?_ ?_ ?_, o4, o1, hbad, by rw [hT]⟩
  · rw [(hw.be (i := 0) (by decide)).1, if_pos]
    rw [ho 1 (by decide)]
    obtain ⟨k, k1, k2, h3⟩ := g.c.blk 0 (by decide)
    rw [show (1 : Nat) = 0 + 1 from rfl, h3]
    exact Blk.sect_right 0 k (f 0) (blk_good (by decide) k1 (by omega) (g.c.dl 0 (by decide)))
  · rw [(hw.be (i := 1) (by decide)).1, if_neg (by rw [hbad]; decide)]
    decide
  · rw [(hw.be (i := 2) (by decide)).1, if_pos]
    rw [ho 3 (by decide)]
    obtain ⟨k, k1, k2, h3⟩ := g.c.blk 2 (by decide)
    rw [show (3 : Nat) = 2 + 1 from rfl, h3]
    exact Blk.sect_right 2 k (f 2) (blk_good (by decide) k1 (by omega) (g.c.dl 2 (by decide)))
end St
section
variable {At : World → Nat → (Nat → Prop) → DS → Prop} {SAt : World → Nat → (Nat → Prop) → Nat → StM → Prop} (D : Disks Tryd.prog At) (T : Stores At SAt)
include T in
/-- a Make that is refused changes nothing -/
theorem duo_make {w : World} {b g : Nat} {H : Nat → Prop} {S : DS} {s : StM} (h : Duo At SAt w b g H S s) (p m x : Int) (ht : TabAt w) (ho : S.ops ≤ 900000) (hx : St.make S p m = (S, x)) : Calls Tryd.prog 14 #[.pointer (some ⟨b, 0, none⟩), .int .i64 p, .int .i64 m] w fun e w' =>
    ∃ H', e = .returned (.int .i64 x) ∧ Duo At SAt w' b g H' S s ∧ Keep H w H' w' := by
  obtain ⟨F, G, a1, a2, a3, a4⟩ := h
  have z := T.make_ w b F S p m ht a1 ho
  unfold ChgIs at z
  rw [hx] at z
  refine z.mono fun e w' ⟨F', e1, e2, e3, e4⟩ => ?_
  obtain ⟨H', k1, k2⟩ := Duo.chg T a2 a3 a4 e2 e3 e4
  exact ⟨H', e1, k1, k2⟩
/-- a row of numbers that lies beside a store -/
def AsideI (H : Nat → Prop) (w : World) (A : Option Addr) (l : List Int) : Prop := RowAt w w.heap.size A (iv l) ∧ (l ≠ [] → ∀ ad, A = some ad → ad.block < w.heap.size ∧ ¬ H ad.block)
theorem AsideI.keep {H H' : Nat → Prop} {w w' : World} {A : Option Addr} {l : List Int} (h : AsideI H w A l) (k : Keep H w H' w') : AsideI H' w' A l := by
  refine ⟨fun hne => ?_, fun hl ad e => ⟨Nat.lt_of_lt_of_le (h.2 hl ad e).1 k.fr.size, fun hx => (k.own _ hx).elim (h.2 hl ad e).2 fun y => by have := (h.2 hl ad e).1; omega⟩⟩
  have hl : l ≠ [] := by rintro rfl; exact hne rfl
  obtain ⟨ad, e, hb, hc⟩ := h.1 hne
  refine ⟨ad, e, Nat.lt_of_lt_of_le hb k.fr.size, fun j v hv => ?_⟩
  rw [← hc j v hv]
  exact World.cell?_of_block (w := w) (by rw [block_add]; exact k.fr.block _ hb (h.2 hl ad e).2)
theorem AsideI.row {H : Nat → Prop} {w : World} {A : Option Addr} {l : List Int} (h : AsideI H w A l) : RowAt w w.heap.size A (iv l) := h.1
theorem AsideI.step {H : Nat → Prop} {w w' : World} {A : Option Addr} {l : List Int} (h : AsideI H w A l) (hb : Below w.heap.size w w') : AsideI H w' A l := h.keep (Keep.of_below hb)
theorem asideI_new {H : Nat → Prop} {w : World} {A : Option Addr} {l : List Int} (hr : RowAt w w.heap.size A (iv l)) (hn : ∀ ad, A = some ad → l ≠ [] → ¬ H ad.block) : AsideI H w A l := by
  refine ⟨hr, fun hl ad e => ⟨?_, hn ad e hl⟩⟩
  obtain ⟨ad', e', hb, _⟩ := hr (by simpa [iv] using hl)
  rw [e] at e'; cases e'
  exact hb
include D T in
set_option maxRecDepth 100000 in
set_option maxHeartbeats 4000000 in
theorem storeKnown_any (w : World) (ht : TabAt w) : Calls Tryd.prog 7 #[] w fun e w' => e = .returned (.bool true) ∧ Below w.heap.size w w' := by
  have zm := made_any D T 3 (by decide) (by decide) w ht
  rw [show ((3 : Nat) : Int) = 3 from rfl] at zm
  unfold MadePost at zm
  have zof : ∀ x w, Calls _ _ _ w (Of9Post x w) := fun x (w : World) => of9_any x w
  unfold Of9Post at zof
  have z1 := zof 1
  have z2 := zof 2
  have z5 := zof 5
  rw [show (((1 : UInt8).toNat : Nat) : Int) = 1 from rfl] at z1
  rw [show (((2 : UInt8).toNat : Nat) : Int) = 2 from rfl] at z2
  rw [show (((5 : UInt8).toNat : Nat) : Int) = 5 from rfl] at z5
  clear zof
  have zw := fun w t => awake9_any D T w t
  obtain ⟨f2, hf2⟩ : ∃ f, f = DS.upd (fun _ => St.zeros) 2 (b32 1) := ⟨_, rfl⟩
  obtain ⟨f3, hf3⟩ : ∃ f, f = DS.upd f2 2 (b32 2) := ⟨_, rfl⟩
  have h32 : f3 2 = b32 2 := by rw [hf3]; simp [DS.upd]
  have zp1 : ∀ w b g H S, Duo At SAt w b g H S ⟨0, 3, 1, false⟩ → St.Calm S 3 1 (fun _ => St.zeros) → S.ops = 3 + 2 → ∀ A, TabAt w → Aside H w A (b32 1) → Calls Tryd.prog 11 #[.pointer (some ⟨g, 0, none⟩), .int .i64 2, .slice A 32 32] w fun e w' => ∃ H' S', e = .returned (.int .i64 0) ∧ Duo At SAt w' b g H' S' ⟨0, 3, 2, false⟩ ∧ St.Calm S' 3 2 f2 ∧ S'.ops = 9 ∧ Keep H w H' w' := by
    intro w b g H S h C ho A t r
    exact (calm_put T h C 2 (by decide) (by decide) A (b32 1) 32 32 (b32_length 1) rfl t (by omega) r).mono fun e w' ⟨H', S', a1, a2, a3, a4, _, a6⟩ => ⟨H', S', a1, a2, by rw [hf2]; exact a3, by omega, a6⟩
  have zf : ∀ w b g H S, Duo At SAt w b g H S ⟨0, 3, 2, false⟩ → St.Calm S 3 2 f2 → Calls Tryd.prog 18 #[.pointer (some ⟨b, 0, none⟩), .int .i64 2] w fun e w' => ∃ H', e = .returned (.int .i64 0) ∧ Duo At SAt w' b g H' { S with left := some 2 } ⟨0, 3, 2, false⟩ ∧ Keep H w H' w' := by
    intro w b g H S h C
    have z := duo_fuse D T h 2 (by decide) (by decide)
    rw [show S.fuse 2 = ({ S with left := some 2 }, 0) by unfold DS.fuse; rw [C.q.out]; rfl] at z
    exact z
  have zp2 : ∀ w b g H S, Duo At SAt w b g H { S with left := some 2 } ⟨0, 3, 2, false⟩ → St.Calm S 3 2 f2 → S.ops = 9 → ∀ A, TabAt w → Aside H w A (b32 2) → Calls Tryd.prog 11 #[.pointer (some ⟨g, 0, none⟩), .int .i64 2, .slice A 32 32] w fun e w' => ∃ H' S' s', e = .returned (.int .i64 10) ∧ Duo At SAt w' b g H' S' s' ∧ St.Mid (S'.crash [] 0) 3 2 f2 2 (b32 2) ∧ S'.ops ≤ 13 ∧ Keep H w H' w' := by
    intro w b g H S h C ho A t r
    have z := duo_put T h 2 A (b32 2) 32 t (by show S.ops ≤ 900000; omega) r
    have m := C.two_mid (b := 2) (d := b32 2) (by decide) (b32_length 2) (by decide) [] 0
    have o := St.ops_put { S with left := some 2 } ⟨0, 3, 2, false⟩ 2 (b32 2)
    have e10 := C.put_two (b := 2) (d := b32 2) (by decide) (b32_length 2) (by decide)
    have e10 : (St.putD { S with left := some 2 } ⟨0, 3, 2, false⟩ 2 (b32 2)).2 = 10 := e10
    have o : (St.putD { S with left := some 2 } ⟨0, 3, 2, false⟩ 2 (b32 2)).1.ops ≤ S.ops + 4 := o
    rw [e10] at z
    exact z.mono fun e w' ⟨H', a1, a2, a3⟩ => ⟨H', _, _, a1, a2, m, by omega, a3⟩
  have zc : ∀ w b g H S s, Duo At SAt w b g H S s → Calls Tryd.prog 26 #[.pointer (some ⟨b, 0, none⟩), .slice none 0 0, .int .i64 0] w fun e w' => ∃ H', e = .returned (.int .i64 0) ∧ Duo At SAt w' b g H' (S.crash [] 0) s ∧ Keep H w H' w' := fun w b g H S s h => duo_crash D T h none [] 0 0 0 RowAt.none_ rfl (Nat.le_refl _)
  have zo1 : ∀ w b g H S s, Duo At SAt w b g H S s → St.Mid S 3 2 f2 2 (b32 2) → S.ops ≤ 13 → TabAt w → Calls Tryd.prog 10 #[.pointer (some ⟨b, 0, none⟩), .int .i64 0, .int .i64 3] w fun e w' => ∃ g' H' S' A c, e = .returned (.tuple #[.pointer (some ⟨g', 0, none⟩), .slice A 0 c, .int .i64 0]) ∧ Duo At SAt w' b g' H' S' ⟨0, 3, 3, false⟩ ∧ St.Even S' 3 3 f3 ∧ S'.firm 0 = Jn.sect 2 3 (f3 2) ∧ S'.ops ≤ 15 ∧ Keep H w H' w' := by
    intro w b g H S s h M ho t
    obtain ⟨F, G, a1, a2, a3, a4⟩ := h
    obtain ⟨o1, o2, o3, o4⟩ := (show St.Good S 3 3 f3 from .inr ⟨2, f2, 2, b32 2, rfl, hf3, M⟩).open_
    have oo := St.ops_open S 0 3
    refine (T.open_ w b F S 0 3 t a1 (by omega)).mono fun en w' h => ?_
    obtain ⟨g', H', A, c, e1, e2, e3, _⟩ := h.yes o1
    have o3 : St.bads (St.openS S 0 3) 0 (Int.toNat 3) = [] := o3
    rw [o3] at e1
    have o4 : St.opened S 0 3 = ⟨0, 3, 3, false⟩ := o4
    rw [o4] at e2
    refine ⟨g', H', _, A, c, e1, e2, by rw [hf3]; exact M.even, ?_, by omega, e3.fr.mono fun k hk => (a4 k).2 (.inl hk), fun k hk => (e3.own k hk).imp (fun x => (a4 k).2 (.inl x)) id⟩
    rw [h32]
    exact M.open_entry
  have zg1 : ∀ w b g H S, Duo At SAt w b g H S ⟨0, 3, 3, false⟩ → St.Even S 3 3 f3 → ∀ A, TabAt w → Aside H w A (b32 2) → Calls Tryd.prog 20 #[.pointer (some ⟨g, 0, none⟩), .int .i64 2, .slice A 32 32] w fun e w' => ∃ H', e = .returned (.bool true) ∧ Duo At SAt w' b g H' S ⟨0, 3, 3, false⟩ ∧ Keep H w H' w' := by
    intro w b g H S h C A t r
    have z := calm_gets D T h C.c 2 (by decide) A (b32 2) 32 32 (b32_length 2) t r
    rw [h32, beq_self_eq_true] at z
    exact z
  have zt : ∀ w b g H S, Duo At SAt w b g H S ⟨0, 3, 3, false⟩ → St.Even S 3 3 f3 → S.firm 0 = Jn.sect 2 3 (f3 2) → S.ops ≤ 15 → Calls Tryd.prog 22 #[.pointer (some ⟨b, 0, none⟩), .int .i64 2, .int .i64 20, .int .u8 1] w fun e w' => ∃ H' U M, e = .returned (.int .i64 0) ∧ Duo At SAt w' b g H' U ⟨0, 3, 3, false⟩ ∧ St.Worn U 3 3 f3 ∧ St.openE U 0 3 = 0 ∧ St.openS U 0 3 = U ∧ St.bads U 0 3 = [1] ∧ St.opened U 0 3 = ⟨0, 3, M, false⟩ ∧ M ≤ 3 ∧ Blk.right (1 : Nat) (U.firm 2) = false ∧ U.ops ≤ 15 ∧ Keep H w H' w' := by
    intro w b g H S h C he ho
    obtain ⟨U, M, k1, k2, k3, k4, k5, k6, k7, k8, k9⟩ := St.known_turn C he
    have z := duo_turn D T h 2 20 1
    rw [k1] at z
    exact z.mono fun e w' ⟨H', a1, a2, a3⟩ => ⟨H', U, M, a1, a2, k2, k3, k4, k5, k6, k7, k8, by omega, a3⟩
  have zo2 : ∀ w b g H S s M, Duo At SAt w b g H S s → St.openE S 0 3 = 0 → St.openS S 0 3 = S → St.bads S 0 3 = [1] → St.opened S 0 3 = ⟨0, 3, M, false⟩ → S.ops ≤ 15 → TabAt w → Calls Tryd.prog 10 #[.pointer (some ⟨b, 0, none⟩), .int .i64 0, .int .i64 3] w fun e w' => ∃ g' H' A c, e = .returned (.tuple #[.pointer (some ⟨g', 0, none⟩), .slice A 1 c, .int .i64 0]) ∧ Duo At SAt w' b g' H' S ⟨0, 3, M, false⟩ ∧ AsideI H' w' A [1] ∧ Keep H w H' w' := by
    intro w b g H S s M h o1 o2 o3 o4 ho t
    obtain ⟨F, G, a1, a2, a3, a4⟩ := h
    refine (T.open_ w b F S 0 3 t a1 (by omega)).mono fun en w' h => ?_
    obtain ⟨g', H', A, c, e1, e2, e3, e4, _, e6⟩ := h.yes o1
    rw [o2] at e1 e2 e4 e6
    have o3 : St.bads S 0 (Int.toNat 3) = [1] := o3
    rw [o3] at e1 e4 e6
    rw [o4] at e2
    exact ⟨g', H', A, c, e1, e2, asideI_new e4 fun ad e hl => (e6 ad e hl).2, e3.fr.mono fun k hk => (a4 k).2 (.inl hk), fun k hk => (e3.own k hk).imp (fun x => (a4 k).2 (.inl x)) id⟩
  have zge : ∀ w b g H S M, Duo At SAt w b g H S ⟨0, 3, M, false⟩ → St.Worn S 3 3 f3 → Blk.right (1 : Nat) (S.firm 2) = false → TabAt w → Calls Tryd.prog 9 #[.pointer (some ⟨g, 0, none⟩), .int .i64 1] w fun e w' => ∃ A c H', e = .returned (.tuple #[.slice A 0 c, .int .i64 11]) ∧ Duo At SAt w' b g H' S ⟨0, 3, M, false⟩ ∧ Keep H w H' w' := by
    intro w b g H S M h W hb t
    have z := duo_get D T h ((1 : Nat) : Int) t
    obtain ⟨e1, e2⟩ := W.get (M := M) (i := 1) (by decide)
    rw [if_neg (by rw [hb]; decide)] at e1 e2
    rw [e1, e2, St.get_still W.q.out] at z
    exact z.mono fun e w' ⟨A, c, H', a1, _, a3, a4⟩ => ⟨A, c, H', a1, a3, a4⟩
  have zp5 : ∀ w b g H S M, Duo At SAt w b g H S ⟨0, 3, M, false⟩ → St.Worn S 3 3 f3 → M ≤ 3 → S.ops ≤ 15 → ∀ A, TabAt w → Aside H w A (b32 5) → Calls Tryd.prog 11 #[.pointer (some ⟨g, 0, none⟩), .int .i64 1, .slice A 32 32] w fun e w' => ∃ H' S', e = .returned (.int .i64 0) ∧ Duo At SAt w' b g H' S' ⟨0, 3, M + 1, false⟩ ∧ St.Worn S' 3 4 (DS.upd f3 1 (b32 5)) ∧ Blk.right (1 : Nat) (S'.firm 2) = true ∧ S'.ops ≤ 19 ∧ Keep H w H' w' := by
    intro w b g H S M h W hM ho A t r
    have z := duo_put T h ((1 : Nat) : Int) A (b32 5) 32 t (by omega) r
    obtain ⟨S', k1, k2, k3, k4, k5⟩ := W.put (b := 1) (d := b32 5) hM (by decide) (b32_length 5) (by decide)
    rw [k1, k4] at z
    exact z.mono fun e w' ⟨H', a1, a2, a3⟩ => ⟨H', S', a1, a2, k2, k5, by omega, a3⟩
  have zg5 : ∀ w b g H S M, Duo At SAt w b g H S ⟨0, 3, M, false⟩ → St.Worn S 3 4 (DS.upd f3 1 (b32 5)) → Blk.right (1 : Nat) (S.firm 2) = true → ∀ A, TabAt w → Aside H w A (b32 5) → Calls Tryd.prog 20 #[.pointer (some ⟨g, 0, none⟩), .int .i64 1, .slice A 32 32] w fun e w' => ∃ H', e = .returned (.bool true) ∧ Duo At SAt w' b g H' S ⟨0, 3, M, false⟩ ∧ Keep H w H' w' := by
    intro w b g H S M h W hb A t r
    have z := gets_any D T w b g H S ⟨0, 3, M, false⟩ ((1 : Nat) : Int) A (b32 5) 32 32 (b32_length 5) t h r
    obtain ⟨e1, e2⟩ := W.get (M := M) (i := 1) (by decide)
    rw [if_pos hb] at e1 e2
    rw [e1, e2, St.get_still W.q.out, show DS.upd f3 1 (b32 5) 1 = b32 5 by simp [DS.upd]] at z
    simpa using z
  have zge3 : ∀ w b g H S M N f, Duo At SAt w b g H S ⟨0, 3, M, false⟩ → St.Worn S 3 N f → TabAt w → Calls Tryd.prog 9 #[.pointer (some ⟨g, 0, none⟩), .int .i64 3] w fun e w' => ∃ A c H', e = .returned (.tuple #[.slice A 0 c, .int .i64 5]) ∧ Duo At SAt w' b g H' S ⟨0, 3, M, false⟩ ∧ Keep H w H' w' := by
    intro w b g H S M N f h W t
    have z := duo_get D T h 3 t
    obtain ⟨e1, e2, e3⟩ := St.get_range (S := S) (n := 3) (N := M) (b := 3) W.q.out (.inr (by decide))
    rw [e1, e2, e3] at z
    exact z.mono fun e w' ⟨A, c, H', a1, _, a3, a4⟩ => ⟨A, c, H', a1, a3, a4⟩
  have zm4 : ∀ w b g H S s N f, Duo At SAt w b g H S s → St.Worn S 3 N f → S.ops ≤ 19 → TabAt w → Calls Tryd.prog 14 #[.pointer (some ⟨b, 0, none⟩), .int .i64 0, .int .i64 4] w fun e w' => ∃ H', e = .returned (.int .i64 5) ∧ Duo At SAt w' b g H' S s ∧ Keep H w H' w' := by
    intro w b g H S s N f h W ho t
    refine duo_make T h 0 4 5 t (by omega) ?_
    have hr : St.room S 0 4 = 5 := by
      unfold St.room
      rw [if_neg (by rw [W.q.out]; decide), if_neg (by decide), if_pos (by rw [W.sn]; omega)]
    unfold St.make
    rw [hr, if_neg (by decide)]
  have zm65 : ∀ w b g H S s N f, Duo At SAt w b g H S s → St.Worn S 3 N f → S.ops ≤ 19 → TabAt w → Calls Tryd.prog 14 #[.pointer (some ⟨b, 0, none⟩), .int .i64 0, .int .i64 65] w fun e w' => ∃ H', e = .returned (.int .i64 2) ∧ Duo At SAt w' b g H' S s ∧ Keep H w H' w' := by
    intro w b g H S s N f h W ho t
    refine duo_make T h 0 65 2 t (by omega) ?_
    have hr : St.room S 0 65 = 2 := by
      unfold St.room
      rw [if_neg (by rw [W.q.out]; decide), if_pos (by decide)]
    unfold St.make
    rw [hr, if_neg (by decide)]
  have zp31 : ∀ w b g H S M N f, Duo At SAt w b g H S ⟨0, 3, M, false⟩ → St.Worn S 3 N f → S.ops ≤ 19 → ∀ A, TabAt w → Aside H w A ((b32 1).take 31) → Calls Tryd.prog 11 #[.pointer (some ⟨g, 0, none⟩), .int .i64 0, .slice A 31 32] w fun e w' => ∃ H', e = .returned (.int .i64 2) ∧ Keep H w H' w' := by
    intro w b g H S M N f h W ho A t r
    have hl : ((b32 1).take 31).length = 31 := by simp [b32]
    have z := duo_put T h 0 A ((b32 1).take 31) 32 t (by omega) r
    obtain ⟨e1, e2⟩ := St.put_arg (n := 3) (N := M) W.q.out (b := 0) (d := (b32 1).take 31) (by decide) (by rw [hl]; decide)
    rw [e1, e2, hl] at z
    exact z.mono fun e w' ⟨H', a1, _, a3⟩ => ⟨H', a1, a3⟩
  have zsi : ∀ A c A' c' (w : World), RowAt w w.heap.size A (iv [1]) → RowAt w w.heap.size A' (iv [1]) → _ := fun A c A' c' w h h' => sameInts_any A [1] 1 c rfl A' [1] 1 c' rfl w.heap.size w h h' (by decide)
  have q31 : ∀ g (W : World), (Instr.slice 22 (.slice (some ⟨g, 0, none⟩) 32 32) none (some (.int .i64 31)) none).run Tryd.prog W = .ok (.slice (some ⟨g, 0, none⟩) 31 32) W := fun g W => cut_to (some ⟨g, 0, none⟩) 32 32 31 (by decide) W
  have HT := Lib.hid ht
  have HDL : Hid (∀ w b g H S s, Duo At SAt w b g H S s → ∀ k, H k → k < w.heap.size) := Lib.hid fun w b g H S s h => Duo.lt D T h
  have HDS : Hid (∀ w w' b g H S s, Duo At SAt w b g H S s → Below w.heap.size w w' → Duo At SAt w' b g H S s) := Lib.hid fun w w' b g H S s h B => Duo.step D T h B
  have hnew : Hid (∀ W : World, RowAt (W.alloc (.cells #[.int .i64 1] 3)) (W.alloc (.cells #[.int .i64 1] 3)).heap.size (some ⟨W.heap.size, 0, none⟩) (iv [1])) := Lib.hid fun W => (BlkR.new W [.int .i64 1] 3).row ⟨[], rfl⟩ (by simp)
  clear hf2 hf3 h32
  go_enter Tryd.func7, Tryd.ntmps7
  go_wp2_with (first
    | (go_at_call 16; refine zm.mono ?_; (rintro e w1 ⟨b, g, H1, S1, rfl, d1, P1, o1, _, n1, C1⟩))
    | (go_at_call 17; first
      | ((with_reducible refine (z1 w1).mono ?_); (rintro e w2 ⟨g2, rfl, hg2, x2, B2⟩; have d2 := HDS.out _ _ _ _ _ _ _ d1 B2; have C2 := step_trans C1 B2; have t2 := HT.out.below C2 (Nat.le_refl _); have a2 := aside_blk (HDL.out _ _ _ _ _ _ d1) hg2 x2))
      | ((with_reducible refine (z2 w4).mono ?_); (rintro e w5 ⟨g5, rfl, hg5, x5, B5⟩; have d5 := HDS.out _ _ _ _ _ _ _ d4 B5; have C5 := step_trans C4 B5; have t5 := HT.out.below C5 (Nat.le_refl _); have a5 := aside_blk (HDL.out _ _ _ _ _ _ d4) hg5 x5))
      | ((with_reducible refine (z2 w8).mono ?_); (rintro e w9 ⟨g9, rfl, hg9, x9, B9⟩; have d9 := HDS.out _ _ _ _ _ _ _ d8 B9; have C9 := step_trans C8 B9; have t9 := HT.out.below C9 (Nat.le_refl _); have a9 := aside_blk (HDL.out _ _ _ _ _ _ d8) hg9 x9))
      | ((with_reducible refine (z5 w13).mono ?_); (rintro e w14 ⟨g14, rfl, hg14, x14, B14⟩; have d14 := HDS.out _ _ _ _ _ _ _ d13 B14; have C14 := step_trans C13 B14; have t14 := HT.out.below C14 (Nat.le_refl _); have a14 := aside_blk (HDL.out _ _ _ _ _ _ d13) hg14 x14; have l14 := l13.step B14))
      | ((with_reducible refine (z5 w16).mono ?_); (rintro e w17 ⟨g17, rfl, hg17, x17, B17⟩; have d17 := HDS.out _ _ _ _ _ _ _ d16 B17; have C17 := step_trans C16 B17; have t17 := HT.out.below C17 (Nat.le_refl _); have a17 := aside_blk (HDL.out _ _ _ _ _ _ d16) hg17 x17))
      | ((with_reducible refine (z1 w22).mono ?_); (rintro e w23 ⟨g23, rfl, hg23, x23, B23⟩; have d23 := HDS.out _ _ _ _ _ _ _ d22 B23; have C23 := step_trans C22 B23; have t23 := HT.out.below C23 (Nat.le_refl _); have a23 : Aside H22 w23 (some ⟨g23, 0, none⟩) ((b32 1).take 31) := (by have := aside_blk (HDL.out _ _ _ _ _ _ d22) hg23 x23; exact ⟨this.1.take 31, fun _ ad e => this.2 (by decide) ad e⟩))))
    | (go_at_call 11; first
      | ((with_reducible refine (zp1 w2 b g H1 S1 d2 P1 o1 _ t2 a2).mono ?_); (rintro e w3 ⟨H3, S3, rfl, d3, P3, o3, K3⟩; obtain ⟨C3, n3⟩ := chg_go C2 n1 K3.own K3.fr))
      | ((with_reducible refine (zp2 w5 b g H4 S3 d5 P3 o3 _ t5 a5).mono ?_); (rintro e w6 ⟨H6, S6, s6, rfl, d6, m6, o6, K6⟩; obtain ⟨C6, n6⟩ := chg_go C5 n4 K6.own K6.fr))
      | ((with_reducible refine (zp5 w14 b g12 H13 U11 M11 d14 W11 k11 o11 _ t14 a14).mono ?_); (rintro e w15 ⟨H15, S15, rfl, d15, W15, b15, o15, K15⟩; obtain ⟨C15, n15⟩ := chg_go C14 n13 K15.own K15.fr; have l15 := l14.keep K15))
      | ((with_reducible refine (zp31 w23 b g12 H22 S15 (M11 + 1) 4 _ d23 W15 o15 _ t23 a23).mono ?_); (rintro e w24 ⟨H24, rfl, K24⟩; obtain ⟨C24, n24⟩ := chg_go C23 n22 K24.own K24.fr)))
    | (go_at_call 18; ((with_reducible refine (zf w3 b g H3 S3 d3 P3).mono ?_); (rintro e w4 ⟨H4, rfl, d4, K4⟩; obtain ⟨C4, n4⟩ := chg_go C3 n3 K4.own K4.fr)))
    | (go_at_call 26; ((with_reducible refine (zc w6 b g H6 S6 s6 d6).mono ?_); (rintro e w7 ⟨H7, rfl, d7, K7⟩; have o7 : (S6.crash [] 0).ops ≤ 13 := o6; obtain ⟨C7, n7⟩ := chg_go C6 n6 K7.own K7.fr; have t7 := HT.out.below C7 (Nat.le_refl _))))
    | (go_at_call 10; first
      | ((with_reducible refine (zo1 w7 b g H7 _ s6 d7 m6 o7 t7).mono ?_); (rintro e w8 ⟨g8, H8, S8, A8, c8, rfl, d8, E8, f8, o8, K8⟩; obtain ⟨C8, n8⟩ := chg_go C7 n7 K8.own K8.fr))
      | ((with_reducible refine (zo2 w11 b g8 H11 U11 _ M11 d11 e11 s11 b11 p11 o11 t11).mono ?_); (rintro e w12 ⟨g12, H12, A12, c12, rfl, d12, l12, K12⟩; obtain ⟨C12, n12⟩ := chg_go C11 n11 K12.own K12.fr; have t12 := HT.out.below C12 (Nat.le_refl _))))
    | (go_at_call 20; first
      | ((with_reducible refine (zg1 w9 b g8 H8 S8 d9 E8 _ t9 a9).mono ?_); (rintro e w10 ⟨H10, rfl, d10, K10⟩; obtain ⟨C10, n10⟩ := chg_go C9 n8 K10.own K10.fr))
      | ((with_reducible refine (zg5 w17 b g12 H15 S15 (M11 + 1) d17 W15 b15 _ t17 a17).mono ?_); (rintro e w18 ⟨H18, rfl, d18, K18⟩; obtain ⟨C18, n18⟩ := chg_go C17 n15 K18.own K18.fr; have t18 := HT.out.below C18 (Nat.le_refl _))))
    | (go_at_call 22; ((with_reducible refine (zt w10 b g8 H10 S8 d10 E8 f8 o8).mono ?_); (rintro e w11 ⟨H11, U11, M11, rfl, d11, W11, e11, s11, b11, p11, k11, r11, o11, K11⟩; obtain ⟨C11, n11⟩ := chg_go C10 n10 K11.own K11.fr; have t11 := HT.out.below C11 (Nat.le_refl _))))
    | (go_at_call 9; first
      | ((with_reducible refine (zge w12 b g12 H12 U11 M11 d12 W11 r11 t12).mono ?_); (rintro e w13 ⟨A13, c13, H13, rfl, d13, K13⟩; obtain ⟨C13, n13⟩ := chg_go C12 n12 K13.own K13.fr; have l13 := l12.keep K13))
      | ((with_reducible refine (zge3 w18 b g12 H18 S15 (M11 + 1) 4 _ d18 W15 t18).mono ?_); (rintro e w19 ⟨A19, c19, H19, rfl, d19, K19⟩; obtain ⟨C19, n19⟩ := chg_go C18 n18 K19.own K19.fr; have t19 := HT.out.below C19 (Nat.le_refl _))))
    | (go_at_call 27; ((with_reducible refine (zsi A12 c12 (some ⟨w15.heap.size, 0, none⟩) 1 (w15.alloc (.cells #[.int .i64 1] 3)) (l15.step (step_alloc (Below.refl _ _) _)).row (hnew.out w15)).mono ?_); (rintro e w16 ⟨rfl, nn, hw16⟩; have B16 : Below w15.heap.size w15 w16 := (by rw [hw16]; exact belowDN (step_alloc (Below.refl _ _) _) nn); clear hw16; have d16 := HDS.out _ _ _ _ _ _ _ d15 B16; have C16 := step_trans C15 B16)))
    | (go_at_call 8; ((with_reducible refine (zw w19 t19).mono ?_); (rintro e w20 ⟨rfl, B20⟩; have d20 := HDS.out _ _ _ _ _ _ _ d19 B20; have C20 := step_trans C19 B20; have t20 := HT.out.below C20 (Nat.le_refl _))))
    | (go_at_call 14; first
      | ((with_reducible refine (zm4 w20 b g12 H19 S15 _ 4 _ d20 W15 o15 t20).mono ?_); (rintro e w21 ⟨H21, rfl, d21, K21⟩; obtain ⟨C21, n21⟩ := chg_go C20 n19 K21.own K21.fr; have t21 := HT.out.below C21 (Nat.le_refl _)))
      | ((with_reducible refine (zm65 w21 b g12 H21 S15 _ 4 _ d21 W15 o15 t21).mono ?_); (rintro e w22 ⟨H22, rfl, d22, K22⟩; obtain ⟨C22, n22⟩ := chg_go C21 n21 K22.own K22.fr))))
  go_ret
  exact ⟨rfl, C24⟩
end
end Go.Proofs.YtlchpolheciadaaDoor
