/-
  The walk of StoreList. Conditions: a disk's methods and a store's do what the document says; the table of crc lies as the program's text lays it; what came in can be read.
-/
import Derived.Test.YtlchpolheciadaaDoorStRound
namespace Go.Proofs.YtlchpolheciadaaDoor
open Go.RowKit Fix

section
variable {At : World → Nat → (Nat → Prop) → DS → Prop} {SAt : World → Nat → (Nat → Prop) → Nat → StM → Prop} (D : Disks Tryd.prog At) (T : Stores At SAt)
/-- two stores over one disk -/
def Trio (At : World → Nat → (Nat → Prop) → DS → Prop) (SAt : World → Nat → (Nat → Prop) → Nat → StM → Prop) (w : World) (b g g2 : Nat) (H : Nat → Prop) (S : DS) (s s2 : StM) : Prop :=
  ∃ F G G2, At w b F S ∧ SAt w g G b s ∧ SAt w g2 G2 b s2 ∧ (∀ k, ¬ (F k ∧ G k)) ∧ (∀ k, ¬ (F k ∧ G2 k)) ∧ (∀ k, ¬ (G k ∧ G2 k)) ∧ ∀ k, H k ↔ F k ∨ G k ∨ G2 k
theorem Trio.swap {w : World} {b g g2 : Nat} {H : Nat → Prop} {S : DS} {s s2 : StM} (h : Trio At SAt w b g g2 H S s s2) : Trio At SAt w b g2 g H S s2 s := by
  obtain ⟨F, G, G2, h1, h2, h3, h4, h5, h6, h7⟩ := h
  exact ⟨F, G2, G, h1, h3, h2, h5, h4, fun k x => h6 k x.symm, fun k => (h7 k).trans ⟨fun x => x.elim .inl fun y => .inr y.symm, fun x => x.elim .inl fun y => .inr y.symm⟩⟩
include D T
theorem Trio.step {w w' : World} {b g g2 : Nat} {H : Nat → Prop} {S : DS} {s s2 : StM} (h : Trio At SAt w b g g2 H S s s2) (hb : Below w.heap.size w w') : Trio At SAt w' b g g2 H S s s2 := by
  obtain ⟨F, G, G2, h1, h2, h3, h4, h5, h6, h7⟩ := h
  exact ⟨F, G, G2, At_step D h1 hb, T.keep w w' g G b s h2 hb.size fun k hk => hb.block k (T.lt w g G b s h2 k hk), T.keep w w' g2 G2 b s2 h3 hb.size fun k hk => hb.block k (T.lt w g2 G2 b s2 h3 k hk), h4, h5, h6, h7⟩
theorem trio_get {w : World} {b g g2 : Nat} {H : Nat → Prop} {S : DS} {s s2 : StM} (h : Trio At SAt w b g g2 H S s s2) (i : Int) (ht : TabAt w) : Calls Tryd.prog 9 #[.pointer (some ⟨g, 0, none⟩), .int .i64 i] w fun e w' =>
    ∃ A c H', e = .returned (.tuple #[.slice A (St.getB S s i).length c, .int .i64 (St.getE S s i)]) ∧ BytesAt w' w'.heap.size A (St.getB S s i) ∧ Trio At SAt w' b g g2 H' S (St.getS S s) s2 ∧ Keep H w H' w' := by
  obtain ⟨F, G, G2, a1, a2, a3, a4, a5, a6, a7⟩ := h
  have hl := D.lt w b F S a1
  have hl2 := T.lt w g2 G2 b s2 a3
  refine (T.get w b F S g G s i ht a1 a2 a4).mono fun e w' ⟨A, c, G', e1, e2, e3, e4, e5, e6⟩ => ?_
  refine ⟨A, c, fun k => F k ∨ G' k ∨ G2 k, e1, e3.bytes, ⟨F, G', G2, D.keep w w' b F S a1 e6.size fun k hk => e6.block k (hl k hk) fun x => a4 k ⟨hk, x⟩, e4, T.keep w w' g2 G2 b s2 a3 e6.size fun k hk => e6.block k (hl2 k hk) fun x => a6 k ⟨x, hk⟩, fun k ⟨x, y⟩ => ?_, a5, fun k ⟨x, y⟩ => ?_, fun k => Iff.rfl⟩, e6.mono fun k hk => (a7 k).2 (.inr (.inl hk)), fun k hk => ?_⟩
  · exact (e5 k y).1.elim (fun z => a4 k ⟨x, z⟩) fun z => by have := hl k x; omega
  · exact (e5 k x).1.elim (fun z => a6 k ⟨z, y⟩) fun z => by have := hl2 k y; omega
  · rcases hk with hk | hk | hk
    · exact .inl ((a7 k).2 (.inl hk))
    · exact (e5 k hk).1.imp (fun x => (a7 k).2 (.inr (.inl x))) id
    · exact .inl ((a7 k).2 (.inr (.inr hk)))
omit T in
theorem trio_ops {w : World} {b g g2 : Nat} {H : Nat → Prop} {S : DS} {s s2 : StM} (h : Trio At SAt w b g g2 H S s s2) (ho : S.ops ≤ 1000000) : Calls Tryd.prog 25 #[.pointer (some ⟨b, 0, none⟩)] w fun e w' => e = .returned (.int .i64 (S.ops : Int)) ∧ Below w.heap.size w w' := by
  obtain ⟨F, _, _, a1, _⟩ := h
  exact D.ops w b F S a1 ho
omit D in
theorem trio_number {w : World} {b g g2 : Nat} {H : Nat → Prop} {S : DS} {s s2 : StM} (h : Trio At SAt w b g g2 H S s s2) : Calls Tryd.prog 13 #[.pointer (some ⟨g, 0, none⟩)] w fun e w' => e = .returned (.int .i64 (s.num : Int)) ∧ Below w.heap.size w w' := by
  obtain ⟨_, G, _, _, a2, _⟩ := h
  exact T.number w g G b s a2
omit D in
theorem trio_blocks {w : World} {b g g2 : Nat} {H : Nat → Prop} {S : DS} {s s2 : StM} (h : Trio At SAt w b g g2 H S s s2) : Calls Tryd.prog 12 #[.pointer (some ⟨g, 0, none⟩)] w fun e w' => e = .returned (.int .i64 (s.n : Int)) ∧ Below w.heap.size w w' := by
  obtain ⟨_, G, _, _, a2, _⟩ := h
  exact T.blocks w g G b s a2
omit D in
/-- a calm store opened once more -/
theorem trio_open {w : World} {b g n N : Nat} {H : Nat → Prop} {S : DS} {s : StM} {f : Nat → List UInt8} (h : Duo At SAt w b g H S s) (C : St.Calm S n N f) (ht : TabAt w) (ho : S.ops ≤ 900000) : Calls Tryd.prog 10 #[.pointer (some ⟨b, 0, none⟩), .int .i64 0, .int .i64 (n : Int)] w fun en w' =>
    ∃ g2 H2 A c, en = .returned (.tuple #[.pointer (some ⟨g2, 0, none⟩), .slice A 0 c, .int .i64 0]) ∧ Trio At SAt w' b g g2 H2 S s ⟨0, n, N, false⟩ ∧ Keep H w H2 w' := by
  obtain ⟨F, G, a1, a2, a3, a4⟩ := h
  have hl := T.lt w g G b s a2
  obtain ⟨o1, o2, o3, o4⟩ := C.open_
  refine (T.open_ w b F S 0 n ht a1 ho).mono fun en w' h => ?_
  obtain ⟨g2, G2, F', A, c, e1, e2, e3, e4, e5, e6, _, _, _, e10⟩ := h.1 o1
  rw [o2, Int.toNat_natCast, o3] at e1
  rw [o2] at e2
  rw [o4] at e3
  refine ⟨g2, fun k => F' k ∨ G k ∨ G2 k, A, c, e1, ⟨F', G, G2, e2, T.keep w w' g G b s a2 e10.size fun k hk => e10.block k (hl k hk) fun x => a3 k ⟨x, hk⟩, e3, fun k ⟨x, y⟩ => (e5 k x).elim (fun z => a3 k ⟨z, y⟩) fun z => by have := hl k y; omega, e4, fun k ⟨x, y⟩ => by have := hl k x; have := e6 k y; omega, fun k => Iff.rfl⟩, e10.mono fun k hk => (a4 k).2 (.inl hk), fun k hk => ?_⟩
  rcases hk with hk | hk | hk
  · exact (e5 k hk).imp (fun x => (a4 k).2 (.inl x)) id
  · exact .inl ((a4 k).2 (.inr hk))
  · exact .inr (e6 k hk)
omit D T in
/-- what a block is held against, by whatever is known of Get -/
theorem gets_of {w : World} {g : Nat} {H : Nat → Prop} {i : Int} {A : Option Addr} {d rb : List UInt8} {n c : Nat} {re : Int} {Q : World → (Nat → Prop) → Prop} (hn : d.length = n) (hr : Aside H w A d)
    (z : Calls Tryd.prog 9 #[.pointer (some ⟨g, 0, none⟩), .int .i64 i] w fun e w' => ∃ A c H', e = .returned (.tuple #[.slice A rb.length c, .int .i64 re]) ∧ BytesAt w' w'.heap.size A rb ∧ Q w' H' ∧ Keep H w H' w') :
    Calls Tryd.prog 20 #[.pointer (some ⟨g, 0, none⟩), .int .i64 i, .slice A n c] w fun e w' => ∃ H', e = .returned (.bool (re == 0 && rb == d)) ∧ Q w' H' ∧ Keep H w H' w' := by
  have HA := Lib.hid hr
  clear hr
  cases h0 : (re == 0) with
  | true =>
    rw [Bool.true_and]
    go_enter Tryd.func20, Tryd.ntmps20
    go_wp2_with (first
      | (go_at_call 9; refine z.mono ?_; (rintro e w1 ⟨A1, c1, H1, rfl, o1, h1, K1⟩; have S1 := sameBytes_any A1 rb _ c1 rfl A d n c hn w1.heap.size w1 o1 (HA.out.keep K1).1))
      | (go_at_call 42; refine S1.mono ?_; (rintro e w2 ⟨rfl, rfl⟩)))
    go_ret
    exact ⟨H1, rfl, h1, K1⟩
  | false =>
    rw [Bool.false_and]
    go_enter Tryd.func20, Tryd.ntmps20
    go_wp2_with (go_at_call 9; refine z.mono ?_; (rintro e w1 ⟨A1, c1, H1, rfl, o1, h1, K1⟩))
    go_ret
    exact ⟨H1, rfl, h1, K1⟩
/-- of two calm stores: the first one's block -/
theorem trio_gets {w : World} {b g g2 n N : Nat} {H : Nat → Prop} {S : DS} {s2 : StM} {f : Nat → List UInt8} (h : Trio At SAt w b g g2 H S ⟨0, n, N, false⟩ s2) (C : St.Calm S n N f) (i : Nat) (hi : i < n) (A : Option Addr) (d : List UInt8) (c : Nat) (ht : TabAt w) (hr : Aside H w A d) (e : f i = d) :
    Calls Tryd.prog 20 #[.pointer (some ⟨g, 0, none⟩), .int .i64 (i : Int), .slice A d.length c] w fun e w' => ∃ H', e = .returned (.bool true) ∧ Trio At SAt w' b g g2 H' S ⟨0, n, N, false⟩ s2 ∧ Keep H w H' w' := by
  have z := trio_get D T h (i : Int) ht
  obtain ⟨e1, e2⟩ := C.get hi
  rw [e1, e2, e, St.get_still C.q.out] at z
  have y := gets_of (c := c) rfl hr z
  simpa using y
set_option maxRecDepth 100000 in
set_option maxHeartbeats 16000000 in
theorem storeList_any (x : Int) (hx1 : -9223372036854775808 ≤ x) (hx2 : x ≤ 9223372036854775807) (A0 : Option Addr) (l : List P9M) (c0 : Nat) (w : World) (ht : TabAt w) (hA : P9sAt w w.heap.size A0 l) :
    Calls Tryd.prog 6 #[.int .i64 x, .slice A0 l.length c0] w fun e w' => e = .returned (.bool true) ∧ Below w.heap.size w w' := by
  have zw := fun w t => awake9_any D T w t
  obtain ⟨a, ha⟩ : ∃ a : Nat, x % 8 = (a : Int) := ⟨(x % 8).toNat, by omega⟩
  have zp := fun w : World => pick_any x 8 w hx1 hx2 (by decide) (by decide)
  rw [ha] at zp
  have ha8 : a < 8 := by omega
  obtain ⟨n, hn⟩ : ∃ n, n = a + 1 := ⟨_, rfl⟩
  have hn1 : 1 ≤ n := by omega
  have hn8 : n ≤ 8 := by omega
  have hwn : IntKind.i64.wrap (1 + (a : Int)) = (n : Int) := by rw [IntWalk.i64_in _ (by omega)]; omega
  have zm := fun w t => made_any D T n hn1 (by omega) w t
  unfold MadePost at zm
  have hmk : ∀ W : World, (Instr.makeSlice 53 (.int .i64 (n : Int)) (.int .i64 (n : Int))).run Tryd.prog W = .ok (.slice (some ⟨W.heap.size, 0, none⟩) n n) (W.alloc (bbO n)) := makeBB n (by omega)
  have zof : ∀ w, Calls _ _ _ w (Of9Post 0 w) := fun w : World => of9_any 0 w
  unfold Of9Post at zof
  rw [show (((0 : UInt8).toNat : Nat) : Int) = 0 from rfl] at zof
  obtain ⟨len, hlen⟩ : ∃ n, n = l.length := ⟨_, rfl⟩
  rw [← hlen]
  have HA := Lib.hid (And.intro hA hlen)
  have HT := Lib.hid ht
  have HDL : Hid (∀ w b g H S s, Duo At SAt w b g H S s → ∀ k, H k → k < w.heap.size) := Lib.hid fun w b g H S s h => Duo.lt D T h
  have HDS : Hid (∀ w w' b g H S s, Duo At SAt w b g H S s → Below w.heap.size w w' → Duo At SAt w' b g H S s) := Lib.hid fun w w' b g H S s h B => Duo.step D T h B
  have HDE : Hid (∀ w w' b g H S s q, Duo At SAt w b g H S s → ¬ H q → w'.heap.size = w.heap.size → (∀ j, j ≠ q → w'.heap[j]? = w.heap[j]?) → Duo At SAt w' b g H S s) := Lib.hid fun w w' b g H S s q h hq hs ho => Duo.keep D T h (Nat.le_of_eq hs.symm) fun k hk => ho k fun e => hq (e ▸ hk)
  have HN := Lib.hid (And.intro hn1 hn8)
  clear hA hlen ha hn ha8 hx1 hx2
  go_enter Tryd.func6, Tryd.ntmps6
  go_wp2_with (first
    | (go_at_call 8; refine (zw w ht).mono ?_; (rintro e w1 ⟨rfl, B1⟩; have t1 := HT.out.below B1 (Nat.le_refl _)))
    | (go_at_call 15; refine (zp w1).mono ?_; (rintro e w1' ⟨rfl, rfl⟩))
    | (go_at_call 16; refine (zm w1 t1).mono ?_; (rintro e w2 ⟨b, g0, H0, S0, rfl, d2, C2, o2, _, n2, B2⟩)))
  have hlt0 := HDL.out _ _ _ _ _ _ d2
  have has0 := (HasAt.new (H := H0) w2 n hlt0).congr (fun k _ => firstOf_zero St.zeros k)
  have B3 : Below w2.heap.size w2 (w2.alloc (bbO n)) := (Below.refl _ _).alloc (Nat.le_refl _) _
  have d3 := HDS.out _ _ _ _ _ _ _ d2 B3
  have C3 := step_trans (step_trans B1 B2) B3
  have far0 : ∀ x, H0 x → w.heap.size ≤ x := fun x hx => Nat.le_trans B1.size (n2 x hx)
  have gq0 : w.heap.size ≤ w2.heap.size := Nat.le_trans B1.size B2.size
  obtain ⟨w3, hw3⟩ : ∃ w3, w3 = w2.alloc (bbO n) := ⟨_, rfl⟩
  rw [← hw3] at has0 d3 C3 ⊢
  obtain ⟨q, hq⟩ : ∃ q, q = w2.heap.size := ⟨_, rfl⟩
  rw [← hq] at has0 gq0 ⊢
  have I0 := Lib.hid (And.intro d3 (And.intro has0 C3))
  have HS := Lib.hid (And.intro C2 (And.intro o2 (And.intro far0 gq0)))
  clear hw3 hq B1 B2 B3 t1 zw zp zm hmk hlt0 has0 d2 d3 C3 n2 C2 o2 far0 gq0 hwn ht
  go_loopw [9] (fun ix wr => ∃ j : Nat, ix = .int .i64 (j : Int) ∧ j ≤ n ∧ Duo At SAt wr b g0 H0 S0 ⟨0, n, 1, false⟩ ∧ HasAt H0 wr q n (firstOf j St.zeros) ∧ Below w.heap.size w wr) (fun ix _ => n - vN9 ix)
  case atStart => exact ⟨0, rfl, Nat.zero_le _, I0.out.1, I0.out.2.1, I0.out.2.2⟩
  case round =>
    obtain ⟨j, rfl, hjn, d3, has3, C3⟩ := hrel
    clear I0
    by_cases hj : j < n
    · have hj' : (j : Int) < (n : Int) := by omega
      have hw1 : IntKind.i64.wrap ((j : Int) + 1) = (j : Int) + 1 := IntWalk.i64_in _ (by have := HN.out; omega)
      go_wp2_with (first
        | (go_at_call 17; refine (zof wr).mono ?_; (rintro e w4 ⟨g4, rfl, hg4, x4, B4⟩; have d4 := HDS.out _ _ _ _ _ _ _ d3 B4; have has4 := has3.step B4; have a4 := aside_blk (HDL.out _ _ _ _ _ _ d3) hg4 x4; obtain ⟨vs, hvl, hvb⟩ := has4.row; have hne : g4 ≠ q := (by have := (has3.row).choose_spec.2.lt; omega); have HX4 := Lib.hid (And.intro hvb hvl)))
        | ((with_reducible refine atWorld w4 ?_); refine wpList_storeCell (w := w4) rfl 22 (.tmp 49) (.tmp 48) rfl (.slice (some ⟨g4, 0, none⟩) 32 32) rfl rfl HX4.out.1 (by rw [HX4.out.2]; exact hj) sizeBB rfl ?_; (intro w5 b5 B5 s5 k5; have d5 := HDE.out _ _ _ _ _ _ _ q d4 has4.nq s5 k5; have has5 := (has4.set hj a4 (fun _ ad e => by cases e; exact hne) HX4.out.1 b5 s5 k5).congr (fun k _ => firstOf_succ j St.zeros k); have C5 := (step_trans C3 B4).trans (B5.mono HS.out.2.2.2); have H5 := Lib.hid (And.intro d5 (And.intro has5 C5)); clear b5 B5 s5 k5 d5 has5 C5)))
      go_roundw
      case rel => exact ⟨j + 1, by go_num, by omega, H5.out.1, H5.out.2.1, H5.out.2.2⟩
      case measure => simp [vN9]; omega
    · obtain rfl : j = n := by omega
      have hj' : ¬ (j : Int) < (j : Int) := by omega
      have I1 : K9 At SAt w wr b g0 q j 1 H0 S0 (fun _ => St.zeros) 0 := ⟨d3, HS.out.1, has3.congr fun k hk => firstOf_all j St.zeros k hk, Nat.le_refl _, by have := HS.out.2.1; have := HN.out; omega, HS.out.2.2.1, HS.out.2.2.2, C3⟩
      replace I1 := Lib.hid I1
      clear d3 has3 C3 HS zof
      go_wp2
      go_loopw [10] (fun ix wr => ∃ k N H S f, ix = .int .i64 ((k : Nat) : Int) ∧ k ≤ len ∧ k ≤ 30 ∧ K9 At SAt w wr b g0 q j N H S f k) (fun ix _ => 31 - vN9 ix)
      case atStart => exact ⟨0, 1, H0, S0, _, rfl, Nat.zero_le _, Nat.zero_le _, I1.out⟩
      case round =>
        obtain ⟨k, N, H, S, f, rfl, hk, hk2, inv⟩ := hrel
        clear I1
        by_cases hgo : k < len ∧ k < 30
        · obtain ⟨hlt, h20⟩ := hgo
          obtain ⟨m, hm⟩ : ∃ m, l[k]? = some m := ⟨_, List.getElem?_eq_getElem (by rw [← HA.out.2]; exact hlt)⟩
          have hmem := List.mem_of_getElem? hm
          obtain ⟨ad, rfl, y0, y1, y2, y3, y4, y5⟩ := p9_at HA.out.1 inv.below hm
          have hlt' : (k : Int) < (len : Int) := by omega
          have h20' : (k : Int) < 30 := by omega
          have hw1 : IntKind.i64.wrap ((k : Int) + 1) = (k : Int) + 1 := IntWalk.i64_in _ (by omega)
          have HI := Lib.hid inv
          have mb := Lib.hid (HA.out.1.b m hmem)
          have HX : Hid (∀ w' H' X f', R9 w X q j m H' w' f' → TabAt w' ∧ Aside H' w' m.A m.d) := Lib.hid fun w' H' X f' r => ⟨HT.out.below r.below (Nat.le_refl _), aside_arg mb.out r.below r.far⟩
          have R0 : Hid (∀ w2, Below wr.heap.size wr w2 → BlkR 57 w2 wr.heap.size (p9Cells m) → R9 w wr.heap.size q j m H w2 f) := Lib.hid fun w2 B hx => by
            have hl := HDL.out _ _ _ _ _ _ HI.out.duo
            obtain ⟨_, _, hv⟩ := HI.out.has.row
            have := hv.lt
            exact ⟨HI.out.far, step_trans HI.out.below B, hx, fun h => Nat.lt_irrefl _ (hl _ h), by omega, HI.out.gq, HI.out.has.step B⟩
          have ho := HI.out.calm.q.out
          have znum : ∀ w H S N, Duo At SAt w b g0 H S ⟨0, j, N, false⟩ → _ := fun w H S N h => duo_number (w := w) (H := H) (S := S) T h
          clear hm inv hmem
          by_cases hbad : 40 < m.d.length
          · have i1 : (40 : Int) < (m.d.length : Int) := by omega
            go_wp2_with (first
              | ((with_reducible refine atWorld wr ?_); refine wpList_allocRow (w := wr) p9Ty rfl rfl ?_; (intro w1 b1 B1 s1; have b1 := Lib.hid b1; replace s1 := Lib.hid s1))
              | ((with_reducible refine atWorld w1 ?_); refine wpList_storeRow (w := w1) p9Ty rfl (.tmp 11) (.tmp 63) rfl wr.heap.size (p9Cells m) p9Z rfl rfl rfl rfl (p9_one m) b1.out ?_; (intro w2 b2 B2 s2 k2; have B12 : Below wr.heap.size wr w2 := B1.trans B2; have r2 := Lib.hid (R0.out w2 B12 b2); have d2 := HDS.out _ _ _ _ _ _ _ HI.out.duo B12; have HB2 := Lib.hid B12; obtain ⟨x0, x1, x2, x3, x4, x5⟩ := p9_cells b2; obtain ⟨t2, v2⟩ := HX.out _ _ _ _ r2.out; clear b1 B1 s1 B2 k2 b2 s2 B12)))
            go_ret
            exact ⟨rfl, r2.out.below⟩
          · have i1 : ¬ (40 : Int) < (m.d.length : Int) := by omega
            clear hbad
            by_cases hin : 0 ≤ m.blk ∧ m.blk < (j : Int)
            · obtain ⟨b0, b1⟩ := hin
              have b2 : decide ((0 : Int) ≤ m.blk) = true := by simp; omega
              obtain ⟨a, hma⟩ : ∃ a : Nat, m.blk = (a : Int) := ⟨m.blk.toNat, by omega⟩
              have haj : a < j := by omega
              have HAJ := Lib.hid haj
              by_cases h32 : m.d.length = 32
              · have i2 : ((m.d.length : Int) == 32) = true := by simp [h32]
                have zput : ∀ w2, Duo At SAt w2 b g0 H S ⟨0, j, N, false⟩ → TabAt w2 → Aside H w2 m.A m.d → _ := fun w2 d2 t2 v2 => calm_put T d2 HI.out.calm a haj (by have := HI.out.Nk; omega) m.A m.d m.d.length m.cb rfl h32 t2 (by have := HI.out.ops; omega) v2
                have hwN : IntKind.i64.wrap ((N : Int) + 1) = ((N + 1 : Nat) : Int) := by rw [IntWalk.i64_in _ (by have := HI.out.Nk; omega)]; omega
                have hax : Hid ((a : Int) = m.blk) := Lib.hid hma.symm
                rw [hma] at b0 b1 b2
                clear hma h32
                go_wp2_with (first
                  | ((with_reducible refine atWorld wr ?_); refine wpList_allocRow (w := wr) p9Ty rfl rfl ?_; (intro w1 b1 B1 s1; have b1 := Lib.hid b1; replace s1 := Lib.hid s1))
                  | ((with_reducible refine atWorld w1 ?_); refine wpList_storeRow (w := w1) p9Ty rfl (.tmp 11) (.tmp 63) rfl wr.heap.size (p9Cells m) p9Z rfl rfl rfl rfl (p9_one m) b1.out ?_; (intro w2 b2 B2 s2 k2; have B12 : Below wr.heap.size wr w2 := B1.trans B2; have r2 := Lib.hid (R0.out w2 B12 b2); have d2 := HDS.out _ _ _ _ _ _ _ HI.out.duo B12; have HB2 := Lib.hid B12; obtain ⟨x0, x1, x2, x3, x4, x5⟩ := p9_cells b2; rw [← hax.out] at x0; obtain ⟨t2, v2⟩ := HX.out _ _ _ _ r2.out; clear b1 B1 s1 B2 k2 b2 s2 B12))
                  | (go_at_call 13; first
                    | ((with_reducible refine (znum w2 H S N d2).mono ?_); (rintro e w3 ⟨rfl, B3⟩; have r3 := Lib.hid (r2.out.step B3); have d3 := HDS.out _ _ _ _ _ _ _ d2 B3; obtain ⟨z0, z1, z2, z3, z4, z5⟩ := p9_cells r3.out.x; rw [← hax.out] at z0; obtain ⟨t3, v3⟩ := HX.out _ _ _ _ r3.out))
                    | ((with_reducible refine (znum w5 H4 S4 (N + 1) d5).mono ?_); (rintro e w6 ⟨rfl, B6⟩; have r6 := Lib.hid (r5.out.step B6); have d6 := HDS.out _ _ _ _ _ _ _ d5 B6)))
                  | (go_at_call 11; refine (zput w3 d3 t3 v3).mono ?_; (rintro e w4 ⟨H4, S4, rfl, d4, C4, o4, _, K4⟩; have r4 := Lib.hid (r3.out.keep K4); obtain ⟨q0, q1, q2, q3, q4, q5⟩ := p9_cells r4.out.x; rw [← hax.out] at q0; obtain ⟨t4, v4⟩ := HX.out _ _ _ _ r4.out; obtain ⟨vs, hvl, hvb⟩ := r4.out.has.row; have HV := Lib.hid (And.intro hvb hvl); have HO4 := Lib.hid (And.intro C4 o4); clear hvb hvl C4 o4))
                  | ((with_reducible refine atWorld w4 ?_); refine wpList_storeCell (w := w4) rfl 22 (.tmp 105) (.tmp 104) rfl (.slice m.A m.d.length m.cb) rfl rfl HV.out.1 (by rw [HV.out.2]; exact HAJ.out) sizeBB rfl ?_; (intro w5 b5 B5 s5 k5; have d5 := HDE.out _ _ _ _ _ _ _ q d4 r4.out.has.nq s5 k5; have r5 := Lib.hid (r4.out.set HAJ.out v4 (arg_low mb.out) HV.out.1 b5 B5 s5 k5); clear b5 B5 s5 k5)))
                go_roundw
                case rel => exact ⟨k + 1, N + 1, H4, S4, DS.upd f a m.d, by go_num, by omega, by omega, ⟨d6, HO4.out.1, r6.out.has, by have := HI.out.Nk; omega, by have := HI.out.ops; have := HO4.out.2; omega, r6.out.far, HI.out.gq, r6.out.below⟩⟩
                case measure => simp [vN9]; omega
              · have i2 : ((m.d.length : Int) == 32) = false := by simp; omega
                have zput : ∀ w2, Duo At SAt w2 b g0 H S ⟨0, j, N, false⟩ → TabAt w2 → Aside H w2 m.A m.d → _ := fun w2 d2 t2 v2 => duo_put T d2 m.blk m.A m.d m.cb t2 (by have := HI.out.ops; omega) v2
                obtain ⟨e1, e2⟩ := St.put_arg (N := N) (n := j) ho (b := m.blk) (d := m.d) (by omega) h32
                rw [e1, e2] at zput
                clear hma h32 e1 e2
                go_wp2_with (first
                  | ((with_reducible refine atWorld wr ?_); refine wpList_allocRow (w := wr) p9Ty rfl rfl ?_; (intro w1 b1 B1 s1; have b1 := Lib.hid b1; replace s1 := Lib.hid s1))
                  | ((with_reducible refine atWorld w1 ?_); refine wpList_storeRow (w := w1) p9Ty rfl (.tmp 11) (.tmp 63) rfl wr.heap.size (p9Cells m) p9Z rfl rfl rfl rfl (p9_one m) b1.out ?_; (intro w2 b2 B2 s2 k2; have B12 : Below wr.heap.size wr w2 := B1.trans B2; have r2 := Lib.hid (R0.out w2 B12 b2); have d2 := HDS.out _ _ _ _ _ _ _ HI.out.duo B12; have HB2 := Lib.hid B12; obtain ⟨x0, x1, x2, x3, x4, x5⟩ := p9_cells b2; obtain ⟨t2, v2⟩ := HX.out _ _ _ _ r2.out; clear b1 B1 s1 B2 k2 b2 s2 B12))
                  | (go_at_call 13; first
                    | ((with_reducible refine (znum w2 H S N d2).mono ?_); (rintro e w3 ⟨rfl, B3⟩; have r3 := Lib.hid (r2.out.step B3); have d3 := HDS.out _ _ _ _ _ _ _ d2 B3; obtain ⟨z0, z1, z2, z3, z4, z5⟩ := p9_cells r3.out.x; obtain ⟨t3, v3⟩ := HX.out _ _ _ _ r3.out))
                    | ((with_reducible refine (znum w4 H4 S N d4).mono ?_); (rintro e w6 ⟨rfl, B6⟩; have r6 := Lib.hid (r4.out.step B6); have d6 := HDS.out _ _ _ _ _ _ _ d4 B6)))
                  | (go_at_call 11; refine (zput w3 d3 t3 v3).mono ?_; (rintro e w4 ⟨H4, rfl, d4, K4⟩; have r4 := Lib.hid (r3.out.keep K4); obtain ⟨q0, q1, q2, q3, q4, q5⟩ := p9_cells r4.out.x)))
                go_roundw
                case rel => exact ⟨k + 1, N, H4, S, f, by go_num, by omega, by omega, ⟨d6, HI.out.calm, r6.out.has, by have := HI.out.Nk; omega, by have := HI.out.ops; omega, r6.out.far, HI.out.gq, r6.out.below⟩⟩
                case measure => simp [vN9]; omega
            · have e12 := St.put_range (N := N) (n := j) ho (b := m.blk) (d := m.d) (by omega)
              obtain ⟨e1, e2⟩ := e12
              have zput : ∀ w2, Duo At SAt w2 b g0 H S ⟨0, j, N, false⟩ → TabAt w2 → Aside H w2 m.A m.d → _ := fun w2 d2 t2 v2 => duo_put T d2 m.blk m.A m.d m.cb t2 (by have := HI.out.ops; omega) v2
              rw [e1, e2] at zput
              clear e1 e2
              by_cases b0 : 0 ≤ m.blk
              · have b1 : ¬ m.blk < (j : Int) := by omega
                have b2 : decide ((0 : Int) ≤ m.blk) = true := by simp; omega
                have b3 : decide (m.blk < (j : Int)) = false := by simp; omega
                clear hin
                go_wp2_with (first
                  | ((with_reducible refine atWorld wr ?_); refine wpList_allocRow (w := wr) p9Ty rfl rfl ?_; (intro w1 b1 B1 s1; have b1 := Lib.hid b1; replace s1 := Lib.hid s1))
                  | ((with_reducible refine atWorld w1 ?_); refine wpList_storeRow (w := w1) p9Ty rfl (.tmp 11) (.tmp 63) rfl wr.heap.size (p9Cells m) p9Z rfl rfl rfl rfl (p9_one m) b1.out ?_; (intro w2 b2 B2 s2 k2; have B12 : Below wr.heap.size wr w2 := B1.trans B2; have r2 := Lib.hid (R0.out w2 B12 b2); have d2 := HDS.out _ _ _ _ _ _ _ HI.out.duo B12; have HB2 := Lib.hid B12; obtain ⟨x0, x1, x2, x3, x4, x5⟩ := p9_cells b2; obtain ⟨t2, v2⟩ := HX.out _ _ _ _ r2.out; clear b1 B1 s1 B2 k2 b2 s2 B12))
                  | (go_at_call 13; first
                    | ((with_reducible refine (znum w2 H S N d2).mono ?_); (rintro e w3 ⟨rfl, B3⟩; have r3 := Lib.hid (r2.out.step B3); have d3 := HDS.out _ _ _ _ _ _ _ d2 B3; obtain ⟨z0, z1, z2, z3, z4, z5⟩ := p9_cells r3.out.x; obtain ⟨t3, v3⟩ := HX.out _ _ _ _ r3.out))
                    | ((with_reducible refine (znum w4 H4 S N d4).mono ?_); (rintro e w6 ⟨rfl, B6⟩; have r6 := Lib.hid (r4.out.step B6); have d6 := HDS.out _ _ _ _ _ _ _ d4 B6)))
                  | (go_at_call 11; refine (zput w3 d3 t3 v3).mono ?_; (rintro e w4 ⟨H4, rfl, d4, K4⟩; have r4 := Lib.hid (r3.out.keep K4); obtain ⟨q0, q1, q2, q3, q4, q5⟩ := p9_cells r4.out.x)))
                go_roundw
                case rel => exact ⟨k + 1, N, H4, S, f, by go_num, by omega, by omega, ⟨d6, HI.out.calm, r6.out.has, by have := HI.out.Nk; omega, by have := HI.out.ops; omega, r6.out.far, HI.out.gq, r6.out.below⟩⟩
                case measure => simp [vN9]; omega
              · have b2 : decide ((0 : Int) ≤ m.blk) = false := by simp; omega
                clear hin
                go_wp2_with (first
                  | ((with_reducible refine atWorld wr ?_); refine wpList_allocRow (w := wr) p9Ty rfl rfl ?_; (intro w1 b1 B1 s1; have b1 := Lib.hid b1; replace s1 := Lib.hid s1))
                  | ((with_reducible refine atWorld w1 ?_); refine wpList_storeRow (w := w1) p9Ty rfl (.tmp 11) (.tmp 63) rfl wr.heap.size (p9Cells m) p9Z rfl rfl rfl rfl (p9_one m) b1.out ?_; (intro w2 b2 B2 s2 k2; have B12 : Below wr.heap.size wr w2 := B1.trans B2; have r2 := Lib.hid (R0.out w2 B12 b2); have d2 := HDS.out _ _ _ _ _ _ _ HI.out.duo B12; have HB2 := Lib.hid B12; obtain ⟨x0, x1, x2, x3, x4, x5⟩ := p9_cells b2; obtain ⟨t2, v2⟩ := HX.out _ _ _ _ r2.out; clear b1 B1 s1 B2 k2 b2 s2 B12))
                  | (go_at_call 13; first
                    | ((with_reducible refine (znum w2 H S N d2).mono ?_); (rintro e w3 ⟨rfl, B3⟩; have r3 := Lib.hid (r2.out.step B3); have d3 := HDS.out _ _ _ _ _ _ _ d2 B3; obtain ⟨z0, z1, z2, z3, z4, z5⟩ := p9_cells r3.out.x; obtain ⟨t3, v3⟩ := HX.out _ _ _ _ r3.out))
                    | ((with_reducible refine (znum w4 H4 S N d4).mono ?_); (rintro e w6 ⟨rfl, B6⟩; have r6 := Lib.hid (r4.out.step B6); have d6 := HDS.out _ _ _ _ _ _ _ d4 B6)))
                  | (go_at_call 11; refine (zput w3 d3 t3 v3).mono ?_; (rintro e w4 ⟨H4, rfl, d4, K4⟩; have r4 := Lib.hid (r3.out.keep K4); obtain ⟨q0, q1, q2, q3, q4, q5⟩ := p9_cells r4.out.x)))
                go_roundw
                case rel => exact ⟨k + 1, N, H4, S, f, by go_num, by omega, by omega, ⟨d6, HI.out.calm, r6.out.has, by have := HI.out.Nk; omega, by have := HI.out.ops; omega, r6.out.far, HI.out.gq, r6.out.below⟩⟩
                case measure => simp [vN9]; omega
        · have hcase : (¬ (k : Int) < (len : Int)) ∨ ((k : Int) < (len : Int) ∧ ¬ (k : Int) < 30) := by omega
          obtain ⟨duo_, calm_, has_, Nk_, ops_, far_, gq_, below_⟩ := inv
          have HC := Lib.hid (And.intro calm_ gq_)
          have TX : Hid (∀ w', Below w.heap.size w w' → TabAt w') := Lib.hid fun w' h => HT.out.below h (Nat.le_refl _)
          have HB := Lib.hid (And.intro below_ (And.intro far_ has_))
          have zo1 : ∀ w, Duo At SAt w b g0 H S ⟨0, j, N, false⟩ → _ := fun w h => duo_ops (w := w) D h (by omega)
          have zop : ∀ w, Duo At SAt w b g0 H S ⟨0, j, N, false⟩ → TabAt w → _ := fun w h t => trio_open T h calm_ t (by omega)
          have zo2 : ∀ w g2 H, Trio At SAt w b g0 g2 H S ⟨0, j, N, false⟩ ⟨0, j, N, false⟩ → _ := fun w g2 H h => trio_ops (w := w) (H := H) D h (by omega)
          have zn1 : ∀ w g2 H, Trio At SAt w b g0 g2 H S ⟨0, j, N, false⟩ ⟨0, j, N, false⟩ → _ := fun w g2 H h => trio_number (w := w) (H := H) T h
          have zn2 : ∀ w g2 H, Trio At SAt w b g0 g2 H S ⟨0, j, N, false⟩ ⟨0, j, N, false⟩ → _ := fun w g2 H h => trio_number (w := w) (H := H) T h.swap
          have zb2 : ∀ w g2 H, Trio At SAt w b g0 g2 H S ⟨0, j, N, false⟩ ⟨0, j, N, false⟩ → _ := fun w g2 H h => trio_blocks (w := w) (H := H) T h.swap
          have HST : Hid (∀ w w' g2 H, Trio At SAt w b g0 g2 H S ⟨0, j, N, false⟩ ⟨0, j, N, false⟩ → Below w.heap.size w w' → Trio At SAt w' b g0 g2 H S ⟨0, j, N, false⟩ ⟨0, j, N, false⟩) := Lib.hid fun w w' g2 H h B => Trio.step D T h B
          have zg1 : ∀ w g2 H i A c, Trio At SAt w b g0 g2 H S ⟨0, j, N, false⟩ ⟨0, j, N, false⟩ → i < j → TabAt w → Aside H w A (f i) → _ := fun w g2 H i A c h hi t r => trio_gets (w := w) (H := H) D T h calm_ i hi A (f i) c t r rfl
          have zg2 : ∀ w g2 H i A c, Trio At SAt w b g0 g2 H S ⟨0, j, N, false⟩ ⟨0, j, N, false⟩ → i < j → TabAt w → Aside H w A (f i) → Calls Tryd.prog 20 #[.pointer (some ⟨g2, 0, none⟩), .int .i64 (i : Int), .slice A (f i).length c] w fun e w' => ∃ H', e = .returned (.bool true) ∧ Trio At SAt w' b g0 g2 H' S ⟨0, j, N, false⟩ ⟨0, j, N, false⟩ ∧ Keep H w H' w' := fun w g2 H i A c h hi t r => (trio_gets (w := w) (H := H) D T h.swap calm_ i hi A (f i) c t r rfl).mono fun e w' ⟨H', a1, a2, a3⟩ => ⟨H', a1, a2.swap, a3⟩
          have ho := calm_.q.out
          have zr1 : ∀ w g2 H i, Trio At SAt w b g0 g2 H S ⟨0, j, N, false⟩ ⟨0, j, N, false⟩ → (i < 0 ∨ (j : Int) ≤ i) → TabAt w → Calls Tryd.prog 9 #[.pointer (some ⟨g0, 0, none⟩), .int .i64 i] w fun e w' => ∃ A c H', e = .returned (.tuple #[.slice A 0 c, .int .i64 5]) ∧ Trio At SAt w' b g0 g2 H' S ⟨0, j, N, false⟩ ⟨0, j, N, false⟩ ∧ Keep H w H' w' := by
            intro w g2 H i h hi t
            obtain ⟨e1, e2, e3⟩ := St.get_range (n := j) (N := N) ho hi
            have z := trio_get D T h i t
            rw [e1, e2, e3] at z
            exact z.mono fun e w' ⟨A, c, H', a1, _, a3, a4⟩ => ⟨A, c, H', a1, a3, a4⟩
          have e1 : ((S.ops : Int) != (S.ops : Int)) = false := by simp
          have e2 : ((N : Int) != (N : Int)) = false := by simp
          have e3 : ((j : Int) != (j : Int)) = false := by simp
          clear calm_ has_ Nk_ ops_ far_ gq_ below_ ho hgo
          rcases hcase with h1 | ⟨h1, h2⟩
          all_goals
            go_wp2_with (first
              | (go_at_call 25; first
                | ((with_reducible refine (zo1 wr duo_).mono ?_); (rintro e w1 ⟨rfl, B1⟩; have d1 := HDS.out _ _ _ _ _ _ _ duo_ B1; have C1 := step_trans HB.out.1 B1; have t1 := TX.out _ C1; have x1 := HB.out.2.2.step B1))
                | ((with_reducible refine (zo2 w2 g2 H2 d2).mono ?_); (rintro e w3 ⟨rfl, B3⟩; have d3 := HST.out _ _ _ _ d2 B3; have C3 := step_trans C2 B3; have x3 := x2.step B3)))
              | (go_at_call 10; refine (zop w1 d1 t1).mono ?_; (rintro e w2 ⟨g2, H2, A2, c2, rfl, d2, K2⟩; obtain ⟨C2, n2⟩ := chg_go C1 HB.out.2.1 K2.own K2.fr; have x2 := x1.keep K2))
              | (go_at_call 13; first
                | ((with_reducible refine (zn2 w3 g2 H2 d3).mono ?_); (rintro e w4 ⟨rfl, B4⟩; have d4 := HST.out _ _ _ _ d3 B4; have C4 := step_trans C3 B4; have x4 := x3.step B4))
                | ((with_reducible refine (zn1 w4 g2 H2 d4).mono ?_); (rintro e w5 ⟨rfl, B5⟩; have d5 := HST.out _ _ _ _ d4 B5; have C5 := step_trans C4 B5; have x5 := x4.step B5)))
              | (go_at_call 12; refine (zb2 w5 g2 H2 d5).mono ?_; (rintro e w6 ⟨rfl, B6⟩; have d6 := HST.out _ _ _ _ d5 B6; have C6 := step_trans C5 B6; have x6 := x5.step B6)))
            go_loopw [19] (fun ix wz => ∃ i H9, ix = .int .i64 ((i : Nat) : Int) ∧ i ≤ j ∧ Trio At SAt wz b g0 g2 H9 S ⟨0, j, N, false⟩ ⟨0, j, N, false⟩ ∧ HasAt H9 wz q j f ∧ (∀ x, H9 x → w.heap.size ≤ x) ∧ Below w.heap.size w wz) (fun ix _ => j - vN9 ix)
            case atStart => exact ⟨0, _, rfl, Nat.zero_le _, d6, x6, n2, C6⟩
            case round =>
              obtain ⟨i, H9, rfl, hij, d9, x9, n9, C9⟩ := hrel
              by_cases hi : i < j
              · have hi' : (i : Int) < (j : Int) := by omega
                have hi0 : (0 : Int) ≤ (i : Int) := by omega
                have hwi : IntKind.i64.wrap ((i : Int) + 1) = (i : Int) + 1 := IntWalk.i64_in _ (by have := HN.out; omega)
                obtain ⟨A9, c9, e9, a9⟩ := x9.at_ hi
                have t9 := TX.out _ C9
                have zz := zg1 wr g2 H9 i A9 c9 d9 hi t9 a9
                have HI9 := Lib.hid hi
                go_wp2_with (go_at_call 20; first
                  | ((with_reducible refine zz.mono ?_); (rintro e w10 ⟨H10, rfl, d10, K10⟩; obtain ⟨C10, n10⟩ := chg_go C9 n9 K10.own K10.fr; have x10 := x9.keep K10; have t10 := TX.out _ C10; obtain ⟨A10, c10, e10, a10⟩ := x10.at_ HI9.out))
                  | ((with_reducible refine (zg2 w10 g2 H10 i A10 c10 d10 HI9.out t10 a10).mono ?_); (rintro e w11 ⟨H11, rfl, d11, K11⟩; obtain ⟨C11, n11⟩ := chg_go C10 n10 K11.own K11.fr; have x11 := x10.keep K11)))
                go_roundw
                case rel => exact ⟨i + 1, H11, by go_num, by omega, d11, x11, n11, C11⟩
                case measure => simp [vN9]; omega
              · obtain rfl : i = j := by omega
                have hi' : ¬ (i : Int) < (i : Int) := by omega
                have t9 := TX.out _ C9
                have y1 := zr1 wr g2 H9 i d9 (.inr (Int.le_refl _)) t9
                have y2 := fun w H d t => zr1 w g2 H (-1) d (.inl (by decide)) t
                go_wp2_with (go_at_call 9; first
                  | ((with_reducible refine y1.mono ?_); (rintro e w10 ⟨A10, c10, H10, rfl, d10, K10⟩; obtain ⟨C10, n10⟩ := chg_go C9 n9 K10.own K10.fr; have t10 := TX.out _ C10))
                  | ((with_reducible refine (y2 w10 H10 d10 t10).mono ?_); (rintro e w11 ⟨A11, c11, H11, rfl, d11, K11⟩; obtain ⟨C11, n11⟩ := chg_go C10 n10 K11.own K11.fr)))
                go_ret
                exact ⟨rfl, C11⟩
end
end Go.Proofs.YtlchpolheciadaaDoor
