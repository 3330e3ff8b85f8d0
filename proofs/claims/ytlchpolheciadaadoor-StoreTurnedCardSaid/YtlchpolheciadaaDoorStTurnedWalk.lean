/-
  The walk of StoreTurned. Conditions: a disk's methods and a store's do what the document says; the table of crc lies as the program's text lays it; what came in can be read.
-/
import Derived.Test.YtlchpolheciadaaDoorStTurns
import Derived.Test.YtlchpolheciadaaDoorStAwake
import Derived.Test.YtlchpolheciadaaDoorBa
namespace Go.Proofs.YtlchpolheciadaaDoor
open Go.RowKit Fix

/-- what holds between two Puts that don't stop -/
structure E9 (At : World → Nat → (Nat → Prop) → DS → Prop) (SAt : World → Nat → (Nat → Prop) → Nat → StM → Prop) (w wr : World) (b g q n N : Nat) (H : Nat → Prop) (S : DS) (f : Nat → List UInt8) (k : Nat) : Prop where
  duo : Duo At SAt wr b g H S ⟨0, n, N, false⟩
  even : St.Even S n N f
  has : HasAt H wr q n f
  Nk : N ≤ k + 1
  ops : S.ops ≤ 100 + 20 * k
  far : ∀ x, H x → w.heap.size ≤ x
  gq : w.heap.size ≤ q
  below : Below w.heap.size w wr
theorem even_len {S : DS} {n N : Nat} {f : Nat → List UInt8} (g : St.Even S n N f) (i : Nat) (hi : i ≤ n) : (S.firm i).length = 64 := by
  rcases Nat.eq_zero_or_pos i with e | e
  · rw [e]; exact g.c.jl
  · obtain ⟨k, _, _, h3⟩ := g.c.blk (i - 1) (by omega)
    rw [show i - 1 + 1 = i by omega] at h3
    rw [h3]
    exact Blk.sect_length _ k _ (g.c.dl _ (by omega))
/-- a row of the call's own lies beside whatever is elder -/
theorem own_aside {E : TypeId} {H : Nat → Prop} {w : World} {base : Nat} {v : Value} {xs : List Value} (h : OwnR E w base v xs) (hl : ∀ x, H x → x < base) : ∃ A c, v = .slice A xs.length c ∧ AsideR H w A xs := by
  obtain ⟨A, c, e, _, _⟩ := h.form
  subst e
  refine ⟨A, c, rfl, h.row, fun hne ad e => ?_⟩
  have h2 := h.lt ad.block (by rw [e]; rfl)
  exact ⟨h2.2, fun x => by have := hl _ x; omega⟩
/-- bytes beside a grown row -/
theorem BytesAt.grown {w w' : World} {A : Option Addr} {l : List UInt8} {r : Option Nat} (h : BytesAt w w.heap.size A l) (hg : w.grownBy w' r) (hr : ∀ ad, A = some ad → r ≠ some ad.block) : BytesAt w' w'.heap.size A l := fun hne => by
  obtain ⟨ad, e, hb, hc⟩ := h hne
  refine ⟨ad, e, Nat.lt_of_lt_of_le hb hg.size, fun k hk => ?_⟩
  rw [← hc k hk]
  exact hg.cell_far _ (by rw [block_add]; exact hb) (by rw [block_add]; exact fun x => hr ad e x.symm)
theorem turn_quiet {S : DS} {n a c : Nat} (hq : S.Quiet) (hn : S.n = n + 1) (hl : ∀ i, i ≤ n → (S.firm i).length = 64) (ha : a ≤ n) (hc : c < 64) (m : UInt8) :
    ∃ T, S.turn (a : Int) (c : Int) m = (T, 0) ∧ T.Quiet ∧ T.n = n + 1 ∧ T.ops = S.ops ∧ ∀ i, i ≤ n → (T.firm i).length = 64 := by
  refine ⟨{ S with firm := DS.upd S.firm a ((S.firm a).set c ((S.firm a).getD c 0 ^^^ m)) }, by unfold DS.turn; rw [if_pos ⟨by simp [DS.there]; omega, by omega, by omega⟩]; rfl, ⟨hq.out, hq.left, hq.loose⟩, hn, rfl, fun i hi => ?_⟩
  show (DS.upd S.firm a ((S.firm a).set c ((S.firm a).getD c 0 ^^^ m)) i).length = 64
  unfold DS.upd
  by_cases e : i = a
  · rw [if_pos e, List.length_set]; exact hl a ha
  · rw [if_neg e]; exact hl i hi
/-- what holds while bytes are turned -/
structure V9 (At : World → Nat → (Nat → Prop) → DS → Prop) (SAt : World → Nat → (Nat → Prop) → Nat → StM → Prop) (w wr : World) (b g q n N : Nat) (H : Nat → Prop) (S : DS) (f : Nat → List UInt8) (A : Option Addr) (ls : Nat → List UInt8) (ops : Nat) : Prop where
  duo : Duo At SAt wr b g H S ⟨0, n, N, false⟩
  quiet : S.Quiet
  sn : S.n = n + 1
  len : ∀ i, i ≤ n → (S.firm i).length = 64
  ops : S.ops = ops
  has : HasAt H wr q n f
  was : WasAt H wr A (n + 1) ls
  far : ∀ x, H x → w.heap.size ≤ x
  below : Below w.heap.size w wr
section
variable {At : World → Nat → (Nat → Prop) → DS → Prop} {SAt : World → Nat → (Nat → Prop) → Nat → StM → Prop} (D : Disks Tryd.prog At) (T : Stores At SAt)
include D T
omit D in
/-- a disk whose bytes were turned, opened -/
theorem worn_open {w : World} {b g : Nat} {H : Nat → Prop} {S : DS} {s : StM} {n N : Nat} {f : Nat → List UInt8} (h : Duo At SAt w b g H S s) (W : St.Worn S n N f) (ht : TabAt w) (ho : S.ops ≤ 1000) : Calls Tryd.prog 10 #[.pointer (some ⟨b, 0, none⟩), .int .i64 0, .int .i64 (n : Int)] w fun e w' =>
    ∃ g' H' A c M U m, m = (St.bads U 0 n).length ∧ M ≤ N ∧ e = .returned (.tuple #[.pointer (some ⟨g', 0, none⟩), .slice A m c, .int .i64 0]) ∧ Duo At SAt w' b g' H' U ⟨0, n, M, false⟩ ∧ St.Worn U n N f ∧ U.ops ≤ 1002 ∧ AsideR H' w' A (iv (St.bads U 0 n)) ∧ Keep H w H' w' := by
  obtain ⟨F, G, a1, a2, a3, a4⟩ := h
  obtain ⟨M, hM, o1, o2, o3⟩ := W.open_
  have o4 := St.ops_open S 0 n
  refine (T.open_ w b F S 0 n ht a1 (by omega)).mono fun en w' h => ?_
  obtain ⟨g', H', A, c, e1, e2, e3, e4, _, e6⟩ := h.yes o1
  rw [Int.toNat_natCast] at e1 e4 e6
  rw [o3] at e2
  exact ⟨g', H', A, c, M, _, _, rfl, hM, e1, e2, o2, by omega, asideR_new e4 fun ad e hl => (e6 ad e fun x => hl (by rw [x]; rfl)).2, e3.fr.mono fun k hk => (a4 k).2 (.inl hk), fun k hk => (e3.own k hk).imp (fun x => (a4 k).2 (.inl x)) id⟩
omit D in
theorem worn_put {w : World} {b g : Nat} {H : Nat → Prop} {S : DS} {n N M : Nat} {f : Nat → List UInt8} (h : Duo At SAt w b g H S ⟨0, n, M, false⟩) (W : St.Worn S n N f) (hM : M ≤ N) (hN : N ≤ 1000) (i : Nat) (hi : i < n) (x : UInt8) (A : Option Addr) (ht : TabAt w) (ho : S.ops ≤ 2000) (hr : Aside H w A (b32 x)) :
    Calls Tryd.prog 11 #[.pointer (some ⟨g, 0, none⟩), .int .i64 (i : Int), .slice A 32 32] w fun e w' => ∃ H' U, e = .returned (.int .i64 0) ∧ Duo At SAt w' b g H' U ⟨0, n, M + 1, false⟩ ∧ St.Worn U n (N + 1) (DS.upd f i (b32 x)) ∧ U.ops = S.ops + 4 ∧ Blk.right (i : Nat) (U.firm (i + 1)) = true ∧ Keep H w H' w' := by
  have z := duo_put T h (i : Int) A (b32 x) 32 ht (by omega) hr
  obtain ⟨U, p1, p2, p3, p4, p5⟩ := W.put hM hi (b32_length x) (by omega)
  rw [p1, p4, b32_length] at z
  exact z.mono fun e w' ⟨H', a1, a2, a3⟩ => ⟨H', U, a1, a2, p2, p3, p5, a3⟩
theorem worn_gets {w : World} {b g : Nat} {H : Nat → Prop} {S : DS} {n N M : Nat} {f : Nat → List UInt8} (h : Duo At SAt w b g H S ⟨0, n, M, false⟩) (i : Nat) (hi : i < n) (x : UInt8) (W : St.Worn S n N (DS.upd f i (b32 x))) (hb : Blk.right (i : Nat) (S.firm (i + 1)) = true) (A : Option Addr) (ht : TabAt w) (hr : Aside H w A (b32 x)) :
    Calls Tryd.prog 20 #[.pointer (some ⟨g, 0, none⟩), .int .i64 (i : Int), .slice A 32 32] w fun e w' => ∃ H', e = .returned (.bool true) ∧ Duo At SAt w' b g H' S ⟨0, n, M, false⟩ ∧ Keep H w H' w' := by
  have z := gets_any D T w b g H S ⟨0, n, M, false⟩ i A (b32 x) 32 32 (b32_length x) ht h hr
  obtain ⟨e1, e2⟩ := W.get (M := M) hi
  rw [if_pos hb] at e1 e2
  rw [e1, e2, St.get_still W.q.out, show DS.upd f i (b32 x) i = b32 x by simp [DS.upd], beq_self_eq_true, Bool.true_and, beq_self_eq_true] at z
  exact z
/-- what holds while the last Puts are made -/
structure L9 (At : World → Nat → (Nat → Prop) → DS → Prop) (SAt : World → Nat → (Nat → Prop) → Nat → StM → Prop) (w wr : World) (b g n k N : Nat) (H : Nat → Prop) (S : DS) (M : Nat) (f : Nat → List UInt8) : Prop where
  duo : Duo At SAt wr b g H S ⟨0, n, M, false⟩
  worn : St.Worn S n N f
  MN : M ≤ N
  Nk : N ≤ 20 + k
  ops : S.ops ≤ 1002 + 4 * k
  far : ∀ x, H x → w.heap.size ≤ x
  below : Below w.heap.size w wr
set_option maxRecDepth 100000 in
set_option maxHeartbeats 16000000 in
theorem storeTurned_any (x : Int) (hx1 : -9223372036854775808 ≤ x) (hx2 : x ≤ 9223372036854775807) (A0 : Option Addr) (l : List P9M) (c0 : Nat) (w : World) (ht : TabAt w) (hA : P9sAt w w.heap.size A0 l) (A7 : Option Addr) (l7 : List T9M) (c7 : Nat) (hA7 : T9sAt w w.heap.size A7 l7) :
    Calls Tryd.prog 5 #[.int .i64 x, .slice A0 l.length c0, .slice A7 l7.length c7] w fun e w' => e = .returned (.bool true) ∧ Below w.heap.size w w' := by
  have zw := fun w t => awake9_any D T w t
  obtain ⟨a, ha⟩ : ∃ a : Nat, x % 8 = (a : Int) := ⟨(x % 8).toNat, by omega⟩
  have zp := fun w : World => pick_any x 8 w hx1 hx2 (by decide) (by decide)
  rw [ha] at zp
  have ha8 : a < 8 := by omega
  obtain ⟨n, hn⟩ : ∃ n, n = a + 1 := ⟨_, rfl⟩
  have hn1 : 1 ≤ n := by omega
  have hn8 : n ≤ 8 := by omega
  have hwn : IntKind.i64.wrap (1 + (a : Int)) = (n : Int) := by rw [IntWalk.i64_in _ (by omega)]; omega
  have zm := fun w t => made_any D T n hn1 (by omega) w t
  unfold MadePost at zm
  have hmk : ∀ W : World, (Instr.makeSlice 53 (.int .i64 (n : Int)) (.int .i64 (n : Int))).run Tryd.prog W = .ok (.slice (some ⟨W.heap.size, 0, none⟩) n n) (W.alloc (bbO n)) := makeBB n (by omega)
  have zof : ∀ w, Calls _ _ _ w (Of9Post 0 w) := fun w : World => of9_any 0 w
  unfold Of9Post at zof
  rw [show (((0 : UInt8).toNat : Nat) : Int) = 0 from rfl] at zof
  obtain ⟨len, hlen⟩ : ∃ n, n = l.length := ⟨_, rfl⟩
  rw [← hlen]
  obtain ⟨tlen, htlen⟩ : ∃ n, n = l7.length := ⟨_, rfl⟩
  rw [← htlen]
  have HA7 := Lib.hid (And.intro hA7 htlen)
  have HA := Lib.hid (And.intro hA hlen)
  have HT := Lib.hid ht
  have HDL : Hid (∀ w b g H S s, Duo At SAt w b g H S s → ∀ k, H k → k < w.heap.size) := Lib.hid fun w b g H S s h => Duo.lt D T h
  have HDS : Hid (∀ w w' b g H S s, Duo At SAt w b g H S s → Below w.heap.size w w' → Duo At SAt w' b g H S s) := Lib.hid fun w w' b g H S s h B => Duo.step D T h B
  have HDE : Hid (∀ w w' b g H S s q, Duo At SAt w b g H S s → ¬ H q → w'.heap.size = w.heap.size → (∀ j, j ≠ q → w'.heap[j]? = w.heap[j]?) → Duo At SAt w' b g H S s) := Lib.hid fun w w' b g H S s q h hq hs ho => Duo.keep D T h (Nat.le_of_eq hs.symm) fun k hk => ho k fun e => hq (e ▸ hk)
  have HN := Lib.hid (And.intro hn1 hn8)
  clear hA hlen ha hn ha8 hx1 hx2 hA7 htlen
  have hcut : (10 < len ∨ 20 < tlen) ∨ (len ≤ 10 ∧ tlen ≤ 20) := by omega
  rcases hcut with hbig | ⟨hl10, ht20⟩
  · have hb1 : (10 : Int) < (len : Int) ∨ (¬ (10 : Int) < (len : Int) ∧ (20 : Int) < (tlen : Int)) := by omega
    clear hbig
    rcases hb1 with hb1 | ⟨hb1, hb2⟩
    all_goals
      go_enter Tryd.func5, Tryd.ntmps5
      go_wp2_with (first
        | (go_at_call 8; refine (zw w ht).mono ?_; (rintro e w1 ⟨rfl, B1⟩; have t1 := HT.out.below B1 (Nat.le_refl _)))
        | (go_at_call 15; refine (zp w1).mono ?_; (rintro e w1' ⟨rfl, rfl⟩))
        | (go_at_call 16; refine (zm w1 t1).mono ?_; (rintro e w2 ⟨b, g0, H0, S0, rfl, d2, C2, o2, _, n2, B2⟩)))
      go_ret
      exact ⟨rfl, step_trans B1 B2⟩
  have hb1 : ¬ (10 : Int) < (len : Int) := by omega
  have hb2 : ¬ (20 : Int) < (tlen : Int) := by omega
  have hb3 : decide ((20 : Int) < (tlen : Int)) = false := by simp; omega
  have HLT := Lib.hid (And.intro hl10 ht20)
  clear hl10 ht20
  go_enter Tryd.func5, Tryd.ntmps5
  go_wp2_with (first
    | (go_at_call 8; refine (zw w ht).mono ?_; (rintro e w1 ⟨rfl, B1⟩; have t1 := HT.out.below B1 (Nat.le_refl _)))
    | (go_at_call 15; refine (zp w1).mono ?_; (rintro e w1' ⟨rfl, rfl⟩))
    | (go_at_call 16; refine (zm w1 t1).mono ?_; (rintro e w2 ⟨b, g0, H0, S0, rfl, d2, C2, o2, fz, n2, B2⟩)))
  have hlt0 := HDL.out _ _ _ _ _ _ d2
  have has0 := (HasAt.new (H := H0) w2 n hlt0).congr (fun k _ => firstOf_zero St.zeros k)
  have B3 : Below w2.heap.size w2 (w2.alloc (bbO n)) := (Below.refl _ _).alloc (Nat.le_refl _) _
  have d3 := HDS.out _ _ _ _ _ _ _ d2 B3
  have C3 := step_trans (step_trans B1 B2) B3
  have far0 : ∀ x, H0 x → w.heap.size ≤ x := fun x hx => Nat.le_trans B1.size (n2 x hx)
  have gq0 : w.heap.size ≤ w2.heap.size := Nat.le_trans B1.size B2.size
  obtain ⟨w3, hw3⟩ : ∃ w3, w3 = w2.alloc (bbO n) := ⟨_, rfl⟩
  rw [← hw3] at has0 d3 C3 ⊢
  obtain ⟨q, hq⟩ : ∃ q, q = w2.heap.size := ⟨_, rfl⟩
  rw [← hq] at has0 gq0 ⊢
  have I0 := Lib.hid (And.intro d3 (And.intro has0 C3))
  have HS := Lib.hid (And.intro (show St.Even S0 n 1 (fun _ => St.zeros) from ⟨C2, .inl fz⟩) (And.intro o2 (And.intro far0 gq0)))
  clear hw3 hq B1 B2 B3 t1 zw zp zm hmk hlt0 has0 d2 d3 C3 n2 C2 o2 far0 gq0 hwn ht
  go_loopw [11] (fun ix wr => ∃ j : Nat, ix = .int .i64 (j : Int) ∧ j ≤ n ∧ Duo At SAt wr b g0 H0 S0 ⟨0, n, 1, false⟩ ∧ HasAt H0 wr q n (firstOf j St.zeros) ∧ Below w.heap.size w wr) (fun ix _ => n - vN9 ix)
  case atStart => exact ⟨0, rfl, Nat.zero_le _, I0.out.1, I0.out.2.1, I0.out.2.2⟩
  case round =>
    obtain ⟨j, rfl, hjn, d3, has3, C3⟩ := hrel
    clear I0
    by_cases hj : j < n
    · have hj' : (j : Int) < (n : Int) := by omega
      have hw1 : IntKind.i64.wrap ((j : Int) + 1) = (j : Int) + 1 := IntWalk.i64_in _ (by have := HN.out; omega)
      go_wp2_with (first
        | (go_at_call 17; refine (zof wr).mono ?_; (rintro e w4 ⟨g4, rfl, hg4, x4, B4⟩; have d4 := HDS.out _ _ _ _ _ _ _ d3 B4; have has4 := has3.step B4; have a4 := aside_blk (HDL.out _ _ _ _ _ _ d3) hg4 x4; obtain ⟨vs, hvl, hvb⟩ := has4.row; have hne : g4 ≠ q := (by have := (has3.row).choose_spec.2.lt; omega); have HX4 := Lib.hid (And.intro hvb hvl)))
        | ((with_reducible refine atWorld w4 ?_); refine wpList_storeCell (w := w4) rfl 22 (.tmp 57) (.tmp 56) rfl (.slice (some ⟨g4, 0, none⟩) 32 32) rfl rfl HX4.out.1 (by rw [HX4.out.2]; exact hj) sizeBB rfl ?_; (intro w5 b5 B5 s5 k5; have d5 := HDE.out _ _ _ _ _ _ _ q d4 has4.nq s5 k5; have has5 := (has4.set hj a4 (fun _ ad e => by cases e; exact hne) HX4.out.1 b5 s5 k5).congr (fun k _ => firstOf_succ j St.zeros k); have C5 := (step_trans C3 B4).trans (B5.mono HS.out.2.2.2); have H5 := Lib.hid (And.intro d5 (And.intro has5 C5)); clear b5 B5 s5 k5 d5 has5 C5)))
      go_roundw
      case rel => exact ⟨j + 1, by go_num, by omega, H5.out.1, H5.out.2.1, H5.out.2.2⟩
      case measure => simp [vN9]; omega
    · obtain rfl : j = n := by omega
      have hj' : ¬ (j : Int) < (j : Int) := by omega
      have I1 : E9 At SAt w wr b g0 q j 1 H0 S0 (fun _ => St.zeros) 0 := ⟨d3, HS.out.1, has3.congr fun k hk => firstOf_all j St.zeros k hk, Nat.le_refl _, by have := HS.out.2.1; have := HN.out; omega, HS.out.2.2.1, HS.out.2.2.2, C3⟩
      replace I1 := Lib.hid I1
      clear d3 has3 C3 HS zof
      go_wp2
      have AX : Hid (∀ k m w', l[k]? = some m → Below w.heap.size w w' → ∃ ad, A0 = some ad ∧ w'.cell? (ad.add (k * 6)) = some (.int .i64 m.blk) ∧ w'.cell? ⟨(ad.add (k * 6)).block, (ad.add (k * 6)).off + 3, none⟩ = some (.slice m.A m.d.length m.cb)) := Lib.hid fun k m w' hm h => by
        obtain ⟨ad, e, y0, _, _, y3, _, _⟩ := p9_at HA.out.1 h hm
        exact ⟨ad, e, y0, y3⟩
      go_loopw [12] (fun ix wr => ∃ k N H S f, ix = .int .i64 ((k : Nat) : Int) ∧ k ≤ len ∧ E9 At SAt w wr b g0 q j N H S f k) (fun ix _ => 31 - vN9 ix)
      case atStart => exact ⟨0, 1, H0, S0, _, rfl, Nat.zero_le _, I1.out⟩
      case round =>
        obtain ⟨k, N, H, S, f, rfl, hk, inv⟩ := hrel
        clear I1
        by_cases hlt : k < len
        · obtain ⟨m, hm⟩ : ∃ m, l[k]? = some m := ⟨_, List.getElem?_eq_getElem (by rw [← HA.out.2]; exact hlt)⟩
          have hmem := List.mem_of_getElem? hm
          have hlt' : (k : Int) < (len : Int) := by omega
          have hk0 : (0 : Int) ≤ (k : Int) := by omega
          have hw1 : IntKind.i64.wrap ((k : Int) + 1) = (k : Int) + 1 := IntWalk.i64_in _ (by have := HLT.out; omega)
          have HI := Lib.hid inv
          have mb := Lib.hid (HA.out.1.b m hmem)
          have bln := HA.out.1.i m hmem
          have MX : Hid (∀ w', Below w.heap.size w w' → ∃ ad, A0 = some ad ∧ w'.cell? (ad.add (k * 6)) = some (.int .i64 m.blk) ∧ w'.cell? ⟨(ad.add (k * 6)).block, (ad.add (k * 6)).off + 3, none⟩ = some (.slice m.A m.d.length m.cb)) := Lib.hid fun w' h => AX.out k m w' hm h
          obtain ⟨ad, rfl, y0, y3⟩ := MX.out wr inv.below
          have MX : Hid (∀ w', Below w.heap.size w w' → w'.cell? (ad.add (k * 6)) = some (.int .i64 m.blk) ∧ w'.cell? ⟨(ad.add (k * 6)).block, (ad.add (k * 6)).off + 3, none⟩ = some (.slice m.A m.d.length m.cb)) := Lib.hid fun w' h => by
            obtain ⟨ad', e, h1, h2⟩ := MX.out w' h
            cases e
            exact ⟨h1, h2⟩
          clear hm inv hmem
          by_cases hb32 : m.d.length = 32
          · have i1 : ((m.d.length : Int) != 32) = false := by simp [hb32]
            obtain ⟨a, hma⟩ : ∃ a : Nat, m.blk % (j : Int) = (a : Int) := ⟨(m.blk % (j : Int)).toNat, by have := HN.out; have := Int.emod_nonneg m.blk (show (j : Int) ≠ 0 by omega); omega⟩
            have haj : a < j := by have := HN.out; have := Int.emod_lt_of_pos m.blk (show (0 : Int) < (j : Int) by omega); omega
            have zp := fun w : World => pick_any m.blk j w bln.1 bln.2 (by have := HN.out; omega) (by have := HN.out; omega)
            rw [hma] at zp
            have a0 : (0 : Int) ≤ (a : Int) := by omega
            have a1 : (a : Int) < (j : Int) := by omega
            have HAJ := Lib.hid haj
            obtain ⟨S3, p1, p2, p3, p4⟩ := HI.out.even.put (b := a) (d := m.d) haj hb32 (by have := HI.out.Nk; have := HLT.out; omega)
            have zput : Duo At SAt wr b g0 H S ⟨0, j, N, false⟩ → TabAt wr → Aside H wr m.A m.d → _ := fun d2 t2 v2 => duo_put T d2 (a : Int) m.A m.d m.cb t2 (by have := HI.out.ops; have := HLT.out; omega) v2
            rw [p1, p4] at zput
            have zput := zput HI.out.duo (HT.out.below HI.out.below (Nat.le_refl _)) (aside_arg mb.out HI.out.below HI.out.far)
            have HP := Lib.hid (And.intro p2 p3)
            clear bln hma hb32 haj p1 p2 p3 p4
            go_wp2_with (first
              | (go_at_call 15; (refine (zp wr).mono ?_); (rintro e w2' ⟨rfl, rfl⟩))
              | (go_at_call 11; refine zput.mono ?_; (rintro e w3 ⟨H3, rfl, d3, K3⟩; obtain ⟨C3, n3⟩ := chg_go HI.out.below HI.out.far K3.own K3.fr; have x3 := HI.out.has.keep K3; obtain ⟨y0, y3⟩ := MX.out w3 C3; obtain ⟨vs, hvl, hvb⟩ := x3.row; have HV := Lib.hid (And.intro hvb hvl); have v3 := aside_arg mb.out C3 n3; clear hvb hvl))
              | ((with_reducible refine atWorld w3 ?_); refine wpList_storeCell (w := w3) rfl 22 (.tmp 95) (.tmp 94) rfl (.slice m.A m.d.length m.cb) rfl rfl HV.out.1 (by rw [HV.out.2]; exact HAJ.out) sizeBB rfl ?_; (intro w4 b4 B4 s4 k4; have d4 := HDE.out _ _ _ _ _ _ _ q d3 x3.nq s4 k4; have x4 := x3.set HAJ.out v3 (fun hd ad e => by have := arg_low mb.out hd ad e; have := HI.out.gq; omega) HV.out.1 b4 s4 k4; have C4 := C3.trans (B4.mono HI.out.gq); have HX4 := Lib.hid (And.intro d4 (And.intro x4 C4)); clear b4 B4 s4 k4 d4 x4 C4)))
            go_roundw
            case rel => exact ⟨k + 1, N + 1, H3, S3, DS.upd f a m.d, by go_num, by omega, ⟨HX4.out.1, HP.out.1, HX4.out.2.1, by have := HI.out.Nk; omega, by have := HI.out.ops; have := HP.out.2; omega, n3, HI.out.gq, HX4.out.2.2⟩⟩
            case measure => have := HLT.out; simp [vN9]; omega
          · have i1 : ((m.d.length : Int) != 32) = true := by simp; omega
            clear hb32
            go_wp2
            go_ret
            exact ⟨rfl, HI.out.below⟩
        · obtain rfl : k = len := by omega
          have hlt' : ¬ (k : Int) < (k : Int) := by omega
          have HI := Lib.hid inv
          clear inv AX
          have hlS := even_len HI.out.even
          have hqS := HI.out.even.c.q
          have hnS := HI.out.even.c.sn
          have HLS := Lib.hid hlS
          have zrd : ∀ w' i, i ≤ j → Below wr.heap.size wr w' → Calls Tryd.prog 21 #[.pointer (some ⟨b, 0, none⟩), .int .i64 ((i : Nat) : Int)] w' fun e w'' => ∃ A c, e = .returned (.tuple #[.slice A 64 c, .int .i64 0]) ∧ BytesAt w'' w''.heap.size A (S.firm i) ∧ (∀ ad, A = some ad → w'.heap.size ≤ ad.block) ∧ Below w'.heap.size w' w'' := by
            intro w' i hi B
            have z := duo_read D (HDS.out _ _ _ _ _ _ _ HI.out.duo B) (i : Int)
            rw [hqS.readE (by omega), hqS.readB (by omega), hlS i hi] at z
            refine z.mono fun e w'' ⟨A, c, h1, h2, h3⟩ => ⟨A, c, h1, h2.bytes, fun ad e => ?_, h3⟩
            rcases h2 with ⟨_, e', _⟩ | ⟨g', E', e', hg', _⟩
            · rw [e'] at e; cases e
            · rw [e'] at e; cases e; exact hg'
          have WO := Lib.hid (show OwnR 22 wr wr.heap.size (.slice none 0 0) [] from OwnR.nil_)
          obtain ⟨wb, hwb⟩ : ∃ wb, wb = wr := ⟨_, rfl⟩
          rw [← hwb] at WO zrd HI
          have hwb' : Below wb.heap.size wb wr := by rw [hwb]; exact Below.refl _ _
          clear hlS hqS hnS
          go_wp2
          go_loopw [14, 15] (fun vx ix wz => ∃ (i : Nat) (xs : List Value), ix = .int .i64 ((i : Nat) : Int) ∧ i ≤ j + 1 ∧ xs.length = i ∧ OwnR 22 wz wb.heap.size vx xs ∧ Below wb.heap.size wb wz ∧ ∀ t, t < i → ∃ B c, xs[t]? = some (.slice B (S.firm t).length c) ∧ BytesAt wz wz.heap.size B (S.firm t) ∧ (∀ ad, B = some ad → wb.heap.size ≤ ad.block ∧ ad.block < wz.heap.size ∧ vx.ownBlock ≠ some ad.block)) (fun _ ix _ => 70 - vN9 ix)
          case atStart => exact ⟨0, [], rfl, Nat.zero_le _, rfl, by rw [← hwb]; exact WO.out, hwb', fun t ht => by omega⟩
          case round =>
            obtain ⟨i, xs, rfl, hij, hxl, hown, hBz, hel⟩ := hrel
            clear hwb' hwb
            by_cases hi : i ≤ j
            · have hi' : (i : Int) ≤ (j : Int) := by omega
              have hwi : IntKind.i64.wrap ((i : Int) + 1) = (i : Int) + 1 := IntWalk.i64_in _ (by have := HN.out; omega)
              have zz := zrd wr i hi hBz
              have HO := Lib.hid (And.intro hown (And.intro hxl (And.intro hBz (And.intro hel hi))))
              clear hown hxl hBz hel hi hij
              go_wp2_with (first
                | (go_at_call 21; refine zz.mono ?_; (rintro e w1 ⟨A1, c1, rfl, r1, n1, B1⟩; have o1 := HO.out.1.below B1 (Nat.le_refl _); have D1 := Lib.hid (step_trans HO.out.2.2.1 B1)))
                | (at_builtin; refine wpList_appendR rfl (.tmp 107) (.tmp 109) elBB rfl wb.heap.size _ xs rfl (o1.alloc _) _ [.slice A1 64 c1] 1 1 (w1.heap.size + 1) rfl rfl ?h1 (fun u hu => by simp at hu; rw [hu]; rfl) ?h2 ?h3 ?h4 ?h5; rotate_left 4; (intro v' w' ho hg hat)))
              · go_roundw
                case rel =>
                  have hBg := grown_belowR ((D1.out).alloc (D1.out.size) (.cells #[.slice A1 64 c1] 22)) hg (by have := D1.out.size; simp; omega) (o1.alloc _) (Nat.le_refl _)
                  have hsz := hg.size
                  rw [show (w1.alloc (.cells #[.slice A1 64 c1] 22)).heap.size = w1.heap.size + 1 by simp] at hsz hat
                  have hkeep : ∀ (B : Option Addr) (l : List UInt8), l.length = 64 → BytesAt w1 w1.heap.size B l → (∀ ad, B = some ad → wb.heap.size ≤ ad.block ∧ u14.ownBlock ≠ some ad.block) → BytesAt w' w'.heap.size B l ∧ (∀ ad, B = some ad → wb.heap.size ≤ ad.block ∧ ad.block < w'.heap.size ∧ v'.ownBlock ≠ some ad.block) := fun B l hl hb hv => by
                    refine ⟨((hb.alloc (Nat.le_refl _) _).more (Nat.le_of_lt (by simp))).grown hg fun ad e => (hv ad e).2, fun ad e => ?_⟩
                    obtain ⟨ad', e', hlt, _⟩ := hb (by intro x; rw [x] at hl; cases hl)
                    rw [e] at e'; cases e'
                    refine ⟨(hv ad e).1, by omega, ?_⟩
                    rcases hat with x | x
                    · rw [x]; exact (hv ad e).2
                    · rw [x]; intro y; injection y with y; omega
                  refine ⟨i + 1, xs ++ [.slice A1 64 c1], by go_num, by have := HO.out.2.2.2.2; omega, by rw [List.length_append, HO.out.2.1]; rfl, ho, hBg, fun t ht => ?_⟩
                  by_cases e : t = i
                  · subst e
                    have hk2 := hkeep A1 _ (HLS.out t HO.out.2.2.2.2) r1 fun ad e => ⟨Nat.le_trans HO.out.2.2.1.size (n1 ad e), fun x => by have := (HO.out.1.lt _ x).2; have := n1 ad e; omega⟩
                    refine ⟨A1, c1, ?_, hk2.1, hk2.2⟩
                    rw [List.getElem?_append_right (by rw [HO.out.2.1]; exact Nat.le_refl _), HO.out.2.1, HLS.out t HO.out.2.2.2.2]
                    simp
                  · obtain ⟨B, c, e1, e2, e3⟩ := HO.out.2.2.2.1 t (by omega)
                    have hk2 := hkeep B _ (HLS.out t (by have := HO.out.2.2.2.2; omega)) (e2.step B1) fun ad e => ⟨(e3 ad e).1, (e3 ad e).2.2⟩
                    refine ⟨B, c, ?_, hk2.1, hk2.2⟩
                    rw [List.getElem?_append_left (by rw [HO.out.2.1]; omega)]
                    exact e1
                case measure => have := HN.out; have := HO.out.2.2.2.2; simp [vN9]; omega
              case h1 => exact (BlkR.new w1 [.slice A1 64 c1] 22).row ⟨[], rfl⟩ (Nat.lt_succ_self _)
              case h2 => have := HN.out; have := HO.out.2.1; have := HO.out.2.2.2.2; unfold maxLen; simp; omega
              case h3 => have := HN.out; have := HO.out.2.1; have := HO.out.2.2.2.2; simp; omega
              case h4 => have := D1.out.size; simp; omega
            · obtain rfl : i = j + 1 := by omega
              have hi' : ¬ ((j + 1 : Nat) : Int) ≤ (j : Int) := by omega
              have hlH : ∀ x, H x → x < wb.heap.size := fun x hx => Duo.lt D T HI.out.duo x hx
              obtain ⟨AW, cW, rfl, hAR⟩ := own_aside hown hlH
              have hWas : WasAt H wr AW (j + 1) S.firm := ⟨xs, hxl, hAR, fun t ht => by
                obtain ⟨B, c, e1, e2, e3⟩ := hel t ht
                exact ⟨B, c, e1, e2, fun _ ad e => ⟨(e3 ad e).2.1, fun x => by have := hlH _ x; have := (e3 ad e).1; omega⟩⟩⟩
              rw [hxl]
              have V0 : V9 At SAt w wr b g0 q j N H S f AW S.firm S.ops := ⟨HDS.out _ _ _ _ _ _ _ HI.out.duo hBz, HI.out.even.c.q, HI.out.even.c.sn, HLS.out, rfl, HI.out.has.step hBz, hWas, HI.out.far, step_trans HI.out.below hBz⟩
              replace V0 := Lib.hid V0
              clear hlH hWas hAR hown hxl hBz hel hij zrd WO hi
              have hN0 := Lib.hid (show N ≤ 20 ∧ S.ops ≤ 300 by have := HI.out.Nk; have := HI.out.ops; have := HLT.out; omega)
              obtain ⟨J1, hJ1⟩ : ∃ n, n = j + 1 := ⟨_, rfl⟩
              have HJ := Lib.hid hJ1
              rw [← hJ1] at hi' ⊢
              clear hJ1
              go_wp2
              go_loopw [18] (fun ix wz => ∃ (t : Nat) (S2 : DS) (H2 : Nat → Prop), ix = .int .i64 ((t : Nat) : Int) ∧ t ≤ tlen ∧ V9 At SAt w wz b g0 q j N H2 S2 f AW S.firm S.ops) (fun ix _ => tlen - vN9 ix)
              case atStart => exact ⟨0, S, H, rfl, Nat.zero_le _, V0.out⟩
              case round =>
                obtain ⟨t, S2, H2, rfl, ht, V⟩ := hrel
                clear V0
                by_cases hlt : t < tlen
                · obtain ⟨m, hm⟩ : ∃ m, l7[t]? = some m := ⟨_, List.getElem?_eq_getElem (by rw [← HA7.out.2]; exact hlt)⟩
                  have hmem := List.mem_of_getElem? hm
                  have hlt' : (t : Int) < (tlen : Int) := by omega
                  have ht0 : (0 : Int) ≤ (t : Int) := by omega
                  have hw1 : IntKind.i64.wrap ((t : Int) + 1) = (t : Int) + 1 := IntWalk.i64_in _ (by have := HLT.out; omega)
                  have hwj : IntKind.i64.wrap ((j : Int) + 1) = (j : Int) + 1 := IntWalk.i64_in _ (by have := HN.out; omega)
                  have ms := HA7.out.1.s m hmem
                  have ma := HA7.out.1.a m hmem
                  obtain ⟨a, hma⟩ : ∃ a : Nat, m.sec % ((j : Int) + 1) = (a : Int) := ⟨(m.sec % ((j : Int) + 1)).toNat, by have := HN.out; have := Int.emod_nonneg m.sec (show ((j : Int) + 1) ≠ 0 by omega); omega⟩
                  have haj : a ≤ j := by have := HN.out; have := Int.emod_lt_of_pos m.sec (show (0 : Int) < (j : Int) + 1 by omega); omega
                  obtain ⟨a2, hma2⟩ : ∃ a : Nat, m.at_ % (64 : Int) = (a : Int) := ⟨(m.at_ % (64 : Int)).toNat, by have := Int.emod_nonneg m.at_ (show (64 : Int) ≠ 0 by omega); omega⟩
                  have haj2 : a2 < 64 := by have := Int.emod_lt_of_pos m.at_ (show (0 : Int) < (64 : Int) by omega); omega
                  have zp1 := fun w : World => pick_any m.sec ((j : Int) + 1) w ms.1 ms.2 (by have := HN.out; omega) (by have := HN.out; omega)
                  have zp2 := fun w : World => pick_any m.at_ 64 w ma.1 ma.2 (by decide) (by decide)
                  rw [hma] at zp1
                  rw [hma2] at zp2
                  obtain ⟨S3, e3, q3, n3, o3, l3⟩ := turn_quiet V.quiet V.sn V.len haj haj2 m.mask
                  have kx : ∀ w', Below w.heap.size w w' → ∃ ad, A7 = some ad ∧ w'.cell? (ad.add (t * 3)) = some (.int .i64 m.sec) ∧ w'.cell? ⟨(ad.add (t * 3)).block, (ad.add (t * 3)).off + 1, none⟩ = some (.int .i64 m.at_) ∧ w'.cell? ⟨(ad.add (t * 3)).block, (ad.add (t * 3)).off + 2, none⟩ = some (.int .u8 (m.mask.toNat : Int)) := fun w' h => t9_at HA7.out.1 h hm
                  obtain ⟨ad, rfl, x1, x2, x3⟩ := kx wr V.below
                  have kx : ∀ w', Below w.heap.size w w' → w'.cell? (ad.add (t * 3)) = some (.int .i64 m.sec) ∧ w'.cell? ⟨(ad.add (t * 3)).block, (ad.add (t * 3)).off + 1, none⟩ = some (.int .i64 m.at_) ∧ w'.cell? ⟨(ad.add (t * 3)).block, (ad.add (t * 3)).off + 2, none⟩ = some (.int .u8 (m.mask.toNat : Int)) := fun w' h => by
                    obtain ⟨ad', e, h1⟩ := kx w' h
                    cases e
                    exact h1
                  have dd : Duo At SAt wr.drew b g0 H2 S2 ⟨0, j, N, false⟩ := HDS.out _ _ _ _ _ _ _ V.duo (Below.refl _ wr).drew
                  have hd : HasAt H2 wr.drew q j f := V.has.step (Below.refl _ wr).drew
                  have wd : WasAt H2 wr.drew AW (j + 1) S.firm := V.was.step (Below.refl _ wr).drew
                  have cd : Below w.heap.size w wr.drew := V.below.drew
                  have zt := duo_turn D T dd (a : Int) (a2 : Int) m.mask
                  rw [e3] at zt
                  have HX := Lib.hid (And.intro q3 (And.intro n3 (And.intro (o3.trans V.ops) (And.intro l3 V.far))))
                  have HK := Lib.hid (And.intro hd wd)
                  clear hma hma2 haj haj2 ms ma e3 q3 n3 o3 l3 V hm hmem hd wd dd
                  go_wp2
                  first
                  | go_region_held_law (fun w' => w'.cell? (ad.add (t * 3)) = some (.int .i64 m.sec) ∧ w'.cell? ⟨(ad.add (t * 3)).block, (ad.add (t * 3)).off + 1, none⟩ = some (.int .i64 m.at_) ∧ w'.cell? ⟨(ad.add (t * 3)).block, (ad.add (t * 3)).off + 2, none⟩ = some (.int .u8 (m.mask.toNat : Int))) (first | assumption | exact kx _ c5 | exact kx _ cd | exact ⟨x1, x2, x3⟩) (first
                    | (go_at_call 15; (first | (with_reducible refine (zp1 wr.drew).mono ?_) | (with_reducible refine (zp2 wr.drew).mono ?_)); (rintro e w5 ⟨rfl, rfl⟩))
                    | (go_at_call 22; ((with_reducible refine zt.mono ?_); (rintro e w5 ⟨H5, rfl, d5, K5⟩; obtain ⟨c5, n5⟩ := chg_go cd HX.out.2.2.2.2 K5.own K5.fr))))
                  | fail
                  go_wp2
                  go_roundw
                  case rel => exact ⟨t + 1, S3, H5, by go_num, by omega, ⟨d5, HX.out.1, HX.out.2.1, HX.out.2.2.2.1, HX.out.2.2.1, HK.out.1.keep K5, HK.out.2.keep K5, n5, c5⟩⟩
                  case measure => simp [vN9]; omega
                · obtain rfl : t = tlen := by omega
                  have hlt' : ¬ (t : Int) < (t : Int) := by omega
                  have tV := HT.out.below V.below (Nat.le_refl _)
                  have zf := forged_any D T j (by have := HN.out; omega) wr b g0 H2 S2 _ V.duo V.quiet V.sn V.len tV AW J1 cW HJ.out S.firm (by rw [HJ.out]; exact V.was)
                  unfold ForgedPost at zf
                  replace V := Lib.hid V
                  clear tV
                  go_wp2_with fail
                  go_at_call 23
                  refine zf.mono ?_
                  rintro e w2 ⟨y, rfl, B2, hy⟩
                  have C2 := step_trans V.out.below B2
                  clear zf
                  cases y with
                  | true =>
                    clear hy
                    go_wp2
                    go_ret
                    exact ⟨rfl, C2⟩
                  | false =>
                    have W : St.Worn S2 j N f := HI.out.even.worn V.out.quiet (V.out.sn.trans HI.out.even.c.sn.symm) V.out.len ((hy rfl 0 (Nat.zero_le _)).imp_right fun h => h.1 rfl) (fun i hi => (hy rfl (i + 1) hi).imp_right fun h => h.2 i rfl)
                    have d2 := HDS.out _ _ _ _ _ _ _ V.out.duo B2
                    have h2 := V.out.has.step B2
                    have ho2 : S2.ops ≤ 1000 := by rw [V.out.ops]; have := hN0.out; omega
                    have zt := told_any D T j N N f S2 W w2 b g0 q H2 d2 h2 none [] 0 0 rfl ⟨fun h => absurd rfl h, fun h => absurd rfl h⟩ false rfl fun w' H' K => HT.out.below (C2.trans (K.below V.out.far C2.size)) (Nat.le_refl _)
                    have HV := Lib.hid (And.intro W (And.intro h2 (And.intro ho2 (And.intro C2 V.out.far))))
                    clear hy W d2 h2 ho2 V C2 HI HLS
                    go_wp2_with fail
                    go_at_call 24
                    refine zt.mono ?_
                    rintro e w3 ⟨H3, rfl, d3, K3⟩
                    have C3 := HV.out.2.2.2.1.trans (K3.below HV.out.2.2.2.2 HV.out.2.2.2.1.size)
                    have f3 := K3.far HV.out.2.2.2.2 HV.out.2.2.2.1.size
                    have h3 := HV.out.2.1.keep K3
                    have zo := worn_open T d3 HV.out.1 (HT.out.below C3 (Nat.le_refl _)) HV.out.2.2.1
                    have HV := Lib.hid (And.intro h3 (And.intro f3 C3))
                    clear zt d3 K3 C3 f3 h3
                    go_wp2_with fail
                    go_at_call 10
                    refine zo.mono ?_
                    rintro e w4 ⟨g4, H4, A4, c4, M, U, m4, hm4, hM, rfl, d4, W4, o4, a4, K4⟩
                    have C4 := HV.out.2.2.trans (K4.below HV.out.2.1 HV.out.2.2.size)
                    have f4 := K4.far HV.out.2.1 HV.out.2.2.size
                    have zt := told_any D T j N M f U W4 w4 b g4 q H4 d4 (HV.out.1.keep K4) A4 _ m4 c4 hm4 a4 true rfl fun w' H' K => HT.out.below (C4.trans (K.below f4 C4.size)) (Nat.le_refl _)
                    have HV := Lib.hid (And.intro f4 (And.intro C4 (And.intro hM (And.intro W4 o4))))
                    clear zo d4 K4 C4 f4 hm4 hM W4 o4 a4
                    go_wp2_with fail
                    go_at_call 24
                    refine zt.mono ?_
                    rintro e w5 ⟨H5, rfl, d5, K5⟩
                    have L0 : L9 At SAt w w5 b g4 j 0 N H5 U M f := ⟨d5, HV.out.2.2.2.1, HV.out.2.2.1, by have := hN0.out; omega, HV.out.2.2.2.2, K5.far HV.out.1 HV.out.2.1.size, HV.out.2.1.trans (K5.below HV.out.1 HV.out.2.1.size)⟩
                    replace L0 := Lib.hid L0
                    clear zt d5 K5
                    go_wp2
                    go_loopw [22] (fun ix wz => ∃ (k : Nat) (N : Nat) (H : Nat → Prop) (U : DS) (M : Nat) (f : Nat → List UInt8), ix = .int .i64 ((k : Nat) : Int) ∧ k ≤ j ∧ L9 At SAt w wz b g4 j k N H U M f) (fun ix _ => j - vN9 ix)
                    case atStart => exact ⟨0, N, H5, U, M, f, rfl, Nat.zero_le _, L0.out⟩
                    case round =>
                      clear hN0 HV L0
                      obtain ⟨k, N, H, U, M, f, rfl, hk, inv⟩ := hrel
                      by_cases hlt : k < j
                      · have hlt' : (k : Int) < (j : Int) := by omega
                        have hw1 : IntKind.i64.wrap ((k : Int) + 1) = (k : Int) + 1 := IntWalk.i64_in _ (by have := HN.out; omega)
                        have hwu : IntKind.u8.wrap (k : Int) = (k : Int) := IntWalk.u8_in _ (by have := HN.out; omega)
                        obtain ⟨xk, hxk⟩ : ∃ x : UInt8, (x.toNat : Int) = (k : Int) := ⟨UInt8.ofNat k, by have := HN.out; simp; omega⟩
                        have zof := fun w : World => of9_any xk w
                        rw [hxk] at zof
                        unfold Of9Post at zof
                        have HI := Lib.hid inv
                        have HX := Lib.hid hlt
                        clear hxk hk inv
                        go_wp2_with fail
                        go_at_call 17
                        refine (zof wr).mono ?_
                        rintro e w1 ⟨g1, rfl, hg1, b1, B1⟩
                        have C1 := step_trans HI.out.below B1
                        have r1 : Aside H w1 (some ⟨g1, 0, none⟩) (b32 xk) := ⟨Of9Post.bytes b1, fun _ ad e => by cases e; exact ⟨b1.lt, fun x => by have := HDL.out _ _ _ _ _ _ HI.out.duo _ x; have hx : g1 < wr.heap.size := this; omega⟩⟩
                        have zput := worn_put T (HDS.out _ _ _ _ _ _ _ HI.out.duo B1) HI.out.worn HI.out.MN (by have := HI.out.Nk; have := HN.out; omega) k HX.out xk (some ⟨g1, 0, none⟩) (HT.out.below C1 (Nat.le_refl _)) (by have := HI.out.ops; have := HN.out; have := HX.out; omega) r1
                        have HC := Lib.hid C1
                        clear b1 B1 hg1 C1 r1
                        go_wp2_with fail
                        go_at_call 11
                        refine zput.mono ?_
                        rintro e w2 ⟨H2, U2, rfl, d2, W2, o2, q2, K2⟩
                        obtain ⟨C2, f2⟩ := chg_go HC.out HI.out.far K2.own K2.fr
                        have HP := Lib.hid (And.intro W2 (And.intro o2 (And.intro q2 (And.intro d2 (And.intro C2 f2)))))
                        clear zput d2 W2 o2 q2 K2 C2 f2
                        go_wp2_with fail
                        go_at_call 17
                        refine (zof w2).mono ?_
                        rintro e w3 ⟨g3, rfl, hg3, b3, B3⟩
                        have C3 := step_trans HP.out.2.2.2.2.1 B3
                        have r3 : Aside H2 w3 (some ⟨g3, 0, none⟩) (b32 xk) := ⟨Of9Post.bytes b3, fun _ ad e => by cases e; exact ⟨b3.lt, fun x => by have := HDL.out _ _ _ _ _ _ HP.out.2.2.2.1 _ x; have hx : g3 < w2.heap.size := this; omega⟩⟩
                        have zge := worn_gets D T (HDS.out _ _ _ _ _ _ _ HP.out.2.2.2.1 B3) k HX.out xk HP.out.1 HP.out.2.2.1 (some ⟨g3, 0, none⟩) (HT.out.below C3 (Nat.le_refl _)) r3
                        have HC3 := Lib.hid C3
                        clear b3 B3 hg3 C3 r3
                        go_wp2_with fail
                        go_at_call 20
                        refine zge.mono ?_
                        rintro e w4 ⟨H4, rfl, d4, K4⟩
                        obtain ⟨C4, f4⟩ := chg_go HC3.out HP.out.2.2.2.2.2 K4.own K4.fr
                        have L1 : L9 At SAt w w4 b g4 j (k + 1) (N + 1) H4 U2 (M + 1) (DS.upd f k (b32 xk)) := ⟨d4, HP.out.1, Nat.succ_le_succ HI.out.MN, by have := HI.out.Nk; omega, by rw [HP.out.2.1]; have := HI.out.ops; omega, f4, C4⟩
                        replace L1 := Lib.hid L1
                        clear zge d4 K4 C4 f4
                        go_wp2
                        go_roundw
                        case rel => exact ⟨k + 1, N + 1, H4, U2, M + 1, _, by go_num, HX.out, L1.out⟩
                        case measure => have := HX.out; simp [vN9]; omega
                      · obtain rfl : k = j := by omega
                        have hlt' : ¬ (k : Int) < (k : Int) := by omega
                        have C5 := inv.below
                        clear inv
                        go_wp2
                        go_ret
                        exact ⟨rfl, C5⟩
end
end Go.Proofs.YtlchpolheciadaaDoor
