/-
  Several texts in one (HaKit, HaActs, HaAlike, HaHarm, HaIn). Conditions: as each says.
-/
import Derived.Test.YtcahpodmcklnbaaGreatDoorDiskKit
import Derived.Test.YtcahpodmcklnbaaGreatDoorSlSave
import Derived.Test.YtcahpodmcklnbaaGreatDoorMc
import Derived.Test.YtcahpodmcklnbaaGreatDoorMi
import Derived.Test.YtcahpodmcklnbaaGreatDoorSa
import Derived.Deep.RegionHeld3
/-
  A disk beside the document's own, through the calls of a script, with a variable that lies beside both. Conditions: a disk's methods do what the document says (Disks).
-/
namespace Go.Proofs.YtcahpodmcklnbaaGreatDoor
open Go.RowKit

theorem row_frame {w w' : World} {F : Nat → Prop} {A : Option Addr} {xs : List Value} (h : Frame F w w') (hr : RowAt w w.heap.size A xs) (hF : xs ≠ [] → ∀ ad, A = some ad → ¬ F ad.block) : RowAt w' w'.heap.size A xs := fun hne => by
  obtain ⟨ad, e, hb, hc⟩ := hr hne
  refine ⟨ad, e, Nat.lt_of_lt_of_le hb h.size, fun k u hu => ?_⟩
  rw [← hc k u hu]
  exact World.cell?_of_block (w := w) (by rw [block_add]; exact h.block _ hb (hF hne ad e))
/-- a Write of what is no sector -/
theorem mWrite_no (w : World) (b : Nat) (F : Nat → Prop) (S : DS) (i : Int) (A : Option Addr) (l : List UInt8) (n c : Nat) (h : Mir w b F S) (hn : l.length = n) (h64 : n ≠ 64) :
    Calls Tryz.prog 36 #[.pointer (some ⟨b, 0, none⟩), .int .i64 i, .slice A n c] w (MirPost (S.write i l).2 (S.write i l).1 b F w) := by
  have hM := Lib.hid h
  have zt := fun w1 (h1 : Mir w1 b F S) => mThere w1 b F S i h1
  replace zt := zt w h
  obtain ⟨g0, g1, c0, c1, xs, ys, h⟩ := h
  have x2 := h.cell2
  cases ho : S.out with
  | true =>
    rw [show S.write i l = (S, 10) by simp [DS.write, ho]]
    rw [ho] at x2
    clear h ho zt
    go_enter Tryz.func36, Tryz.ntmps36
    go_wp2
    go_ret
    exact ⟨F, rfl, hM.out, fun k hk => .inl hk, Frame.refl _ _⟩
  | false =>
    rw [ho] at x2
    cases ht : S.there i with
    | false =>
      rw [show S.write i l = (S, 5) by simp [DS.write, ho, ht]]
      rw [ht] at zt
      clear h ho ht
      go_enter Tryz.func36, Tryz.ntmps36
      go_wp2_with (go_at_call 69; refine zt.mono ?_; (rintro e w2 ⟨rfl, rfl⟩))
      go_ret
      exact ⟨F, rfl, hM.out, fun k hk => .inl hk, Frame.refl _ _⟩
    | true =>
      rw [ht] at zt
      have hne : ((n : Int) != 64) = true := by simp; omega
      rw [show S.write i l = (S, 2) by simp [DS.write, ho, ht, hn, h64]]
      clear h ho ht
      go_enter Tryz.func36, Tryz.ntmps36
      go_wp2_with (go_at_call 69; refine zt.mono ?_; (rintro e w2 ⟨rfl, rfl⟩))
      go_ret
      exact ⟨F, rfl, hM.out, fun k hk => .inl hk, Frame.refl _ _⟩
/-- a Write, of whatever bytes -/
theorem mWrite_all (w : World) (b : Nat) (F : Nat → Prop) (S : DS) (i : Int) (A : Option Addr) (l : List UInt8) (n c : Nat) (h : Mir w b F S) (ho : S.ops ≤ 1000000) (hr : BytesAt w w.heap.size A l) (hA : l ≠ [] → ∀ ad, A = some ad → ¬ F ad.block) (hn : l.length = n) :
    Calls Tryz.prog 36 #[.pointer (some ⟨b, 0, none⟩), .int .i64 i, .slice A n c] w (MirPost (S.write i l).2 (S.write i l).1 b F w) := by
  by_cases h64 : n = 64
  · exact mWrite w b F S i A l n c h ho hr (hA (by rintro rfl; simp at hn; omega)) hn (by omega)
  · exact mWrite_no w b F S i A l n c h hn h64
theorem ops_turn (S : DS) (i a : Int) (m : UInt8) : (S.turn i a m).1.ops ≤ S.ops + 1 := by
  unfold DS.turn
  split <;> exact Nat.le_succ _
theorem ops_fuse (S : DS) (k : Int) : (S.fuse k).1.ops ≤ S.ops + 1 := by
  unfold DS.fuse
  split
  · exact Nat.le_succ _
  · split <;> exact Nat.le_succ _
/-- a disk at b, in the blocks F, and the document's at c, in the blocks G: both of state S -/
structure Two (At : World → Nat → (Nat → Prop) → DS → Prop) (w : World) (b c : Nat) (F G : Nat → Prop) (S : DS) : Prop where
  d : At w b F S
  m : Mir w c G S
  ap : ∀ k, F k → ¬ G k
/-- what a call of both leaves -/
def TwoPost (At : World → Nat → (Nat → Prop) → DS → Prop) (S : DS) (b c : Nat) (F G : Nat → Prop) (w : World) (e : Ending) (w' : World) : Prop :=
  ∃ T F1 G1, e = .returned (.bool true) ∧ Two At w' b c F1 G1 T ∧ T.ops ≤ S.ops + 4 ∧ (∀ k, F1 k → F k ∨ w.heap.size ≤ k) ∧ (∀ k, G1 k → G k ∨ w.heap.size ≤ k) ∧ Frame (fun k => F k ∨ G k) w w'
/-- within such a call: the variable at X, of type E, lies beside both -/
structure HaAt (At : World → Nat → (Nat → Prop) → DS → Prop) (w1 : World) (b c X : Nat) (E : TypeId) (xs : List Value) (F G F' G' : Nat → Prop) (Sd Sm : DS) (w' : World) : Prop where
  d : At w' b F' Sd
  m : Mir w' c G' Sm
  ap : ∀ k, F' k → ¬ G' k
  x : BlkR E w' X xs
  nx : ¬ F' X
  ny : ¬ G' X
  of_ : ∀ k, F' k → F k ∨ w1.heap.size ≤ k
  og : ∀ k, G' k → G k ∨ w1.heap.size ≤ k
  fr : Frame (fun k => F k ∨ G k) w1 w'
section
variable {At : World → Nat → (Nat → Prop) → DS → Prop} (D : Disks Tryz.prog At)
variable {w w1 w' w2 : World} {b c X : Nat} {E : TypeId} {xs : List Value} {F G F' G' F2 G2 : Nat → Prop} {S Sd Sm S2 : DS}
theorem HaAt.ext (h : HaAt At w1 b c X E xs F G F' G' Sd Sm w') : ∀ k, F' k ∨ G' k → (F k ∨ G k) ∨ w1.heap.size ≤ k := fun k hk => hk.elim (fun x => (h.of_ k x).imp .inl id) fun x => (h.og k x).imp .inr id
/-- bytes that lie beside both -/
theorem HaAt.bytes {A : Option Addr} {l : List UInt8} (h : HaAt At w1 b c X E xs F G F' G' Sd Sm w') (hr : BytesAt w1 w1.heap.size A l) (hn : l ≠ [] → ∀ ad, A = some ad → ¬ F ad.block ∧ ¬ G ad.block) : BytesAt w' w'.heap.size A l ∧ (l ≠ [] → ∀ ad, A = some ad → ¬ F' ad.block ∧ ¬ G' ad.block) := by
  refine ⟨bytes_frame h.fr hr fun hne ad e x => x.elim (hn hne ad e).1 (hn hne ad e).2, fun hne ad e => ?_⟩
  obtain ⟨ad', e', hl, _⟩ := hr hne
  rw [e] at e'; cases e'
  exact ⟨fun x => (h.of_ _ x).elim (hn hne ad e).1 fun y => by omega, fun x => (h.og _ x).elim (hn hne ad e).2 fun y => by omega⟩
theorem HaAt.rows {A : Option Addr} {l : List Value} (h : HaAt At w1 b c X E xs F G F' G' Sd Sm w') (hr : RowAt w1 w1.heap.size A l) (hn : l ≠ [] → ∀ ad, A = some ad → ¬ F ad.block ∧ ¬ G ad.block) : RowAt w' w'.heap.size A l ∧ (l ≠ [] → ∀ ad, A = some ad → ¬ F' ad.block ∧ ¬ G' ad.block) := by
  refine ⟨row_frame h.fr hr fun hne ad e x => x.elim (hn hne ad e).1 (hn hne ad e).2, fun hne ad e => ?_⟩
  obtain ⟨ad', e', hl, _⟩ := hr hne
  rw [e] at e'; cases e'
  exact ⟨fun x => (h.of_ _ x).elim (hn hne ad e).1 fun y => by omega, fun x => (h.og _ x).elim (hn hne ad e).2 fun y => by omega⟩
theorem HaAt.start (h : Two At w1 b c F G S) (hx : BlkR E w1 X xs) (n1 : ¬ F X) (n2 : ¬ G X) : HaAt At w1 b c X E xs F G F G S S w1 := ⟨h.d, h.m, h.ap, hx, n1, n2, fun _ hk => .inl hk, fun _ hk => .inl hk, Frame.refl _ _⟩
include D
theorem Two.step (h : Two At w b c F G S) (hb : Below w.heap.size w w') : Two At w' b c F G S := ⟨At_step D h.d hb, h.m.step hb, h.ap⟩
theorem Two.lt (h : Two At w b c F G S) : (∀ k, F k → k < w.heap.size) ∧ ∀ k, G k → k < w.heap.size := ⟨D.lt _ _ _ _ h.d, h.m.lt⟩
theorem HaAt.step (h : HaAt At w1 b c X E xs F G F' G' Sd Sm w') (B : Below w'.heap.size w' w2) : HaAt At w1 b c X E xs F G F' G' Sd Sm w2 :=
  ⟨At_step D h.d B, h.m.step B, h.ap, h.x.step B, h.nx, h.ny, h.of_, h.og, h.fr.trans (Frame.of_below (F := fun _ => False) B) fun _ hk => hk.elim⟩
omit D in
theorem HaAt.chgD (h : HaAt At w1 b c X E xs F G F' G' Sd Sm w') (d2 : At w2 b F2 S2) (o2 : ∀ k, F2 k → F' k ∨ w'.heap.size ≤ k) (f2 : Frame F' w' w2) : HaAt At w1 b c X E xs F G F2 G' S2 Sm w2 := by
  have hX := h.x.lt
  have hs := h.fr.size
  refine ⟨d2, h.m.frame f2 fun k hk hf => h.ap k hf hk, fun k hk hg => ?_, h.x.frame f2 h.nx, fun hk => ?_, h.ny, fun k hk => ?_, h.og, h.fr.trans f2 fun k hk => h.ext k (.inl hk)⟩
  · rcases o2 k hk with x | x
    · exact h.ap k x hg
    · have := h.m.lt k hg; omega
  · rcases o2 _ hk with x | x
    · exact h.nx x
    · omega
  · rcases o2 k hk with x | x
    · exact h.of_ k x
    · exact .inr (Nat.le_trans hs x)
theorem HaAt.chgM (h : HaAt At w1 b c X E xs F G F' G' Sd Sm w') (m2 : Mir w2 c G2 S2) (o2 : ∀ k, G2 k → G' k ∨ w'.heap.size ≤ k) (f2 : Frame G' w' w2) : HaAt At w1 b c X E xs F G F' G2 Sd S2 w2 := by
  have hX := h.x.lt
  have hs := h.fr.size
  refine ⟨At_frame D h.d f2 fun k hk hg => h.ap k hk hg, m2, fun k hk hg => ?_, h.x.frame f2 h.ny, h.nx, fun hk => ?_, h.of_, fun k hk => ?_, h.fr.trans f2 fun k hk => h.ext k (.inr hk)⟩
  · rcases o2 k hg with x | x
    · exact h.ap k hk x
    · have := D.lt _ _ _ _ h.d k hk; omega
  · rcases o2 _ hk with x | x
    · exact h.ny x
    · omega
  · rcases o2 k hk with x | x
    · exact h.og k x
    · exact .inr (Nat.le_trans hs x)
omit D in
theorem HaAt.post {T : DS} (h : HaAt At w1 b c X E xs F G F' G' T T w') (B : Below w.heap.size w w1) (ho : T.ops ≤ S.ops + 4) : TwoPost At S b c F G w (.returned (.bool true)) w' :=
  ⟨T, F', G', rfl, ⟨h.d, h.m, h.ap⟩, ho, fun k hk => (h.of_ k hk).imp id (Nat.le_trans B.size), fun k hk => (h.og k hk).imp id (Nat.le_trans B.size), (Frame.of_below (F := fun k => F k ∨ G k) B).trans h.fr fun _ hk => .inl hk⟩
end
end Go.Proofs.YtcahpodmcklnbaaGreatDoor
/-
  The calls of a script (tandemlaw05.Act), as they lie in memory; tandemlaw05.Long. Conditions: none.
-/
namespace Go.Proofs.YtcahpodmcklnbaaGreatDoor
open Go.RowKit

/-- a call as it lies in memory -/
structure HaM where
  kind : Int
  n : Int
  at_ : Int
  mask : UInt8
  b : List UInt8
  A : Option Addr
  cb : Nat
  keeps : List Bool
  AK : Option Addr
  ck : Nat
def haCells (m : HaM) : List Value := [.int .i64 m.kind, .int .i64 m.n, .int .i64 m.at_, .int .u8 (m.mask.toNat : Int), .slice m.A m.b.length m.cb, .slice m.AK m.keeps.length m.ck]
theorem haCells_len (m : HaM) : (haCells m).length = 6 := rfl
theorem ha_one (m : HaM) : ∀ v ∈ haCells m, v.oneCell' = true := by
  intro v hv
  simp only [haCells, List.mem_cons, List.not_mem_nil, or_false] at hv
  rcases hv with rfl | rfl | rfl | rfl | rfl | rfl <;> rfl
/-- what a call brings: lent, and beside both disks -/
structure HaOk (w : World) (F G : Nat → Prop) (m : HaM) : Prop where
  nb : -9223372036854775808 ≤ m.n ∧ m.n ≤ 9223372036854775807
  lb : m.b.length ≤ 100
  lk : m.keeps.length ≤ 30
  rb : BytesAt w w.heap.size m.A m.b
  rk : RowAt w w.heap.size m.AK (m.keeps.map Value.bool)
  cb : m.b.length ≤ m.cb
  ck : m.keeps.length ≤ m.ck
  ab : m.b ≠ [] → ∀ ad, m.A = some ad → ¬ F ad.block ∧ ¬ G ad.block
  ak : m.keeps.map Value.bool ≠ [] → ∀ ad, m.AK = some ad → ¬ F ad.block ∧ ¬ G ad.block
theorem HaOk.step {w w' : World} {F G : Nat → Prop} {m : HaM} (h : HaOk w F G m) (B : Below w.heap.size w w') : HaOk w' F G m :=
  { h with rb := (h.rb.below B).more B.size, rk := (h.rk.below B).more B.size }
/-- the slice at A0 reads as the calls ms, s cells each, the call o cells in -/
def RunAt (w : World) (s o : Nat) (A0 : Option Addr) (ms : List HaM) : Prop := ms ≠ [] → ∃ ad, A0 = some ad ∧ ∀ k m, ms[k]? = some m → ∀ j v, (haCells m)[j]? = some v → w.cell? ((ad.add (k * s)).add (o + j)) = some v
theorem ha_add (a : Addr) (n : Nat) (h : n ≠ 0) : a.add n = ⟨a.block, a.off + n, none⟩ := by unfold Addr.add; rw [if_neg h]
theorem ha_none (a : Addr) : a.add 0 = a := by unfold Addr.add; simp
def hNat : Value → Nat
  | .int _ q => q.toNat
  | _ => 0
def HaLongPost (ms : List HaM) (w : World) (e : Ending) (w' : World) : Prop :=
  ∃ r, e = .returned (.bool r) ∧ w = w' ∧ (r = false → ms.length ≤ 60 ∧ ∀ m, m ∈ ms → m.b.length ≤ 100 ∧ m.keeps.length ≤ 30)
set_option maxRecDepth 100000 in
theorem haLong_any (w : World) (A0 : Option Addr) (ms : List HaM) (c0 : Nat) (h : RunAt w 6 0 A0 ms) (hm : ms.length ≤ 9223372036854775807) : Calls Tryz.prog 7 #[.slice A0 ms.length c0] w (HaLongPost ms w) := by
  obtain ⟨n, hn⟩ : ∃ n, n = ms.length := ⟨_, rfl⟩
  rw [← hn]
  have HN := Lib.hid (And.intro hn (And.intro hm h))
  clear hn hm h
  go_enter Tryz.func7, Tryz.ntmps7
  go_wp2
  go_loopw [3] (fun ix wr => ∃ i, i ≤ n ∧ i ≤ 61 ∧ ix = .int .i64 ((i : Nat) : Int) ∧ wr = w ∧ (∀ k m, k < i → ms[k]? = some m → m.b.length ≤ 100 ∧ m.keeps.length ≤ 30)) (fun ix _ => 62 - hNat ix)
  case atStart => exact ⟨0, Nat.zero_le _, Nat.zero_le _, rfl, rfl, fun k m hk => by omega⟩
  case round =>
    obtain ⟨i, hi, hi2, rfl, rfl, hall⟩ := hrel
    by_cases hlt : i < n
    · by_cases h61 : i < 61
      · obtain ⟨m, hm⟩ : ∃ m, ms[i]? = some m := ⟨_, List.getElem?_eq_getElem (by rw [← HN.out.1]; exact hlt)⟩
        obtain ⟨ad, rfl, hc⟩ := HN.out.2.2 (by rintro rfl; simp at hm)
        have y4 := hc i m hm 4 _ rfl
        have y5 := hc i m hm 5 _ rfl
        rw [ha_add _ (0 + 4) (by decide)] at y4
        rw [ha_add _ (0 + 5) (by decide)] at y5
        simp only [Nat.zero_add] at y4 y5
        have hlt' : (i : Int) < (n : Int) := by omega
        have h61' : (i : Int) < 61 := by omega
        have hw1 : IntKind.i64.wrap ((i : Int) + 1) = (i : Int) + 1 := IntWalk.i64_in _ (by omega)
        obtain ⟨lb, hlb⟩ : ∃ x, x = m.b.length := ⟨_, rfl⟩
        obtain ⟨lk, hlk⟩ : ∃ x, x = m.keeps.length := ⟨_, rfl⟩
        rw [← hlb] at y4
        rw [← hlk] at y5
        have HM := Lib.hid (And.intro hm (And.intro hlb (And.intro hlk hall)))
        clear hm hlb hlk hall hc
        by_cases hb : lb ≤ 100
        · have hb' : ¬ (100 : Int) < (lb : Int) := by omega
          by_cases hk : lk ≤ 30
          · have hk' : ¬ (30 : Int) < (lk : Int) := by omega
            go_wp2
            go_roundw
            case rel =>
              refine ⟨i + 1, by omega, by omega, by go_num, by first | trivial | rfl, fun k m' hk2 hm' => ?_⟩
              by_cases e : k = i
              · subst e
                rw [HM.out.1] at hm'
                obtain rfl := Option.some.inj hm'
                rw [← HM.out.2.1, ← HM.out.2.2.1]
                exact ⟨hb, hk⟩
              · exact HM.out.2.2.2 k m' (by omega) hm'
            case measure => simp [hNat]; omega
          · have hk' : (30 : Int) < (lk : Int) := by omega
            go_wp2
            go_ret
            exact ⟨true, rfl, rfl, fun h => by cases h⟩
        · have hb' : (100 : Int) < (lb : Int) := by omega
          go_wp2
          go_ret
          exact ⟨true, rfl, rfl, fun h => by cases h⟩
      · obtain rfl : i = 61 := by omega
        have h60 : (60 : Int) < (n : Int) := by omega
        have hlt' : ((61 : Nat) : Int) < (n : Int) := by omega
        go_wp2
        go_ret
        exact ⟨true, rfl, rfl, fun h => by cases h⟩
    · obtain rfl : i = n := by omega
      have HA := Lib.hid hall
      clear hall
      go_wp2
      go_ret
      refine ⟨_, rfl, rfl, fun h => ?_⟩
      have h60 : i ≤ 60 := by
        simp only [decide_eq_false_iff_not] at h
        omega
      refine ⟨by rw [← HN.out.1]; exact h60, fun m hm => ?_⟩
      obtain ⟨k, hk⟩ := List.getElem?_of_mem hm
      exact HA.out k m (by have := (List.getElem?_eq_some_iff.1 hk).1; rw [← HN.out.1] at this; exact this) hk
end Go.Proofs.YtcahpodmcklnbaaGreatDoor
/-
  tandemlaw05.Alike, of a disk beside the document's own. Conditions: a disk's methods do what the document says (Disks); at most so many changes.
-/
namespace Go.Proofs.YtcahpodmcklnbaaGreatDoor
open Go.RowKit

section
variable {At : World → Nat → (Nat → Prop) → DS → Prop} (D : Disks Tryz.prog At)
include D
set_option maxRecDepth 100000 in
set_option maxHeartbeats 4000000 in
theorem haAlike_any (w : World) (b c : Nat) (F G : Nat → Prop) (S : DS) (h : Two At w b c F G S) (ho : S.ops ≤ 1000000) : Calls Tryz.prog 16 #[.pointer (some ⟨b, 0, none⟩), .pointer (some ⟨c, 0, none⟩)] w fun e w' => e = .returned (.bool true) ∧ Below w.heap.size w w' := by
  have hat : ∀ w', Below w.heap.size w w' → At w' b F S ∧ Mir w' c G S := fun w' hB => ⟨At_step D h.d hB, h.m.step hB⟩
  obtain ⟨g0, g1, c0, c1, xs, ys, hM⟩ := h.m
  have hS : ∀ w', Below w.heap.size w w' → w'.cell? ⟨c, 0, none⟩ = some (.slice (some ⟨g0, 0, none⟩) S.n c0) ∧ w'.cell? ⟨c, 2, none⟩ = some (.bool S.out) ∧ w'.cell? ⟨c, 4, none⟩ = some (.int .i64 (S.ops : Int)) := fun w' hB => by
    have hM' := hM.step hB
    exact ⟨hM'.cell0, hM'.cell2, hM'.cell4⟩
  have zUp : ∀ w', Below w.heap.size w w' → _ := fun w' hB => D.up w' b F S (hat w' hB).1
  have zOp : ∀ w', Below w.heap.size w w' → _ := fun w' hB => D.ops w' b F S (hat w' hB).1 ho
  have zRd : ∀ w' i, Below w.heap.size w w' → _ := fun w' i hB => D.read w' b F S i (hat w' hB).1
  have zMr : ∀ w' i, Below w.heap.size w w' → _ := fun w' i hB => mRead w' c G S i (hat w' hB).2
  have hn2 : S.n ≤ 1024 := (D.ok _ _ _ _ h.d).n2
  obtain ⟨n, hn⟩ : ∃ x, x = S.n := ⟨_, rfl⟩
  obtain ⟨ou, hou⟩ : ∃ x, x = S.out := ⟨_, rfl⟩
  obtain ⟨op, hop⟩ : ∃ x, x = S.ops := ⟨_, rfl⟩
  rw [← hop] at zOp
  rw [← hou] at zUp
  rw [← hn] at hn2
  rw [← hn, ← hou, ← hop] at hS
  replace hS := Lib.hid hS
  have hdr : Below w.heap.size w w.drew := (Below.refl _ _).drew
  clear hn hou hop hM h hat
  go_enter Tryz.func16, Tryz.ntmps16
  go_wp2
  go_region_held3 (fun w' => w'.cell? ⟨c, 0, none⟩ = some (.slice (some ⟨g0, 0, none⟩) n c0) ∧ w'.cell? ⟨c, 2, none⟩ = some (.bool ou) ∧ w'.cell? ⟨c, 4, none⟩ = some (.int .i64 (op : Int))) (first | assumption | exact hS.out _ (by assumption)) (first
    | (go_at_call 46; refine (zOp _ (by assumption)).mono ?_; (rintro e w2 ⟨rfl, hB2⟩; have hB2 := step_trans hdr hB2))
    | (go_at_call 47; refine (zUp _ (by assumption)).mono ?_; (rintro e w3 ⟨rfl, hB3⟩; have hB3 := step_trans hB2 hB3)))
  go_wp2
  have HB := Lib.hid hB3
  clear hB2 hB3 hdr zUp zOp
  go_loopw [5] (fun ix wr => ∃ i : Nat, i ≤ n ∧ ix = .int .i64 (i : Int) ∧ Below w.heap.size w wr) (fun ix _ => n - hNat ix)
  case atStart => exact ⟨0, Nat.zero_le _, rfl, HB.out⟩
  case round =>
    obtain ⟨i, hi, rfl, hB⟩ := hrel
    obtain ⟨y0, _, _⟩ := hS.out wr hB
    by_cases hlt : i < n
    · have hlt' : (i : Int) < (n : Int) := by omega
      have hw1 : IntKind.i64.wrap ((i : Int) + 1) = (i : Int) + 1 := IntWalk.i64_in _ (by omega)
      have z1 := zRd wr (i : Int) hB
      have z2 := fun w4 hB4 => zMr w4 (i : Int) hB4
      obtain ⟨l, hl⟩ : ∃ l, l = S.readB (i : Int) := ⟨_, rfl⟩
      obtain ⟨x, hx⟩ : ∃ x, x = S.readE (i : Int) := ⟨_, rfl⟩
      rw [← hl, ← hx] at z1 z2
      have zs := fun A c A' c' w h h' => same_yes A l l.length c rfl A' l l.length c' rfl w h h' rfl
      have HB2 := Lib.hid hB
      clear hl hx zRd zMr hB
      go_wp2_with (first
        | (go_at_call 48; refine z1.mono ?_; (rintro e w4 ⟨A4, c4, rfl, r4, B4⟩; have C4 := step_trans HB2.out B4; have r4 := r4.bytes))
        | (go_at_call 49; refine (z2 w4 C4).mono ?_; (rintro e w5 ⟨A5, c5, rfl, o5, B5⟩; have C5 := step_trans C4 B5; have r5 := o5.bytes; have r4 := r4.step B5; clear o5))
        | (go_at_call 50; refine (zs A4 c4 A5 c5 w5 r4 r5).mono ?_; (rintro e w6 ⟨rfl, rfl⟩)))
      go_roundw
      case rel => exact ⟨i + 1, by omega, by go_num, C5⟩
      case measure => simp [hNat]; omega
    · obtain rfl : i = n := by omega
      clear zRd zMr
      have HB2 := Lib.hid hB
      clear hB
      go_wp2
      go_ret
      exact ⟨rfl, HB2.out⟩
end
end Go.Proofs.YtcahpodmcklnbaaGreatDoor
/-
  tandemlaw05.Harm: what happens to a disk and to the document's own, side by side. Conditions: a disk's methods do what the document says (Disks); at most so many changes.
-/
namespace Go.Proofs.YtcahpodmcklnbaaGreatDoor
open Go.RowKit

section
variable {At : World → Nat → (Nat → Prop) → DS → Prop} (D : Disks Tryz.prog At)
include D
set_option maxRecDepth 100000 in
set_option maxHeartbeats 4000000 in
theorem harm_turn (w : World) (b c : Nat) (F G : Nat → Prop) (S : DS) (m : HaM) (h : Two At w b c F G S) (ho : S.ops ≤ 900000) (hx : HaOk w F G m) (hk : m.kind = 3) :
    Calls Tryz.prog 15 #[.pointer (some ⟨b, 0, none⟩), .pointer (some ⟨c, 0, none⟩), .agg (haCells m).toArray] w (TwoPost At S b c F G w) := by
  obtain ⟨kd, xn, xa, xm, xb, A, cb, xk, AK, ck⟩ := m
  obtain rfl : kd = 3 := hk
  have hB1 : Below w.heap.size w (w.alloc (.cells #[.int .i64 3, .int .i64 xn, .int .i64 xa, .int .u8 (xm.toNat : Int), .slice A xb.length cb, .slice AK xk.length ck] 35)) := (Below.refl _ _).alloc (Nat.le_refl _) _
  have hX : BlkR 35 (w.alloc (.cells #[.int .i64 3, .int .i64 xn, .int .i64 xa, .int .u8 (xm.toNat : Int), .slice A xb.length cb, .slice AK xk.length ck] 35)) w.heap.size [.int .i64 3, .int .i64 xn, .int .i64 xa, .int .u8 (xm.toNat : Int), .slice A xb.length cb, .slice AK xk.length ck] := BlkR.new w _ _
  have HD := Lib.hid (And.intro h (And.intro ho hx))
  clear h ho hx
  unfold haCells
  go_enter Tryz.func15, Tryz.ntmps15
  have y0 := hX.cell (k := 0) rfl
  go_wp2_with fail
  revert hX hB1 y0
  generalize (w.alloc (.cells #[.int .i64 3, .int .i64 xn, .int .i64 xa, .int .u8 (xm.toNat : Int), .slice A xb.length cb, .slice AK xk.length ck] 35)) = w1
  intro hB1 hX y0
  obtain ⟨h, ho, hx⟩ := HD.out
  have hlt := h.lt D
  have M1 := HaAt.start (h.step D hB1) hX (fun hk => Nat.lt_irrefl _ (hlt.1 _ hk)) (fun hk => Nat.lt_irrefl _ (hlt.2 _ hk))
  have hx := hx.step hB1
  have M1 := M1.step D ((Below.refl _ w1).drew)
  have C1 : w1.drew.cell? ⟨w.heap.size, 1, none⟩ = some (.int .i64 xn) ∧ w1.drew.cell? ⟨w.heap.size, 2, none⟩ = some (.int .i64 xa) ∧ w1.drew.cell? ⟨w.heap.size, 3, none⟩ = some (.int .u8 (xm.toNat : Int)) := ⟨M1.x.cell rfl, M1.x.cell rfl, M1.x.cell rfl⟩
  
  obtain ⟨T, hT⟩ : ∃ T, T = (S.turn xn xa xm).1 := ⟨_, rfl⟩
  obtain ⟨r, hr⟩ : ∃ r, r = (S.turn xn xa xm).2 := ⟨_, rfl⟩
  have hops : T.ops ≤ S.ops + 4 := by rw [hT]; have := ops_turn S xn xa xm; omega
  have z3 := D.turn w1.drew b F S xn xa xm M1.d
  have z4 := fun w3 h => mTurn w3 c G S xn xa xm h
  unfold MirPost at z4
  rw [← hT, ← hr] at z3 z4
  have HH := Lib.hid (And.intro hB1 (And.intro hops hx))
  have M1 := Lib.hid M1
  clear hT hr hX hlt h ho hx hops HD
  go_region_held3 (fun w' => w'.cell? ⟨w.heap.size, 1, none⟩ = some (.int .i64 xn) ∧ w'.cell? ⟨w.heap.size, 2, none⟩ = some (.int .i64 xa) ∧ w'.cell? ⟨w.heap.size, 3, none⟩ = some (.int .u8 (xm.toNat : Int))) (first | assumption) (first
    | (go_at_call 40; refine z3.mono ?_; (rintro e w3 ⟨F3, rfl, d3, o3, f3⟩; have M3 := M1.out.chgD d3 o3 f3; have d3 := M3.m; have C3 : w3.cell? ⟨w.heap.size, 1, none⟩ = some (.int .i64 xn) ∧ w3.cell? ⟨w.heap.size, 2, none⟩ = some (.int .i64 xa) ∧ w3.cell? ⟨w.heap.size, 3, none⟩ = some (.int .u8 (xm.toNat : Int)) := ⟨M3.x.cell rfl, M3.x.cell rfl, M3.x.cell rfl⟩; have M3 := Lib.hid M3; clear o3 f3))
    | (go_at_call 41; refine (z4 w3 d3).mono ?_; (rintro e w4 ⟨G4, rfl, m4, o4, f4⟩; have M4 := M3.out.chgM D m4 o4 f4; have C4 : w4.cell? ⟨w.heap.size, 1, none⟩ = some (.int .i64 xn) ∧ w4.cell? ⟨w.heap.size, 2, none⟩ = some (.int .i64 xa) ∧ w4.cell? ⟨w.heap.size, 3, none⟩ = some (.int .u8 (xm.toNat : Int)) := ⟨M4.x.cell rfl, M4.x.cell rfl, M4.x.cell rfl⟩; have M4 := Lib.hid M4; clear m4 o4 f4)))
  go_wp2
  go_ret
  exact HaAt.post M4.out HH.out.1 HH.out.2.1
set_option maxRecDepth 100000 in
set_option maxHeartbeats 4000000 in
theorem harm_fuse (w : World) (b c : Nat) (F G : Nat → Prop) (S : DS) (m : HaM) (h : Two At w b c F G S) (ho : S.ops ≤ 900000) (hx : HaOk w F G m) (hk : m.kind = 4) :
    Calls Tryz.prog 15 #[.pointer (some ⟨b, 0, none⟩), .pointer (some ⟨c, 0, none⟩), .agg (haCells m).toArray] w (TwoPost At S b c F G w) := by
  obtain ⟨kd, xn, xa, xm, xb, A, cb, xk, AK, ck⟩ := m
  obtain rfl : kd = 4 := hk
  have hB1 : Below w.heap.size w (w.alloc (.cells #[.int .i64 4, .int .i64 xn, .int .i64 xa, .int .u8 (xm.toNat : Int), .slice A xb.length cb, .slice AK xk.length ck] 35)) := (Below.refl _ _).alloc (Nat.le_refl _) _
  have hX : BlkR 35 (w.alloc (.cells #[.int .i64 4, .int .i64 xn, .int .i64 xa, .int .u8 (xm.toNat : Int), .slice A xb.length cb, .slice AK xk.length ck] 35)) w.heap.size [.int .i64 4, .int .i64 xn, .int .i64 xa, .int .u8 (xm.toNat : Int), .slice A xb.length cb, .slice AK xk.length ck] := BlkR.new w _ _
  have HD := Lib.hid (And.intro h (And.intro ho hx))
  clear h ho hx
  unfold haCells
  go_enter Tryz.func15, Tryz.ntmps15
  have y0 := hX.cell (k := 0) rfl
  go_wp2_with fail
  revert hX hB1 y0
  generalize (w.alloc (.cells #[.int .i64 4, .int .i64 xn, .int .i64 xa, .int .u8 (xm.toNat : Int), .slice A xb.length cb, .slice AK xk.length ck] 35)) = w1
  intro hB1 hX y0
  obtain ⟨h, ho, hx⟩ := HD.out
  have hlt := h.lt D
  have M1 := HaAt.start (h.step D hB1) hX (fun hk => Nat.lt_irrefl _ (hlt.1 _ hk)) (fun hk => Nat.lt_irrefl _ (hlt.2 _ hk))
  have hx := hx.step hB1
  have M1 := M1.step D ((Below.refl _ w1).drew)
  have C1 : w1.drew.cell? ⟨w.heap.size, 1, none⟩ = some (.int .i64 xn) := M1.x.cell rfl
  
  obtain ⟨T, hT⟩ : ∃ T, T = (S.fuse xn).1 := ⟨_, rfl⟩
  obtain ⟨r, hr⟩ : ∃ r, r = (S.fuse xn).2 := ⟨_, rfl⟩
  have hops : T.ops ≤ S.ops + 4 := by rw [hT]; have := ops_fuse S xn; omega
  have z3 := D.fuse w1.drew b F S xn M1.d hx.nb.1 hx.nb.2
  have z4 := fun w3 h => mFuse w3 c G S xn h hx.nb.1 hx.nb.2
  unfold MirPost at z4
  rw [← hT, ← hr] at z3 z4
  have HH := Lib.hid (And.intro hB1 (And.intro hops hx))
  have M1 := Lib.hid M1
  clear hT hr hX hlt h ho hx hops HD
  go_region_held3 (fun w' => w'.cell? ⟨w.heap.size, 1, none⟩ = some (.int .i64 xn)) (first | assumption) (first
    | (go_at_call 42; refine z3.mono ?_; (rintro e w3 ⟨F3, rfl, d3, o3, f3⟩; have M3 := M1.out.chgD d3 o3 f3; have d3 := M3.m; have C3 : w3.cell? ⟨w.heap.size, 1, none⟩ = some (.int .i64 xn) := M3.x.cell rfl; have M3 := Lib.hid M3; clear o3 f3))
    | (go_at_call 43; refine (z4 w3 d3).mono ?_; (rintro e w4 ⟨rfl, m4, f4⟩; have M4 := M3.out.chgM D m4 (fun _ hk => .inl hk) f4; have C4 : w4.cell? ⟨w.heap.size, 1, none⟩ = some (.int .i64 xn) := M4.x.cell rfl; have M4 := Lib.hid M4; clear m4 f4)))
  go_wp2
  go_ret
  exact HaAt.post M4.out HH.out.1 HH.out.2.1
set_option maxRecDepth 100000 in
set_option maxHeartbeats 4000000 in
theorem harm_write (w : World) (b c : Nat) (F G : Nat → Prop) (S : DS) (m : HaM) (h : Two At w b c F G S) (ho : S.ops ≤ 900000) (hx : HaOk w F G m) (hk : m.kind = 5) :
    Calls Tryz.prog 15 #[.pointer (some ⟨b, 0, none⟩), .pointer (some ⟨c, 0, none⟩), .agg (haCells m).toArray] w (TwoPost At S b c F G w) := by
  obtain ⟨kd, xn, xa, xm, xb, A, cb, xk, AK, ck⟩ := m
  obtain rfl : kd = 5 := hk
  have hB1 : Below w.heap.size w (w.alloc (.cells #[.int .i64 5, .int .i64 xn, .int .i64 xa, .int .u8 (xm.toNat : Int), .slice A xb.length cb, .slice AK xk.length ck] 35)) := (Below.refl _ _).alloc (Nat.le_refl _) _
  have hX : BlkR 35 (w.alloc (.cells #[.int .i64 5, .int .i64 xn, .int .i64 xa, .int .u8 (xm.toNat : Int), .slice A xb.length cb, .slice AK xk.length ck] 35)) w.heap.size [.int .i64 5, .int .i64 xn, .int .i64 xa, .int .u8 (xm.toNat : Int), .slice A xb.length cb, .slice AK xk.length ck] := BlkR.new w _ _
  have HD := Lib.hid (And.intro h (And.intro ho hx))
  clear h ho hx
  unfold haCells
  go_enter Tryz.func15, Tryz.ntmps15
  have y0 := hX.cell (k := 0) rfl
  go_wp2_with fail
  revert hX hB1 y0
  generalize (w.alloc (.cells #[.int .i64 5, .int .i64 xn, .int .i64 xa, .int .u8 (xm.toNat : Int), .slice A xb.length cb, .slice AK xk.length ck] 35)) = w1
  intro hB1 hX y0
  obtain ⟨h, ho, hx⟩ := HD.out
  have hlt := h.lt D
  have M1 := HaAt.start (h.step D hB1) hX (fun hk => Nat.lt_irrefl _ (hlt.1 _ hk)) (fun hk => Nat.lt_irrefl _ (hlt.2 _ hk))
  have hx := hx.step hB1
  have M1 := M1.step D ((Below.refl _ w1).drew)
  have C1 : w1.drew.cell? ⟨w.heap.size, 1, none⟩ = some (.int .i64 xn) ∧ w1.drew.cell? ⟨w.heap.size, 4, none⟩ = some (.slice A xb.length cb) := ⟨M1.x.cell rfl, M1.x.cell rfl⟩
  
  obtain ⟨T, hT⟩ : ∃ T, T = (S.write xn xb).1 := ⟨_, rfl⟩
  obtain ⟨r, hr⟩ : ∃ r, r = (S.write xn xb).2 := ⟨_, rfl⟩
  have hops : T.ops ≤ S.ops + 4 := by rw [hT]; have := ops_write S xn xb; omega
  have z3 := D.write w1.drew b F S xn A xb xb.length cb M1.d (by omega) hx.rb rfl hx.cb
  have z4 := fun w3 h hr hn => mWrite_all w3 c G S xn A xb xb.length cb h (by omega) hr hn rfl
  unfold MirPost at z4
  rw [← hT, ← hr] at z3 z4
  have HH := Lib.hid (And.intro hB1 (And.intro hops hx))
  have M1 := Lib.hid M1
  clear hT hr hX hlt h ho hx hops HD
  go_region_held3 (fun w' => w'.cell? ⟨w.heap.size, 1, none⟩ = some (.int .i64 xn) ∧ w'.cell? ⟨w.heap.size, 4, none⟩ = some (.slice A xb.length cb)) (first | assumption) (first
    | (go_at_call 44; refine z3.mono ?_; (rintro e w3 ⟨F3, rfl, d3, o3, f3⟩; have M3 := M1.out.chgD d3 o3 f3; have d3 := M3.m; have C3 : w3.cell? ⟨w.heap.size, 1, none⟩ = some (.int .i64 xn) ∧ w3.cell? ⟨w.heap.size, 4, none⟩ = some (.slice A xb.length cb) := ⟨M3.x.cell rfl, M3.x.cell rfl⟩; obtain ⟨rb3, nb3⟩ := M3.bytes HH.out.2.2.rb HH.out.2.2.ab; have M3 := Lib.hid M3; clear o3 f3))
    | (go_at_call 36; refine (z4 w3 d3 rb3 (fun hne ad e => (nb3 hne ad e).2)).mono ?_; (rintro e w4 ⟨G4, rfl, m4, o4, f4⟩; have M4 := M3.out.chgM D m4 o4 f4; have C4 : w4.cell? ⟨w.heap.size, 1, none⟩ = some (.int .i64 xn) ∧ w4.cell? ⟨w.heap.size, 4, none⟩ = some (.slice A xb.length cb) := ⟨M4.x.cell rfl, M4.x.cell rfl⟩; have M4 := Lib.hid M4; clear m4 o4 f4)))
  go_wp2
  go_ret
  exact HaAt.post M4.out HH.out.1 HH.out.2.1
set_option maxRecDepth 100000 in
set_option maxHeartbeats 4000000 in
theorem harm_flush (w : World) (b c : Nat) (F G : Nat → Prop) (S : DS) (m : HaM) (h : Two At w b c F G S) (ho : S.ops ≤ 900000) (hx : HaOk w F G m) (hk : m.kind = 6) :
    Calls Tryz.prog 15 #[.pointer (some ⟨b, 0, none⟩), .pointer (some ⟨c, 0, none⟩), .agg (haCells m).toArray] w (TwoPost At S b c F G w) := by
  obtain ⟨kd, xn, xa, xm, xb, A, cb, xk, AK, ck⟩ := m
  obtain rfl : kd = 6 := hk
  have hB1 : Below w.heap.size w (w.alloc (.cells #[.int .i64 6, .int .i64 xn, .int .i64 xa, .int .u8 (xm.toNat : Int), .slice A xb.length cb, .slice AK xk.length ck] 35)) := (Below.refl _ _).alloc (Nat.le_refl _) _
  have hX : BlkR 35 (w.alloc (.cells #[.int .i64 6, .int .i64 xn, .int .i64 xa, .int .u8 (xm.toNat : Int), .slice A xb.length cb, .slice AK xk.length ck] 35)) w.heap.size [.int .i64 6, .int .i64 xn, .int .i64 xa, .int .u8 (xm.toNat : Int), .slice A xb.length cb, .slice AK xk.length ck] := BlkR.new w _ _
  have HD := Lib.hid (And.intro h (And.intro ho hx))
  clear h ho hx
  unfold haCells
  go_enter Tryz.func15, Tryz.ntmps15
  have y0 := hX.cell (k := 0) rfl
  go_wp2_with fail
  revert hX hB1 y0
  generalize (w.alloc (.cells #[.int .i64 6, .int .i64 xn, .int .i64 xa, .int .u8 (xm.toNat : Int), .slice A xb.length cb, .slice AK xk.length ck] 35)) = w1
  intro hB1 hX y0
  obtain ⟨h, ho, hx⟩ := HD.out
  have hlt := h.lt D
  have M1 := HaAt.start (h.step D hB1) hX (fun hk => Nat.lt_irrefl _ (hlt.1 _ hk)) (fun hk => Nat.lt_irrefl _ (hlt.2 _ hk))
  have hx := hx.step hB1
  have hops : S.flush.1.ops ≤ S.ops + 4 := by have := ops_flush S; omega
  have z3 := D.flush w1 b F S M1.d (by omega)
  have z4 := fun w3 h => mFlush w3 c G S h (by omega)
  unfold MirPost at z4
  obtain ⟨T, hT⟩ : ∃ T, T = S.flush.1 := ⟨_, rfl⟩
  obtain ⟨r, hr⟩ : ∃ r, r = S.flush.2 := ⟨_, rfl⟩
  rw [← hT, ← hr] at z3 z4
  rw [← hT] at hops
  have HH := Lib.hid (And.intro hB1 hops)
  have M1 := Lib.hid M1
  clear hT hr hX hlt h ho hx hops HD
  go_wp2_with (first
    | (go_at_call 45; refine z3.mono ?_; (rintro e w3 ⟨F3, rfl, d3, o3, f3⟩; have M3 := M1.out.chgD d3 o3 f3; have d3 := M3.m; have M3 := Lib.hid M3; clear o3 f3))
    | (go_at_call 37; refine (z4 w3 d3).mono ?_; (rintro e w4 ⟨G4, rfl, m4, o4, f4⟩; have M4 := Lib.hid (M3.out.chgM D m4 o4 f4))))
  go_ret
  have hp := HaAt.post M4.out HH.out.1 HH.out.2
  simpa using hp
set_option maxRecDepth 100000 in
set_option maxHeartbeats 4000000 in
theorem harm_crash (w : World) (b c : Nat) (F G : Nat → Prop) (S : DS) (m : HaM) (h : Two At w b c F G S) (ho : S.ops ≤ 900000) (hx : HaOk w F G m) (hk : m.kind = 2) :
    Calls Tryz.prog 15 #[.pointer (some ⟨b, 0, none⟩), .pointer (some ⟨c, 0, none⟩), .agg (haCells m).toArray] w (TwoPost At S b c F G w) := by
  obtain ⟨kd, xn, xa, xm, xb, A, cb, xk, AK, ck⟩ := m
  obtain rfl : kd = 2 := hk
  have hB1 : Below w.heap.size w (w.alloc (.cells #[.int .i64 2, .int .i64 xn, .int .i64 xa, .int .u8 (xm.toNat : Int), .slice A xb.length cb, .slice AK xk.length ck] 35)) := (Below.refl _ _).alloc (Nat.le_refl _) _
  have hX : BlkR 35 (w.alloc (.cells #[.int .i64 2, .int .i64 xn, .int .i64 xa, .int .u8 (xm.toNat : Int), .slice A xb.length cb, .slice AK xk.length ck] 35)) w.heap.size [.int .i64 2, .int .i64 xn, .int .i64 xa, .int .u8 (xm.toNat : Int), .slice A xb.length cb, .slice AK xk.length ck] := BlkR.new w _ _
  have HD := Lib.hid (And.intro h (And.intro ho hx))
  clear h ho hx
  unfold haCells
  go_enter Tryz.func15, Tryz.ntmps15
  have y0 := hX.cell (k := 0) rfl
  go_wp2_with fail
  revert hX hB1 y0
  generalize (w.alloc (.cells #[.int .i64 2, .int .i64 xn, .int .i64 xa, .int .u8 (xm.toNat : Int), .slice A xb.length cb, .slice AK xk.length ck] 35)) = w1
  intro hB1 hX y0
  obtain ⟨h, ho, hx⟩ := HD.out
  have hlt := h.lt D
  have M1 := HaAt.start (h.step D hB1) hX (fun hk => Nat.lt_irrefl _ (hlt.1 _ hk)) (fun hk => Nat.lt_irrefl _ (hlt.2 _ hk))
  have hx := hx.step hB1
  have hops : (S.crash xk xn).ops ≤ S.ops + 4 := Nat.le_add_right _ _
  obtain ⟨q1, q2⟩ := M1.rows hx.rk hx.ak
  have z3 := mCrash w1 c G S AK xk xk.length ck xn M1.m q1 rfl (fun hne ad e => (q2 hne ad e).2)
  have z4 := fun w3 h hr => D.crash w3 b F S AK xk xk.length ck xn h hr rfl hx.ck
  unfold MirPost0 at z3
  obtain ⟨T, hT⟩ : ∃ T, T = S.crash xk xn := ⟨_, rfl⟩
  rw [← hT] at z3 z4 hops
  have HH := Lib.hid (And.intro hB1 (And.intro hops (And.intro hx.rk hx.ak)))
  have x1 := M1.x.cell (k := 1) rfl
  have x5 := M1.x.cell (k := 5) rfl
  have M1 := Lib.hid M1
  clear hT hX hlt h ho hx hops HD q1 q2
  go_wp2_with (first
    | (go_at_call 38; refine z3.mono ?_; (rintro e w3 ⟨G3, rfl, m3, o3, f3⟩; have M3 := M1.out.chgM D m3 o3 f3; have d3 := M3.d; have r3 := (M3.rows HH.out.2.2.1 HH.out.2.2.2).1; have c1 := M3.x.cell (k := 1) rfl; have c5 := M3.x.cell (k := 5) rfl; have M3 := Lib.hid M3; clear m3 o3 f3))
    | (go_at_call 39; refine (z4 w3 d3 r3).mono ?_; (rintro e w4 ⟨F4, rfl, d4, o4, f4⟩; have M4 := Lib.hid (M3.out.chgD d4 o4 f4))))
  go_ret
  exact HaAt.post M4.out HH.out.1 HH.out.2.1
set_option maxRecDepth 100000 in
set_option maxHeartbeats 4000000 in
theorem harm_none (w : World) (b c : Nat) (F G : Nat → Prop) (S : DS) (m : HaM) (h : Two At w b c F G S) (ho : S.ops ≤ 900000) (hx : HaOk w F G m) (hk : m.kind ≠ 2 ∧ m.kind ≠ 3 ∧ m.kind ≠ 4 ∧ m.kind ≠ 5 ∧ m.kind ≠ 6) :
    Calls Tryz.prog 15 #[.pointer (some ⟨b, 0, none⟩), .pointer (some ⟨c, 0, none⟩), .agg (haCells m).toArray] w (TwoPost At S b c F G w) := by
  obtain ⟨kd, xn, xa, xm, xb, A, cb, xk, AK, ck⟩ := m
  have hB1 : Below w.heap.size w (w.alloc (.cells #[.int .i64 kd, .int .i64 xn, .int .i64 xa, .int .u8 (xm.toNat : Int), .slice A xb.length cb, .slice AK xk.length ck] 35)) := (Below.refl _ _).alloc (Nat.le_refl _) _
  have hX : BlkR 35 (w.alloc (.cells #[.int .i64 kd, .int .i64 xn, .int .i64 xa, .int .u8 (xm.toNat : Int), .slice A xb.length cb, .slice AK xk.length ck] 35)) w.heap.size [.int .i64 kd, .int .i64 xn, .int .i64 xa, .int .u8 (xm.toNat : Int), .slice A xb.length cb, .slice AK xk.length ck] := BlkR.new w _ _
  have hk : kd ≠ 2 ∧ kd ≠ 3 ∧ kd ≠ 4 ∧ kd ≠ 5 ∧ kd ≠ 6 := hk
  have t2 : (kd == 2) = false := by simpa using hk.1
  have t3 : (kd == 3) = false := by simpa using hk.2.1
  have t4 : (kd == 4) = false := by simpa using hk.2.2.1
  have t5 : (kd == 5) = false := by simpa using hk.2.2.2.1
  have t6 : (kd == 6) = false := by simpa using hk.2.2.2.2
  clear hk
  have HD := Lib.hid (And.intro h (And.intro ho hx))
  clear h ho hx
  unfold haCells
  go_enter Tryz.func15, Tryz.ntmps15
  have y0 := hX.cell (k := 0) rfl
  go_wp2
  go_ret
  obtain ⟨h, ho, hx⟩ := HD.out
  have hlt := h.lt D
  exact HaAt.post (HaAt.start (h.step D hB1) hX (fun hk => Nat.lt_irrefl _ (hlt.1 _ hk)) (fun hk => Nat.lt_irrefl _ (hlt.2 _ hk))) hB1 (Nat.le_add_right _ _)
theorem harm_any (w : World) (b c : Nat) (F G : Nat → Prop) (S : DS) (m : HaM) (h : Two At w b c F G S) (ho : S.ops ≤ 900000) (hx : HaOk w F G m) :
    Calls Tryz.prog 15 #[.pointer (some ⟨b, 0, none⟩), .pointer (some ⟨c, 0, none⟩), .agg (haCells m).toArray] w (TwoPost At S b c F G w) := by
  by_cases h2 : m.kind = 2
  · exact harm_crash D w b c F G S m h ho hx h2
  by_cases h3 : m.kind = 3
  · exact harm_turn D w b c F G S m h ho hx h3
  by_cases h4 : m.kind = 4
  · exact harm_fuse D w b c F G S m h ho hx h4
  by_cases h5 : m.kind = 5
  · exact harm_write D w b c F G S m h ho hx h5
  by_cases h6 : m.kind = 6
  · exact harm_flush D w b c F G S m h ho hx h6
  exact harm_none D w b c F G S m h ho hx ⟨h2, h3, h4, h5, h6⟩
end
end Go.Proofs.YtcahpodmcklnbaaGreatDoor
/-
  What the slices of a call are. Conditions: none.
-/
namespace Go.Proofs.YtcahpodmcklnbaaGreatDoor
open Go.RowKit

/-- what the slices of a call are, below block B -/
structure HaIn (w : World) (B : Nat) (m : HaM) : Prop where
  b : BytesAt w B m.A m.b
  k : RowAt w B m.AK (m.keeps.map Value.bool)
  n : -9223372036854775808 ≤ m.n ∧ m.n ≤ 9223372036854775807
  cb : m.b.length ≤ m.cb
  ck : m.keeps.length ≤ m.ck
theorem HaIn.below {w w' : World} {B : Nat} {m : HaM} (h : HaIn w B m) (hb : Below B w w') : HaIn w' B m := ⟨h.b.below hb, h.k.below hb, h.n, h.cb, h.ck⟩
end Go.Proofs.YtcahpodmcklnbaaGreatDoor
