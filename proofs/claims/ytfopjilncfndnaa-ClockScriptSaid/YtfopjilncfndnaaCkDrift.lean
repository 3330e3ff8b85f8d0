/-
  The walk of ClockDrifts. Conditions: none.
-/
import Derived.Test.YtfopjilncfndnaaCkLaw
import Derived.Test.YtfopjilncfndnaaCkRuns
import Derived.Test.YtfopjilncfndnaaBa
import Derived.Shelf.RegionOpen
namespace Go.Proofs.Ytfopjilncfndnaa
open Go.RowKit Ck

/-- the cells of the array at k -/
theorem tk_at {w wr : World} {A0 : Option Addr} {l : List T3} {m : T3} {k : Nat} (hA : TksAt w w.heap.size A0 l) (hb : Below w.heap.size w wr) (hm : l[k]? = some m) : ∃ ad, A0 = some ad ∧
    wr.cell? (ad.add (k * 3)) = some (.int .i64 m.a) ∧ wr.cell? ⟨(ad.add (k * 3)).block, (ad.add (k * 3)).off + 1, none⟩ = some (.int .i64 m.b) ∧ wr.cell? ⟨(ad.add (k * 3)).block, (ad.add (k * 3)).off + 2, none⟩ = some (.int .i64 m.c) := by
  obtain ⟨ad, e, _, hc⟩ := (hA.below hb).at_ (by rintro rfl; simp at hm)
  exact ⟨ad, e, hc k m hm 0 _ rfl, hc k m hm 1 _ rfl, hc k m hm 2 _ rfl⟩
/-- what the law remembers of the clocks, ahead of round i -/
def wasV (t : T3) (l : List T3) (f i : Nat) : T3 := if f < i then (St t l f).t else ⟨0, 0, 0⟩
def sinV (t : T3) (l : List T3) (f i : Nat) : Nat := if f < i then (St t l f).n else 0
theorem wasV_eq {t : T3} {l : List T3} {i : Nat} : wasV t l i (i + 1) = (St t l i).t := if_pos (Nat.lt_succ_self _)
theorem sinV_eq {t : T3} {l : List T3} {i : Nat} : sinV t l i (i + 1) = (St t l i).n := if_pos (Nat.lt_succ_self _)
theorem wasV_ne {t : T3} {l : List T3} {f i : Nat} (h : f ≠ i) : wasV t l f (i + 1) = wasV t l f i := by
  unfold wasV
  by_cases e : f < i
  · rw [if_pos e, if_pos (by omega)]
  · rw [if_neg e, if_neg (by omega)]
theorem sinV_ne {t : T3} {l : List T3} {f i : Nat} (h : f ≠ i) : sinV t l f (i + 1) = sinV t l f i := by
  unfold sinV
  by_cases e : f < i
  · rw [if_pos e, if_pos (by omega)]
  · rw [if_neg e, if_neg (by omega)]
/-- the clocks, and the array beside them -/
structure Dr (W wr : World) (g hb : Nat) (s : S) (x : T3) : Prop where
  ck : Cz W wr g s
  was : BlkR 22 wr hb (t3Cells x)
  ne : hb ≠ g
  ge : W.heap.size ≤ hb
theorem Dr.step {W w w' : World} {g hb : Nat} {s : S} {x : T3} (h : Dr W w g hb s x) (B : Below w.heap.size w w') : Dr W w' g hb s x := ⟨h.ck.step B, h.was.below B h.was.lt, h.ne, h.ge⟩
theorem Dr.tick {W w w' : World} {g hb : Nat} {s s2 : S} {x : T3} (h : Dr W w g hb s x) (h2 : Cz W w' g s2) (F : Frame (OneB g) w w') : Dr W w' g hb s2 x := ⟨h2, (F.block hb h.was.lt h.ne).trans h.was, h.ne, h.ge⟩
theorem Dr.store {W w w' : World} {g hb : Nat} {s : S} {x y : T3} (h : Dr W w g hb s x) (b : BlkR 22 w' hb (t3Cells y)) (B : Below hb w w') (hs : w'.heap.size = w.heap.size) (hk : ∀ k, k ≠ hb → w'.heap[k]? = w.heap[k]?) : Dr W w' g hb s y :=
  ⟨h.ck.frame (X := fun k => k = hb) ⟨B.os, B.tape, B.output, Nat.le_of_eq hs.symm, fun k _ hne => hk k hne⟩ (fun e => h.ne e.symm) (fun _ e => e ▸ h.ge), b, h.ne, h.ge⟩
section
variable {t : T3} {A : Option Addr} {l : List T3} {c : Nat} {fr : Int} {w : World}
set_option maxRecDepth 100000 in
set_option maxHeartbeats 1000000 in
theorem ckDrifts_none (he : ¬ Btw 0 M t) : Calls Try.prog 5 #[.agg (t3Cells t).toArray, .slice A l.length c, .int .i64 fr] w fun e w' => e = .returned (.bool true) ∧ Below w.heap.size w w' := by
  obtain ⟨w1, hw1⟩ : ∃ w1, w1 = w.alloc (.cells (t3Cells t).toArray 22) := ⟨_, rfl⟩
  have B1 : Below w.heap.size w w1 := by rw [hw1]; exact step_alloc (Below.refl _ w) _
  have b1 : BlkR 22 w1 w.heap.size (t3Cells t) := by rw [hw1]; exact BlkR.new w _ _
  have HS := Lib.hid b1
  have BB := Lib.hid B1
  have za := ckAwake_any w1
  have zn := fun wy => ckNew_no t he wy
  obtain ⟨xs, hxs⟩ : ∃ xs, xs = t3Cells t := ⟨_, rfl⟩
  have HX := Lib.hid hxs
  rw [← hxs] at hw1 zn ⊢
  obtain ⟨n, hn⟩ : ∃ n, n = l.length := ⟨_, rfl⟩
  rw [← hn]
  clear hxs b1 B1 he hn
  go_enter Try.func5, Try.ntmps5
  go_wp2_with fail
  rw [← hw1]
  clear hw1
  go_wp2_with (first
    | (go_at_call 10; (with_reducible refine za.mono ?_); (rintro e w2 ⟨rfl, B2⟩; have b2 := Lib.hid (HS.out.below B2 HS.out.lt); have zn2 := zn w2; have C2 := Lib.hid (step_trans BB.out B2); clear B2))
    | ((with_reducible refine atWorld w2 ?_); refine wpList_loadRow (w := w2) info_t3 rfl (.tmp 3) rfl w.heap.size 0 xs rfl (by rw [HX.out]; rfl) (rangeOf (by rw [HX.out]; exact b2.out)) ?_)
    | (go_at_call 8; (with_reducible refine zn2.mono ?_); (rintro e w3 ⟨rfl, B3⟩)))
  go_ret
  exact ⟨rfl, step_trans C2.out B3⟩
set_option maxRecDepth 100000 in
set_option maxHeartbeats 1000000 in
theorem ckDrifts_long (he : Btw 0 M t) (hl : 200 < l.length) : Calls Try.prog 5 #[.agg (t3Cells t).toArray, .slice A l.length c, .int .i64 fr] w fun e w' => e = .returned (.bool true) ∧ Below w.heap.size w w' := by
  obtain ⟨w1, hw1⟩ : ∃ w1, w1 = w.alloc (.cells (t3Cells t).toArray 22) := ⟨_, rfl⟩
  have B1 : Below w.heap.size w w1 := by rw [hw1]; exact step_alloc (Below.refl _ w) _
  have b1 : BlkR 22 w1 w.heap.size (t3Cells t) := by rw [hw1]; exact BlkR.new w _ _
  have HS := Lib.hid b1
  have BB := Lib.hid B1
  have za := ckAwake_any w1
  have zn := fun wy B => cz_new t he w wy B
  obtain ⟨xs, hxs⟩ : ∃ xs, xs = t3Cells t := ⟨_, rfl⟩
  have HX := Lib.hid hxs
  rw [← hxs] at hw1 zn ⊢
  obtain ⟨n, hn⟩ : ∃ n, n = l.length := ⟨_, rfl⟩
  rw [← hn] at hl ⊢
  have hl2 : (200 : Int) < (n : Int) := by omega
  clear hxs b1 B1 he hn hl
  go_enter Try.func5, Try.ntmps5
  go_wp2_with fail
  rw [← hw1]
  clear hw1
  go_wp2_with (first
    | (go_at_call 10; (with_reducible refine za.mono ?_); (rintro e w2 ⟨rfl, B2⟩; have b2 := Lib.hid (HS.out.below B2 HS.out.lt); have zn2 := zn w2 (step_trans BB.out B2); clear B2))
    | ((with_reducible refine atWorld w2 ?_); refine wpList_loadRow (w := w2) info_t3 rfl (.tmp 3) rfl w.heap.size 0 xs rfl (by rw [HX.out]; rfl) (rangeOf (by rw [HX.out]; exact b2.out)) ?_)
    | (go_at_call 8; (with_reducible refine zn2.mono ?_); (rintro e w3 ⟨g, rfl, H3, _, _⟩; have H3 := Lib.hid H3.fr)))
  go_ret
  exact ⟨rfl, H3.out⟩
end
end Go.Proofs.Ytfopjilncfndnaa
