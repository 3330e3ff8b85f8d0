/-
  Clocks that are nil, or that nobody made; the walk of ClockNone. Conditions: none.
-/
import Derived.Test.YtfopjilncfndnaaCkLaw
namespace Go.Proofs.Ytfopjilncfndnaa
open Go.RowKit Ck

def NoCk (w : World) (p : Value) : Prop := p = .pointer none ∨ ∃ g, p = .pointer (some ⟨g, 0, none⟩) ∧ w.cell? ⟨g, 0, none⟩ = some (.pointer none)
theorem NoCk.step {w w' : World} {p : Value} (h : NoCk w p) (B : Below w.heap.size w w') : NoCk w' p := by
  rcases h with h | ⟨g, h, h0⟩
  · exact .inl h
  · exact .inr ⟨g, h, (B.cell (p := ⟨g, 0, none⟩) (World.block_lt_of_cell? w _ h0)).trans h0⟩
theorem ckMade_none (w : World) (p : Value) (h : NoCk w p) : Calls Try.prog 19 #[p] w fun e w' => e = .returned (.bool false) ∧ w = w' := by
  rcases h with rfl | ⟨g, rfl, h0⟩
  · exact ckMade_nil w
  · exact ckMade_no g w h0
section
variable {w : World} {p : Value} (h : NoCk w p)
include h
set_option maxRecDepth 100000 in
theorem ckTicks_no : Calls Try.prog 13 #[p] w fun e w' => e = .returned (.int .i64 0) ∧ w = w' := by
  have zm := ckMade_none w p h
  clear h
  go_enter Try.func13, Try.ntmps13
  go_wp2_with (go_at_call 19; refine zm.mono ?_; (rintro e w1 ⟨rfl, rfl⟩))
  go_ret
  exact ⟨rfl, rfl⟩
set_option maxRecDepth 100000 in
theorem ckKept_no : Calls Try.prog 14 #[p] w fun e w' => e = .returned (.bool false) ∧ w = w' := by
  have zm := ckMade_none w p h
  clear h
  go_enter Try.func14, Try.ntmps14
  go_wp2_with (go_at_call 19; refine zm.mono ?_; (rintro e w1 ⟨rfl, rfl⟩))
  go_ret
  exact ⟨rfl, rfl⟩
set_option maxRecDepth 100000 in
theorem ckNow_no (k : Int) : Calls Try.prog 15 #[p, .int .i64 k] w fun e w' => e = .returned (.int .i64 0) ∧ w = w' := by
  have zm := ckMade_none w p h
  clear h
  go_enter Try.func15, Try.ntmps15
  go_wp2_with (go_at_call 19; refine zm.mono ?_; (rintro e w1 ⟨rfl, rfl⟩))
  go_ret
  exact ⟨rfl, rfl⟩
set_option maxRecDepth 100000 in
theorem ckTick_none (t : T3) : Calls Try.prog 11 #[p, .agg (t3Cells t).toArray] w fun e w' => e = .returned (.int .i64 1) ∧ Below w.heap.size w w' := by
  obtain ⟨w1, hw1⟩ : ∃ w1, w1 = w.alloc (.cells (t3Cells t).toArray 22) := ⟨_, rfl⟩
  have B1 : Below w.heap.size w w1 := by rw [hw1]; exact step_alloc (Below.refl _ w) _
  have zm := ckMade_none w1 p (h.step B1)
  have BB := Lib.hid B1
  obtain ⟨xs, hxs⟩ : ∃ xs, xs = t3Cells t := ⟨_, rfl⟩
  rw [← hxs] at hw1 ⊢
  clear h hxs B1
  go_enter Try.func11, Try.ntmps11
  go_wp2_with fail
  rw [← hw1]
  clear hw1
  go_wp2_with (go_at_call 19; refine zm.mono ?_; (rintro e w2 ⟨rfl, rfl⟩))
  go_ret
  exact ⟨rfl, BB.out⟩
end
def ckZ : Array Value := #[.pointer none, .int .i64 0, .int .i64 0, .int .i64 0, .bool false, .int .i64 0]
/-- the variables of the statement: the parts, clocks that nobody made, the list of both -/
def noC (t : T3) (w : World) : World := ((w.alloc (.cells (t3Cells t).toArray 22)).alloc (.cells ckZ 40)).alloc (.cells #[.pointer none, .pointer (some ⟨w.heap.size + 1, 0, none⟩)] 24)
theorem noC_facts (t : T3) (w : World) : NoCk (noC t w) (.pointer (some ⟨w.heap.size + 1, 0, none⟩)) ∧ BlkR 24 (noC t w) (w.heap.size + 2) [.pointer none, .pointer (some ⟨w.heap.size + 1, 0, none⟩)] ∧ Below w.heap.size w (noC t w) ∧ BlkR 22 (noC t w) w.heap.size (t3Cells t) := by
  obtain ⟨w0, hw0⟩ : ∃ w0, w0 = w.alloc (.cells (t3Cells t).toArray 22) := ⟨_, rfl⟩
  obtain ⟨w1, hw1⟩ : ∃ w1, w1 = w0.alloc (.cells ckZ 40) := ⟨_, rfl⟩
  have hw2 : noC t w = w1.alloc (.cells #[.pointer none, .pointer (some ⟨w.heap.size + 1, 0, none⟩)] 24) := by rw [hw1, hw0]; rfl
  have s0 : w0.heap.size = w.heap.size + 1 := by rw [hw0]; simp
  have s1 : w1.heap.size = w.heap.size + 2 := by rw [hw1]; simp [s0]
  have B0 : Below w.heap.size w w0 := by rw [hw0]; exact (Below.refl _ _).alloc (Nat.le_refl _) _
  have B1 : Below w0.heap.size w0 w1 := by rw [hw1]; exact (Below.refl _ _).alloc (Nat.le_refl _) _
  have B2 : Below w1.heap.size w1 (noC t w) := by rw [hw2]; exact (Below.refl _ _).alloc (Nat.le_refl _) _
  have b0 : BlkR 22 w0 w.heap.size (t3Cells t) := by rw [hw0]; exact BlkR.new w _ _
  have b1 : BlkR 40 w1 w0.heap.size ckZ.toList := by rw [hw1]; exact BlkR.new w0 ckZ.toList _
  have b2 : BlkR 24 (noC t w) w1.heap.size [.pointer none, .pointer (some ⟨w.heap.size + 1, 0, none⟩)] := by rw [hw2]; exact BlkR.new w1 _ _
  rw [s1] at b2
  have c1 := (b1.below B2 b1.lt).cell (k := 0) rfl
  rw [s0] at c1
  exact ⟨.inr ⟨_, rfl, c1⟩, b2, step_trans B0 (step_trans B1 B2), b0.below (step_trans B1 B2) b0.lt⟩
set_option maxRecDepth 100000 in
set_option maxHeartbeats 2000000 in
theorem ckNone_any (t : T3) (k0 : Int) (w : World) : Calls Try.prog 4 #[.agg (t3Cells t).toArray, .int .i64 k0] w fun en w' => en = .returned (.bool true) ∧ Below w.heap.size w w' := by
  have zw := fun w => ckAwake_any w
  have ztk := fun (w : World) p (h : NoCk w p) => ckTick_none h t
  have znw := fun (w : World) p (h : NoCk w p) => ckNow_no h k0
  have zkp := fun (w : World) p (h : NoCk w p) => ckKept_no h
  have zts := fun (w : World) p (h : NoCk w p) => ckTicks_no h
  obtain ⟨W, hW⟩ : ∃ W, W = noC t w := ⟨_, rfl⟩
  have hf := noC_facts t w
  rw [← hW] at hf
  unfold noC ckZ at hW
  have HS := Lib.hid hf.1
  have HB := Lib.hid hf.2.2.1
  have HF := Lib.hid hf.2.1
  have HT := Lib.hid hf.2.2.2
  clear hf
  obtain ⟨xs, hxs⟩ : ∃ xs, xs = t3Cells t := ⟨_, rfl⟩
  have HX := Lib.hid hxs
  rw [← hxs] at hW ztk ⊢
  clear hxs
  go_enter Try.func4, Try.ntmps4
  go_wp2
  rw [← hW]
  clear hW
  obtain ⟨h, hh⟩ : ∃ h, h = w.heap.size := ⟨_, rfl⟩
  rw [← hh] at HF HS HT ⊢
  clear hh
  go_loopw [6] (fun ix wr => ∃ x : Int, (x = 0 ∨ x = 1 ∨ x = 2) ∧ ix = .int .i64 x ∧ Below W.heap.size W wr) (fun ix _ => 2 - vI ix)
  case atStart => exact ⟨0, .inl rfl, rfl, Below.refl _ _⟩
  case round =>
    obtain ⟨x, hx, rfl, hbr⟩ := hrel
    have HBR := Lib.hid hbr
    have xb := Lib.hid (HT.out.below hbr HT.out.lt)
    have xt := Lib.hid (HF.out.below hbr HF.out.lt)
    rcases hx with rfl | rfl | rfl
    · have p0 : NoCk wr (.pointer none) := .inl rfl
      have y := xt.out.cell (k := 0) rfl
      clear hbr
      go_wp2_with (first
        | ((with_reducible refine atWorld wr ?_); refine wpList_loadRow (w := wr) info_t3 rfl (.tmp 2) rfl h 0 xs rfl (by rw [HX.out]; rfl) (rangeOf (by rw [HX.out]; exact xb.out)) ?_)
        | (go_at_call 11; refine (ztk wr _ p0).mono ?_; (rintro e w1 ⟨rfl, B1⟩; have p1 := p0.step B1; have B1 := Lib.hid B1))
        | (go_at_call 15; refine (znw w1 _ p1).mono ?_; (rintro e w' ⟨rfl, rfl⟩))
        | (go_at_call 14; refine (zkp w1 _ p1).mono ?_; (rintro e w' ⟨rfl, rfl⟩))
        | (go_at_call 13; refine (zts w1 _ p1).mono ?_; (rintro e w' ⟨rfl, rfl⟩)))
      exact ⟨⟨1, .inr (.inl rfl), rfl, step_trans HBR.out B1.out⟩, by decide⟩
    · have p0 : NoCk wr (.pointer (some ⟨h + 1, 0, none⟩)) := HS.out.step hbr
      have y := xt.out.cell (k := 1) rfl
      clear hbr
      go_wp2_with (first
        | ((with_reducible refine atWorld wr ?_); refine wpList_loadRow (w := wr) info_t3 rfl (.tmp 2) rfl h 0 xs rfl (by rw [HX.out]; rfl) (rangeOf (by rw [HX.out]; exact xb.out)) ?_)
        | (go_at_call 11; refine (ztk wr _ p0).mono ?_; (rintro e w1 ⟨rfl, B1⟩; have p1 := p0.step B1; have B1 := Lib.hid B1))
        | (go_at_call 15; refine (znw w1 _ p1).mono ?_; (rintro e w' ⟨rfl, rfl⟩))
        | (go_at_call 14; refine (zkp w1 _ p1).mono ?_; (rintro e w' ⟨rfl, rfl⟩))
        | (go_at_call 13; refine (zts w1 _ p1).mono ?_; (rintro e w' ⟨rfl, rfl⟩)))
      exact ⟨⟨2, .inr (.inr rfl), rfl, step_trans HBR.out B1.out⟩, by decide⟩
    · clear hbr
      go_wp2_with (go_at_call 10; refine (zw wr).mono ?_; (rintro e w2 ⟨rfl, hB2⟩))
      go_ret
      exact ⟨rfl, HB.out.trans ((step_trans HBR.out hB2).mono HB.out.size)⟩
end Go.Proofs.Ytfopjilncfndnaa
