/-
  What the program's maps of dirty blocks do, over any disk that does what the document says. Conditions: the table of crc lies as the program's text lays it; at most so many changes.
-/
import Derived.Test.YtcahpodmcklnbaaGreatDoorDyMem
import Derived.Test.YtcahpodmcklnbaaGreatDoorSlKeep
namespace Go.Proofs.YtcahpodmcklnbaaGreatDoor
open Go.RowKit Fix

/-- a map's cells: its disk at block b, its place, itself, its set -/
def mpL (b : Nat) (p : Int) (g s : Nat) : List Value := [.pointer (some ⟨b, 0, none⟩), .int .i64 p, .pointer (some ⟨g, 0, none⟩), .int .u64 (s : Int)]
structure MpAt (w : World) (g b : Nat) (p : Int) (s : Nat) : Prop where
  blk : BlkR 102 w g (mpL b p g s)
  lt : s < 2 ^ 64
section
variable {w w' : World} {g b s : Nat} {p : Int}
theorem MpAt.step (h : MpAt w g b p s) (hb : Below w.heap.size w w') : MpAt w' g b p s := ⟨h.blk.step hb, h.lt⟩
theorem MpAt.frame {F : Nat → Prop} (h : MpAt w g b p s) (hF : Frame F w w') (hg : ¬ F g) : MpAt w' g b p s := ⟨h.blk.frame hF hg, h.lt⟩
theorem MpAt.cells (h : MpAt w g b p s) : w.cell? ⟨g, 0, none⟩ = some (.pointer (some ⟨b, 0, none⟩)) ∧ w.cell? ⟨g, 1, none⟩ = some (.int .i64 p) ∧ w.cell? ⟨g, 2, none⟩ = some (.pointer (some ⟨g, 0, none⟩)) ∧ w.cell? ⟨g, 3, none⟩ = some (.int .u64 (s : Int)) ∧ w.frozen? ⟨g, 3, none⟩ = false :=
  ⟨h.blk.cell rfl, h.blk.cell rfl, h.blk.cell rfl, h.blk.cell rfl, h.blk.frozen 3⟩
theorem MpAt.set_ (h : MpAt w g b p s) {n : Nat} (hn : n < 2 ^ 64) : MpAt (w.setCell ⟨g, 3, none⟩ (.int .u64 (n : Int))) g b p n := ⟨h.blk.set_ 3 _, hn⟩
end
set_option maxRecDepth 100000 in
theorem mpMade_yes (w : World) (g : Nat) (h0 : w.cell? ⟨g, 2, none⟩ = some (.pointer (some ⟨g, 0, none⟩))) : Calls Tryz.prog 51 #[.pointer (some ⟨g, 0, none⟩)] w fun e w' => e = .returned (.bool true) ∧ w = w' := by
  have he : ∀ w, (binOp .eql 42 (.pointer (some ⟨g, 0, none⟩)) (.pointer (some ⟨g, 0, none⟩))).run Tryz.prog w = .ok (.bool true) w := fun w => by
    obtain ⟨j, hj⟩ : ∃ j, Tryz.prog.info? 102 = some j := Option.isSome_iff_exists.1 (by kernel_rfl)
    exact run_eql_ptr_same w _ (tp := 42) (te := 102) (by kernel_rfl) hj
  go_enter Tryz.func51, Tryz.ntmps51
  go_wp2
  go_ret
  exact ⟨rfl, rfl⟩
theorem mpOr (s v : Nat) (hs : s < 2 ^ 64) (hv : v < 2 ^ 64) : bits .or .u64 (s : Int) (v : Int) = ((s ||| v : Nat) : Int) := u64_or_nat _ _ hs hv
theorem mpCut (s v : Nat) (hs : s < 2 ^ 64) (hv : v < 2 ^ 64) : bits .andNot .u64 (s : Int) (v : Int) = ((Dy.cut s v : Nat) : Int) := u64_andNot_nat _ _ hs hv
section
variable {w : World} {g b s : Nat} {p : Int} (h : MpAt w g b p s)
include h
set_option maxRecDepth 100000 in
theorem mpBits_any : Calls Tryz.prog 17 #[.pointer (some ⟨g, 0, none⟩)] w fun e w' => e = .returned (.int .u64 (s : Int)) ∧ w = w' := by
  obtain ⟨x0, x1, x2, x3, x4⟩ := h.cells
  have zm := mpMade_yes w g x2
  clear h
  go_enter Tryz.func17, Tryz.ntmps17
  go_wp2_with (go_at_call 51; refine zm.mono ?_; (rintro e w2 ⟨rfl, rfl⟩))
  go_ret
  exact ⟨rfl, rfl⟩
set_option maxRecDepth 100000 in
theorem mpWith_any (v : Nat) (hv : v < 2 ^ 64) : Calls Tryz.prog 54 #[.pointer (some ⟨g, 0, none⟩), .int .u64 (v : Int)] w fun e w' => e = .returned (.int .u64 ((s ||| v : Nat) : Int)) ∧ w = w' := by
  obtain ⟨x0, x1, x2, x3, x4⟩ := h.cells
  have ho := mpOr s v h.lt hv
  clear h
  go_enter Tryz.func54, Tryz.ntmps54
  go_wp2
  go_ret
  exact ⟨rfl, rfl⟩
set_option maxRecDepth 100000 in
theorem mpWithout_any (v : Nat) (hv : v < 2 ^ 64) : Calls Tryz.prog 57 #[.pointer (some ⟨g, 0, none⟩), .int .u64 (v : Int)] w fun e w' => e = .returned (.int .u64 (Dy.cut s v : Int)) ∧ w = w' := by
  obtain ⟨x0, x1, x2, x3, x4⟩ := h.cells
  have ho := mpCut s v h.lt hv
  clear h
  go_enter Tryz.func57, Tryz.ntmps57
  go_wp2
  go_ret
  exact ⟨rfl, rfl⟩
end
/-- what becomes of a disk, and of a map over it -/
def MpPost (At : World → Nat → (Nat → Prop) → DS → Prop) (b : Nat) (F : Nat → Prop) (g : Nat) (p : Int) (T : DS × Int) (n : Nat) (w : World) (e : Ending) (w' : World) : Prop :=
  ∃ F', e = .returned (.int .i64 T.2) ∧ At w' b F' T.1 ∧ MpAt w' g b p n ∧ ¬ F' g ∧ (∀ k, F' k → F k ∨ w.heap.size ≤ k) ∧ Frame (fun k => F k ∨ k = g) w w'
/-- a map as Open makes it -/
theorem mpBox (w : World) (b : Nat) (p : Int) : Hid (BlkR 102 (w.alloc (.cells #[.pointer (some ⟨b, 0, none⟩), .int .i64 p, .pointer none, .int .u64 0] 102)) w.heap.size [.pointer (some ⟨b, 0, none⟩), .int .i64 p, .pointer none, .int .u64 0] ∧
    Below w.heap.size w (w.alloc (.cells #[.pointer (some ⟨b, 0, none⟩), .int .i64 p, .pointer none, .int .u64 0] 102))) := Lib.hid ⟨BlkR.new w [.pointer (some ⟨b, 0, none⟩), .int .i64 p, .pointer none, .int .u64 0] _, (Below.refl _ _).alloc (Nat.le_refl _) _⟩
/-- what Open tells, and makes -/
def OpPost (b : Nat) (S : DS) (p : Int) (w : World) (e : Ending) (w' : World) : Prop :=
  (Dy.openE S p = 0 → e = .returned (.tuple #[.pointer (some ⟨w.heap.size, 0, none⟩), .int .i64 0]) ∧ MpAt w' w.heap.size b p (Dy.openN S p) ∧ Below w.heap.size w w') ∧
  (Dy.openE S p ≠ 0 → e = .returned (.tuple #[.pointer none, .int .i64 (Dy.openE S p)]) ∧ Below w.heap.size w w')
section
variable {At : World → Nat → (Nat → Prop) → DS → Prop} (D : Disks Tryz.prog At)
include D
theorem plSave_any (w : World) (b : Nat) (F : Nat → Prop) (S : DS) (i : Int) (s : Nat) (ht : TabAt w) (h : At w b F S) (ho : S.ops ≤ 990000) :
    Calls Tryz.prog 27 #[.agg #[.pointer (some ⟨b, 0, none⟩), .int .i64 i], .int .u64 (s : Int)] w (ChgPost At b F (Slot.save S i (Dy.enc s)) w) := by
  refine (plSave_go (some ⟨b, 0, none⟩) i s w (Slot.save S i (Dy.enc s)).2 (fun w1 w2 => ∃ F', At w2 b F' (Slot.save S i (Dy.enc s)).1 ∧ (∀ k, F' k → F k ∨ w1.heap.size ≤ k) ∧ Frame F w1 w2) ?_ ?_).mono ?_
  · rintro w1 w2 B ⟨F', _, _, fr⟩ x hx hx2
    exact fr.block x hx2 fun hf => by have := D.lt _ _ _ _ h x hf; omega
  · intro w1 A B hr
    refine (save_any D w1 b F S i A (Dy.enc s) 8 8 (Dy.enc_length s) (ht.below B (Nat.le_refl _)) (At_step D h B) hr ho).mono ?_
    rintro e w2 ⟨F', rfl, h2, hF, fr⟩
    exact ⟨rfl, F', h2, hF, fr⟩
  · rintro e w' ⟨rfl, w1, B, F', h2, hF, fr⟩
    exact ⟨F', rfl, h2, fun k hk => (hF k hk).imp id fun x => Nat.le_trans B.size x, (Frame.of_below (F := F) B).trans fr fun k hk => .inl hk⟩
theorem plLoad_any (w : World) (b : Nat) (F : Nat → Prop) (S : DS) (i : Int) (ht : TabAt w) (h : At w b F S) :
    Calls Tryz.prog 55 #[.agg #[.pointer (some ⟨b, 0, none⟩), .int .i64 i]] w fun e w' => e = .returned (.tuple #[.int .u64 (Dy.openN S i : Int), .int .i64 (Dy.openE S i)]) ∧ Below w.heap.size w w' := by
  have hl : (Slot.loadB S i).length ≤ 40 := by
    unfold Slot.loadB
    split
    · unfold Slot.topB
      split
      · rename_i h
        unfold Slot.second at h
        exact Slot.rec_length _ (by simp at h; exact h.1)
      · unfold Slot.readB
        split
        · exact Slot.rec_length _ (by assumption)
        · simp
    · simp
  exact plLoad_go (some ⟨b, 0, none⟩) i w (Slot.loadB S i) (Slot.loadE S i) hl _ rfl fun w1 B => (load_any D w1 b F S i (ht.below B (Nat.le_refl _)) (At_step D h B)).mono fun _ _ ⟨A, c, h1, h2, h3⟩ => ⟨A, c, h1, h2.cap, h2.bytes, h3⟩
set_option maxRecDepth 100000 in
theorem mpMake_any (w : World) (b : Nat) (F : Nat → Prop) (S : DS) (i : Int) (ht : TabAt w) (h : At w b F S) (ho : S.ops ≤ 990000) :
    Calls Tryz.prog 11 #[.pointer (some ⟨b, 0, none⟩), .int .i64 i] w (ChgPost At b F (Slot.save S i (Dy.enc 0)) w) := by
  have z := plSave_any D w b F S i 0 ht h ho
  unfold ChgPost at z ⊢
  obtain ⟨T, hT⟩ : ∃ T, T = Slot.save S i (Dy.enc 0) := ⟨_, rfl⟩
  rw [← hT] at z ⊢
  clear hT h ht
  go_enter Tryz.func11, Tryz.ntmps11
  go_wp2_with (go_at_call 27; refine z.mono ?_; (rintro e w2 ⟨F2, rfl, h2, hF2, fr2⟩))
  go_ret
  exact ⟨F2, rfl, h2, hF2, fr2⟩
theorem dyBeside {w w' : World} {b g : Nat} {F : Nat → Prop} {S : DS} (h : At w b F S) (fr : Frame (fun k => k = g) w w') (hg : ¬ F g) : At w' b F S :=
  At_frame D h fr fun _ hk e => hg (e ▸ hk)
set_option maxRecDepth 100000 in
set_option maxHeartbeats 1000000 in
/-- become, of a method value that tells a set -/
theorem mpBecomeW_any (w : World) (b : Nat) (F : Nat → Prop) (S : DS) (g : Nat) (p : Int) (s v n : Nat) (ht : TabAt w) (h : At w b F S) (hm : MpAt w g b p s) (hg : ¬ F g) (hn : n < 2 ^ 64) (ho : S.ops ≤ 990000)
    (zw : Calls Tryz.prog 54 #[.pointer (some ⟨g, 0, none⟩), .int .u64 (v : Int)] w fun e w' => e = .returned (.int .u64 (n : Int)) ∧ w = w') :
    Calls Tryz.prog 53 #[.pointer (some ⟨g, 0, none⟩), .func (.func 54) #[.pointer (some ⟨g, 0, none⟩)] #[], .int .u64 (v : Int)] w (MpPost At b F g p (Dy.put S p s n) (Dy.putS S p s n) w) := by
  obtain ⟨x0, x1, x2, x3, x4⟩ := hm.cells
  have zm := mpMade_yes w g x2
  have zs := plSave_any D w b F S p n ht h ho
  unfold MpPost
  by_cases hns : n = s
  · have e1 : Dy.put S p s n = (S, 0) := by unfold Dy.put; rw [if_pos hns]
    have e2 : Dy.putS S p s n = s := by unfold Dy.putS; rw [e1, if_pos rfl, hns]
    rw [e1, e2]
    subst hns
    have HH := Lib.hid (And.intro h (And.intro hm hg))
    clear h hm hg ht hn e1 e2 zs
    go_enter Tryz.func53, Tryz.ntmps53
    go_wp2_with (first
      | (go_at_call 51; refine zm.mono ?_; (rintro e w2 ⟨rfl, rfl⟩))
      | (go_at_call 54; refine zw.mono ?_; (rintro e w2 ⟨rfl, rfl⟩)))
    go_ret
    exact ⟨F, rfl, HH.out.1, HH.out.2.1, HH.out.2.2, fun k hk => .inl hk, Frame.refl _ _⟩
  · have e1 : Dy.put S p s n = Slot.save S p (Dy.enc n) := by unfold Dy.put; rw [if_neg hns]
    have e2 : Dy.putS S p s n = if (Slot.save S p (Dy.enc n)).2 = 0 then n else s := by unfold Dy.putS; rw [e1]
    rw [e1, e2]
    have hne : ((n : Int) == (s : Int)) = false := by simp; omega
    unfold ChgPost at zs
    obtain ⟨T, hT⟩ : ∃ T, T = Slot.save S p (Dy.enc n) := ⟨_, rfl⟩
    rw [← hT] at zs ⊢
    have hgs := hm.blk.lt
    have KX : Hid (∀ (w' : World) (F' : Nat → Prop), Frame F w w' → (∀ k, F' k → F k ∨ w.heap.size ≤ k) → MpAt w' g b p s ∧ ¬ F' g) := Lib.hid fun w' F' fr hF => ⟨hm.frame fr hg, fun x => (hF g x).elim hg fun y => by omega⟩
    have HN := Lib.hid hn
    clear h hm hg ht hn e1 e2 hT hns hgs
    by_cases hr : T.2 = 0
    · rw [if_pos hr]
      rw [hr] at zs ⊢
      go_enter Tryz.func53, Tryz.ntmps53
      go_wp2_with (first
        | (go_at_call 51; refine zm.mono ?_; (rintro e w2 ⟨rfl, rfl⟩))
        | (go_at_call 54; refine zw.mono ?_; (rintro e w2 ⟨rfl, rfl⟩))
        | (go_at_call 27; refine zs.mono ?_; (rintro e w2 ⟨F2, rfl, h2, hF2, fr2⟩; have M2 := KX.out w2 F2 fr2 hF2; obtain ⟨y0, y1, y2, y3, y4⟩ := M2.1.cells; have M2 := Lib.hid M2)))
      go_ret
      exact ⟨F2, rfl, dyBeside D h2 ((Frame.refl _ _).setAt _ _ rfl) fun x => M2.out.2 (by simpa using x), M2.out.1.set_ HN.out, M2.out.2, hF2, (fr2.mono fun k hk => .inl hk).setAt ⟨g, 3, none⟩ (.int .u64 (n : Int)) (.inr rfl)⟩
    · rw [if_neg hr]
      obtain ⟨r, hrr⟩ : ∃ r, r = T.2 := ⟨_, rfl⟩
      rw [← hrr] at zs hr ⊢
      have hre : (r != 0) = true := by simpa using hr
      clear hrr hr
      go_enter Tryz.func53, Tryz.ntmps53
      go_wp2_with (first
        | (go_at_call 51; refine zm.mono ?_; (rintro e w2 ⟨rfl, rfl⟩))
        | (go_at_call 54; refine zw.mono ?_; (rintro e w2 ⟨rfl, rfl⟩))
        | (go_at_call 27; refine zs.mono ?_; (rintro e w2 ⟨F2, rfl, h2, hF2, fr2⟩)))
      go_ret
      obtain ⟨m2, g2⟩ := KX.out w2 F2 fr2 hF2
      exact ⟨F2, rfl, h2, m2, g2, hF2, fr2.mono fun k hk => .inl hk⟩
set_option maxRecDepth 100000 in
set_option maxHeartbeats 1000000 in
/-- become, of a method value that tells a set -/
theorem mpBecomeC_any (w : World) (b : Nat) (F : Nat → Prop) (S : DS) (g : Nat) (p : Int) (s v n : Nat) (ht : TabAt w) (h : At w b F S) (hm : MpAt w g b p s) (hg : ¬ F g) (hn : n < 2 ^ 64) (ho : S.ops ≤ 990000)
    (zw : Calls Tryz.prog 57 #[.pointer (some ⟨g, 0, none⟩), .int .u64 (v : Int)] w fun e w' => e = .returned (.int .u64 (n : Int)) ∧ w = w') :
    Calls Tryz.prog 53 #[.pointer (some ⟨g, 0, none⟩), .func (.func 57) #[.pointer (some ⟨g, 0, none⟩)] #[], .int .u64 (v : Int)] w (MpPost At b F g p (Dy.put S p s n) (Dy.putS S p s n) w) := by
  obtain ⟨x0, x1, x2, x3, x4⟩ := hm.cells
  have zm := mpMade_yes w g x2
  have zs := plSave_any D w b F S p n ht h ho
  unfold MpPost
  by_cases hns : n = s
  · have e1 : Dy.put S p s n = (S, 0) := by unfold Dy.put; rw [if_pos hns]
    have e2 : Dy.putS S p s n = s := by unfold Dy.putS; rw [e1, if_pos rfl, hns]
    rw [e1, e2]
    subst hns
    have HH := Lib.hid (And.intro h (And.intro hm hg))
    clear h hm hg ht hn e1 e2 zs
    go_enter Tryz.func53, Tryz.ntmps53
    go_wp2_with (first
      | (go_at_call 51; refine zm.mono ?_; (rintro e w2 ⟨rfl, rfl⟩))
      | (go_at_call 57; refine zw.mono ?_; (rintro e w2 ⟨rfl, rfl⟩)))
    go_ret
    exact ⟨F, rfl, HH.out.1, HH.out.2.1, HH.out.2.2, fun k hk => .inl hk, Frame.refl _ _⟩
  · have e1 : Dy.put S p s n = Slot.save S p (Dy.enc n) := by unfold Dy.put; rw [if_neg hns]
    have e2 : Dy.putS S p s n = if (Slot.save S p (Dy.enc n)).2 = 0 then n else s := by unfold Dy.putS; rw [e1]
    rw [e1, e2]
    have hne : ((n : Int) == (s : Int)) = false := by simp; omega
    unfold ChgPost at zs
    obtain ⟨T, hT⟩ : ∃ T, T = Slot.save S p (Dy.enc n) := ⟨_, rfl⟩
    rw [← hT] at zs ⊢
    have hgs := hm.blk.lt
    have KX : Hid (∀ (w' : World) (F' : Nat → Prop), Frame F w w' → (∀ k, F' k → F k ∨ w.heap.size ≤ k) → MpAt w' g b p s ∧ ¬ F' g) := Lib.hid fun w' F' fr hF => ⟨hm.frame fr hg, fun x => (hF g x).elim hg fun y => by omega⟩
    have HN := Lib.hid hn
    clear h hm hg ht hn e1 e2 hT hns hgs
    by_cases hr : T.2 = 0
    · rw [if_pos hr]
      rw [hr] at zs ⊢
      go_enter Tryz.func53, Tryz.ntmps53
      go_wp2_with (first
        | (go_at_call 51; refine zm.mono ?_; (rintro e w2 ⟨rfl, rfl⟩))
        | (go_at_call 57; refine zw.mono ?_; (rintro e w2 ⟨rfl, rfl⟩))
        | (go_at_call 27; refine zs.mono ?_; (rintro e w2 ⟨F2, rfl, h2, hF2, fr2⟩; have M2 := KX.out w2 F2 fr2 hF2; obtain ⟨y0, y1, y2, y3, y4⟩ := M2.1.cells; have M2 := Lib.hid M2)))
      go_ret
      exact ⟨F2, rfl, dyBeside D h2 ((Frame.refl _ _).setAt _ _ rfl) fun x => M2.out.2 (by simpa using x), M2.out.1.set_ HN.out, M2.out.2, hF2, (fr2.mono fun k hk => .inl hk).setAt ⟨g, 3, none⟩ (.int .u64 (n : Int)) (.inr rfl)⟩
    · rw [if_neg hr]
      obtain ⟨r, hrr⟩ : ∃ r, r = T.2 := ⟨_, rfl⟩
      rw [← hrr] at zs hr ⊢
      have hre : (r != 0) = true := by simpa using hr
      clear hrr hr
      go_enter Tryz.func53, Tryz.ntmps53
      go_wp2_with (first
        | (go_at_call 51; refine zm.mono ?_; (rintro e w2 ⟨rfl, rfl⟩))
        | (go_at_call 57; refine zw.mono ?_; (rintro e w2 ⟨rfl, rfl⟩))
        | (go_at_call 27; refine zs.mono ?_; (rintro e w2 ⟨F2, rfl, h2, hF2, fr2⟩)))
      go_ret
      obtain ⟨m2, g2⟩ := KX.out w2 F2 fr2 hF2
      exact ⟨F2, rfl, h2, m2, g2, hF2, fr2.mono fun k hk => .inl hk⟩
set_option maxRecDepth 100000 in
theorem mpMerge_any (w : World) (b : Nat) (F : Nat → Prop) (S : DS) (g : Nat) (p : Int) (s v : Nat) (n : Int) (ht : TabAt w) (h : At w b F S) (hm : MpAt w g b p s) (hg : ¬ F g) (hv : v < 2 ^ 64) (ho : S.ops ≤ 990000) :
    Calls Tryz.prog 22 #[.pointer (some ⟨g, 0, none⟩), .int .u64 (v : Int)] w (MpPost At b F g p (Dy.step S p 1 n v s) (Dy.stepS S p 1 n v s) w) := by
  rw [Dy.step_merge, Dy.stepS_merge]
  have hmf : ∀ (fn : Fn) (first cap : Array Value) (w : World), (Instr.makeFunc fn first cap).run Tryz.prog w = .ok (.func fn first cap) w := fun _ _ _ _ => rfl
  have z := mpBecomeW_any D w b F S g p s v (s ||| v) ht h hm hg (Nat.or_lt_two_pow hm.lt hv) ho (mpWith_any hm v hv)
  unfold MpPost at z ⊢
  obtain ⟨T, hT⟩ : ∃ T, T = Dy.put S p s (s ||| v) := ⟨_, rfl⟩
  obtain ⟨m, hm2⟩ : ∃ m, m = Dy.putS S p s (s ||| v) := ⟨_, rfl⟩
  rw [← hT, ← hm2] at z ⊢
  clear hT hm2 h ht hm hg
  go_enter Tryz.func22, Tryz.ntmps22
  go_wp2_with (go_at_call 53; refine z.mono ?_; (rintro e w2 ⟨F2, rfl, h2, m2, g2, hF2, fr2⟩))
  go_ret
  exact ⟨F2, rfl, h2, m2, g2, hF2, fr2⟩
set_option maxRecDepth 100000 in
theorem mpClear_any (w : World) (b : Nat) (F : Nat → Prop) (S : DS) (g : Nat) (p : Int) (s v : Nat) (n : Int) (ht : TabAt w) (h : At w b F S) (hm : MpAt w g b p s) (hg : ¬ F g) (hv : v < 2 ^ 64) (ho : S.ops ≤ 990000) :
    Calls Tryz.prog 24 #[.pointer (some ⟨g, 0, none⟩), .int .u64 (v : Int)] w (MpPost At b F g p (Dy.step S p 2 n v s) (Dy.stepS S p 2 n v s) w) := by
  rw [Dy.step_clear, Dy.stepS_clear]
  have hmf : ∀ (fn : Fn) (first cap : Array Value) (w : World), (Instr.makeFunc fn first cap).run Tryz.prog w = .ok (.func fn first cap) w := fun _ _ _ _ => rfl
  have z := mpBecomeC_any D w b F S g p s v (Dy.cut s v) ht h hm hg (Dy.cut_lt v hm.lt) ho (mpWithout_any hm v hv)
  unfold MpPost at z ⊢
  obtain ⟨T, hT⟩ : ∃ T, T = Dy.put S p s (Dy.cut s v) := ⟨_, rfl⟩
  obtain ⟨m, hm2⟩ : ∃ m, m = Dy.putS S p s (Dy.cut s v) := ⟨_, rfl⟩
  rw [← hT, ← hm2] at z ⊢
  clear hT hm2 h ht hm hg
  go_enter Tryz.func24, Tryz.ntmps24
  go_wp2_with (go_at_call 53; refine z.mono ?_; (rintro e w2 ⟨F2, rfl, h2, m2, g2, hF2, fr2⟩))
  go_ret
  exact ⟨F2, rfl, h2, m2, g2, hF2, fr2⟩
set_option maxRecDepth 100000 in
theorem mpMark_any (w : World) (b : Nat) (F : Nat → Prop) (S : DS) (g : Nat) (p : Int) (s v : Nat) (n : Int) (ht : TabAt w) (h : At w b F S) (hm : MpAt w g b p s) (hg : ¬ F g) (ho : S.ops ≤ 990000) :
    Calls Tryz.prog 19 #[.pointer (some ⟨g, 0, none⟩), .int .i64 n] w (MpPost At b F g p (Dy.step S p 0 n v s) (Dy.stepS S p 0 n v s) w) := by
  obtain ⟨x0, x1, x2, x3, x4⟩ := hm.cells
  have zm := mpMade_yes w g x2
  have zp := bitsPut_any n w
  unfold MpPost
  by_cases hn : Dy.isB n = true
  · rw [Dy.step_mark S p v s hn, Dy.stepS_mark S p v s hn]
    have e1 : oneE n = 0 := by unfold oneE; rw [if_pos hn]
    have e2 : oneN n = 2 ^ n.toNat := by unfold oneN; rw [if_pos hn]
    have hl := oneN_lt n
    rw [e1] at zp
    rw [e2] at zp hl
    have hmf : ∀ (fn : Fn) (first cap : Array Value) (w : World), (Instr.makeFunc fn first cap).run Tryz.prog w = .ok (.func fn first cap) w := fun _ _ _ _ => rfl
    have z := mpBecomeW_any D w b F S g p s (2 ^ n.toNat) (s ||| 2 ^ n.toNat) ht h hm hg (Nat.or_lt_two_pow hm.lt hl) ho (mpWith_any hm _ hl)
    unfold MpPost at z
    obtain ⟨T, hT⟩ : ∃ T, T = Dy.put S p s (s ||| 2 ^ n.toNat) := ⟨_, rfl⟩
    obtain ⟨m, hm2⟩ : ∃ m, m = Dy.putS S p s (s ||| 2 ^ n.toNat) := ⟨_, rfl⟩
    obtain ⟨o, ho2⟩ : ∃ o, o = 2 ^ n.toNat := ⟨_, rfl⟩
    rw [← hT, ← hm2] at z ⊢
    rw [← ho2] at z zp
    clear hT hm2 ho2 h ht hm hg hn e1 e2 hl
    go_enter Tryz.func19, Tryz.ntmps19
    go_wp2_with (first
      | (go_at_call 51; refine zm.mono ?_; (rintro e w2 ⟨rfl, rfl⟩))
      | (go_at_call 52; refine zp.mono ?_; (rintro e w2 ⟨rfl, rfl⟩))
      | (go_at_call 53; refine z.mono ?_; (rintro e w2 ⟨F2, rfl, h2, m2, g2, hF2, fr2⟩)))
    go_ret
    exact ⟨F2, rfl, h2, m2, g2, hF2, fr2⟩
  · rw [Dy.step_bad S p v s hn, Dy.stepS_bad S p v s hn]
    have e1 : oneE n = 5 := by unfold oneE; rw [if_neg hn]
    have e2 : oneN n = 0 := by unfold oneN; rw [if_neg hn]
    rw [e1, e2] at zp
    have HH := Lib.hid (And.intro h (And.intro hm hg))
    clear h ht hm hg hn e1 e2
    go_enter Tryz.func19, Tryz.ntmps19
    go_wp2_with (first
      | (go_at_call 51; refine zm.mono ?_; (rintro e w2 ⟨rfl, rfl⟩))
      | (go_at_call 52; refine zp.mono ?_; (rintro e w2 ⟨rfl, rfl⟩)))
    go_ret
    exact ⟨F, rfl, HH.out.1, HH.out.2.1, HH.out.2.2, fun k hk => .inl hk, Frame.refl _ _⟩
end
end Go.Proofs.YtcahpodmcklnbaaGreatDoor
