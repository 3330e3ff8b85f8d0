/-
  The document's own reader: get. Conditions: the bytes can be read.
-/
import Derived.Test.YtfiijnpabmocdaaMgBackKit
import Derived.Test.YtfiijnpabmocdaaFixRef
import Derived.Test.YtfiijnpabmocdaaFrame
import Derived.Deep.CutRange
namespace Go.Proofs.Ytfiijnpabmocdaa
open Go.RowKit Mg Fix

/-- a reader in memory -/
def RrAt (w : World) (R : Nat) (A : Option Addr) (n c : Nat) (at_ e a : Int) : Prop := BlkR 64 w R [.slice A n c, .int .i64 at_, .int .i64 e, .int .i64 a]
section
variable {w w' : World} {R : Nat} {A : Option Addr} {n c : Nat} {at_ e a : Int}
theorem RrAt.rd (h : RrAt w R A n c at_ e a) : w.cell? ⟨R, 0, none⟩ = some (.slice A n c) ∧ w.cell? ⟨R, 1, none⟩ = some (.int .i64 at_) ∧ w.cell? ⟨R, 2, none⟩ = some (.int .i64 e) ∧ w.cell? ⟨R, 3, none⟩ = some (.int .i64 a) ∧
    w.frozen? ⟨R, 1, none⟩ = false ∧ w.frozen? ⟨R, 2, none⟩ = false ∧ w.frozen? ⟨R, 3, none⟩ = false :=
  ⟨BlkR.cell h (k := 0) rfl, BlkR.cell h (k := 1) rfl, BlkR.cell h (k := 2) rfl, BlkR.cell h (k := 3) rfl, BlkR.frozen h 1, BlkR.frozen h 2, BlkR.frozen h 3⟩
theorem RrAt.step (h : RrAt w R A n c at_ e a) (hb : Below w.heap.size w w') : RrAt w' R A n c at_ e a := BlkR.below h hb (BlkR.lt h)
theorem RrAt.put (h : RrAt w R A n c at_ e a) (x : Int) : RrAt (w.setCell ⟨R, 1, none⟩ (.int .i64 x)) R A n c x e a := BlkR.set_ h 1 (.int .i64 x)
theorem RrAt.fault (h : RrAt w R A n c at_ e a) (x y : Int) : RrAt ((w.setCell ⟨R, 2, none⟩ (.int .i64 x)).setCell ⟨R, 3, none⟩ (.int .i64 y)) R A n c at_ x y := BlkR.set_ (BlkR.set_ h 2 (.int .i64 x)) 3 (.int .i64 y)
end
theorem Frame.cellAt {F : Nat → Prop} {w w' : World} (h : Frame F w w') (a : Addr) (v : Value) (ha : F a.block) : Frame F w (w'.setCell a v) :=
  ⟨h.os, h.tape, h.output, by simpa [World.setCell] using h.size, fun k hk hf => (Below.heap_setCell w' a v k (fun e => hf (e ▸ ha))).trans (h.block k hk hf)⟩
/-- behind the number's being got: a fault of its own -/
def RgCut (N P E F : Int) (w : World) (v p q : Value) (wx : World) : Prop :=
  ∃ B, v = .int .i64 N ∧ p = .int .i64 P ∧ q = .pointer (some ⟨B, 0, none⟩) ∧ w.heap.size ≤ B ∧ BlkR 38 wx B [.int .i64 E, .int .i64 F] ∧ Below w.heap.size w wx
theorem rrget_sticky (R : Nat) (A : Option Addr) (n c : Nat) (at_ e a s mo : Int) (w : World) (hR : RrAt w R A n c at_ e a) (he : e ≠ 0) : Calls Try.prog 36 #[.pointer (some ⟨R, 0, none⟩), .int .i64 s, .int .i64 mo] w fun x w' => x = .returned (.int .i64 0) ∧ w = w' := by
  obtain ⟨x0, x1, x2, x3, f1, f2, f3⟩ := hR.rd
  have i1 : (e != 0) = true := by rw [bne_iff_ne]; exact he
  clear hR he
  go_enter Try.func36, Try.ntmps36
  go_wp2
  go_ret
  exact ⟨rfl, rfl⟩
set_option maxRecDepth 100000 in
set_option maxHeartbeats 2000000 in
theorem rrget_bad (R : Nat) (A : Option Addr) (l : List UInt8) (n c : Nat) (at_ s mo N P E F : Int) (w : World) (hR : RrAt w R A n c at_ 0 0) (hr : BytesAt w w.heap.size A l)
    (z : ∀ w, BytesAt w w.heap.size A l → Calls Try.prog 48 #[.slice A n c, .int .i64 at_, .int .i64 s] w fun e w' => e = .returned (.tuple #[.int .i64 N, .int .i64 P, .agg #[.int .i64 E, .int .i64 F]]) ∧ Below w.heap.size w w') (hE : E ≠ 0) :
    Calls Try.prog 36 #[.pointer (some ⟨R, 0, none⟩), .int .i64 s, .int .i64 mo] w fun x w' => x = .returned (.int .i64 0) ∧ RrAt w' R A n c at_ E F ∧ Frame (fun k => k = R) w w' := by
  have KX := Lib.hid (fun (w' : World) (B : Below w.heap.size w w') => (let h := (hR.step B).rd; And.intro h.1 h.2.1))
  have ZZ := Lib.hid (fun (w' : World) (B : Below w.heap.size w w') => z w' (hr.step B))
  have zl := ZZ.out
  obtain ⟨x0, x1, x2, x3, f1, f2, f3⟩ := hR.rd
  have HR := Lib.hid hR
  have Bd := (Below.refl w.heap.size w).drew
  have Ba := step_alloc Bd (.cells #[.int .i64 0, .int .i64 0] 38)
  have i1 : (E != 0) = true := by rw [bne_iff_ne]; exact hE
  clear hE
  clear hR hr z ZZ
  go_enter Try.func36, Try.ntmps36
  go_upto_region 3 with fail
  go_cut [7, 8, 9] from 16 to 29 (fun v p q wx => RgCut N P E F w v p q wx)
  case first =>
    go_region_held3 (fun w' => w'.cell? ⟨R, 0, none⟩ = some (.slice A n c) ∧ w'.cell? ⟨R, 1, none⟩ = some (.int .i64 at_)) (first | assumption | exact ⟨x0, x1⟩ | exact KX.out _ (by assumption) | exact KX.out _ Bd | exact KX.out _ Ba | exact KX.out _ C1 | exact KX.out _ (step_alloc C1 _) | exact KX.out _ ((C1.setCell (p := ⟨_, 0, none⟩) hB _).setCell (p := ⟨_, 1, none⟩) hB _)) (first
      | (go_at_call 48; first
        | (refine (zl w.drew Bd).mono ?_; (rintro e w1 ⟨rfl, B1⟩; have C1 := step_trans Bd B1; have bx := BlkR.new w1 [.int .i64 0, .int .i64 0] 38; have s0 := bx.cell (k := 0) rfl; have s1 := bx.cell (k := 1) rfl; have g0 := bx.frozen 0; have g1 := bx.frozen 1; have bx := Lib.hid bx))
        | (refine (zl (w.drew.alloc (.cells #[.int .i64 0, .int .i64 0] 38)) Ba).mono ?_; (rintro e w1 ⟨rfl, B1⟩; have C1 := step_trans Ba B1; have bx : BlkR 38 w1 w.heap.size [.int .i64 0, .int .i64 0] := (BlkR.new w.drew [.int .i64 0, .int .i64 0] 38).below B1 (BlkR.new w.drew [.int .i64 0, .int .i64 0] 38).lt; have s0 := bx.cell (k := 0) rfl; have s1 := bx.cell (k := 1) rfl; have g0 := bx.frozen 0; have g1 := bx.frozen 1; have bx := Lib.hid bx; have hB : w.heap.size ≤ w.heap.size := Nat.le_refl _))))
    all_goals (go_wp2_with fail; go_meet)
    · exact ⟨_, rfl, rfl, rfl, C1.size, BlkR.new w1 [.int .i64 E, .int .i64 F] _, step_alloc C1 _⟩
    · exact ⟨_, rfl, rfl, rfl, hB, (bx.out.set_ 0 _).set_ 1 _, (C1.setCell (p := ⟨_, 0, none⟩) hB _).setCell (p := ⟨_, 1, none⟩) hB _⟩
  case rest =>
    obtain ⟨B, rfl, rfl, rfl, hB, be, BC⟩ := hcut
    have hR2 := HR.out.step BC
    clear x0 x1 x2 x3 f1 f2 f3 zl Bd Ba KX
    obtain ⟨x0, x1, x2, x3, f1, f2, f3⟩ := hR2.rd
    have e0 := be.cell (k := 0) rfl
    have e1 := be.cell (k := 1) rfl
    have FR := Lib.hid (Frame.of_below (F := fun k => k = R) BC)
    have HR2 := Lib.hid hR2
    have hRB : R ≠ B := by have := BlkR.lt HR.out; omega
    clear hR2 be BC
    go_wp2
    go_ret
    exact ⟨rfl, HR2.out.fault E F, (FR.out.cellAt ⟨R, 2, none⟩ _ rfl).cellAt ⟨R, 3, none⟩ _ rfl⟩
set_option maxRecDepth 100000 in
set_option maxHeartbeats 2000000 in
theorem rrget_big (R : Nat) (A : Option Addr) (l : List UInt8) (n c : Nat) (at_ s mo N P E F : Int) (w : World) (hR : RrAt w R A n c at_ 0 0) (hr : BytesAt w w.heap.size A l)
    (z : ∀ w, BytesAt w w.heap.size A l → Calls Try.prog 48 #[.slice A n c, .int .i64 at_, .int .i64 s] w fun e w' => e = .returned (.tuple #[.int .i64 N, .int .i64 P, .agg #[.int .i64 E, .int .i64 F]]) ∧ Below w.heap.size w w') (hE : E = 0) (hN : mo < N) :
    Calls Try.prog 36 #[.pointer (some ⟨R, 0, none⟩), .int .i64 s, .int .i64 mo] w fun x w' => x = .returned (.int .i64 0) ∧ RrAt w' R A n c at_ 5 at_ ∧ Frame (fun k => k = R) w w' := by
  have KX := Lib.hid (fun (w' : World) (B : Below w.heap.size w w') => (let h := (hR.step B).rd; And.intro h.1 h.2.1))
  have ZZ := Lib.hid (fun (w' : World) (B : Below w.heap.size w w') => z w' (hr.step B))
  have zl := ZZ.out
  obtain ⟨x0, x1, x2, x3, f1, f2, f3⟩ := hR.rd
  have HR := Lib.hid hR
  have Bd := (Below.refl w.heap.size w).drew
  have Ba := step_alloc Bd (.cells #[.int .i64 0, .int .i64 0] 38)
  have i1 : (E != 0) = false := by rw [hE]; rfl
  clear hE
  clear hR hr z ZZ
  go_enter Try.func36, Try.ntmps36
  go_upto_region 3 with fail
  go_cut [7, 8, 9] from 16 to 29 (fun v p q wx => RgCut N P E F w v p q wx)
  case first =>
    go_region_held3 (fun w' => w'.cell? ⟨R, 0, none⟩ = some (.slice A n c) ∧ w'.cell? ⟨R, 1, none⟩ = some (.int .i64 at_)) (first | assumption | exact ⟨x0, x1⟩ | exact KX.out _ (by assumption) | exact KX.out _ Bd | exact KX.out _ Ba | exact KX.out _ C1 | exact KX.out _ (step_alloc C1 _) | exact KX.out _ ((C1.setCell (p := ⟨_, 0, none⟩) hB _).setCell (p := ⟨_, 1, none⟩) hB _)) (first
      | (go_at_call 48; first
        | (refine (zl w.drew Bd).mono ?_; (rintro e w1 ⟨rfl, B1⟩; have C1 := step_trans Bd B1; have bx := BlkR.new w1 [.int .i64 0, .int .i64 0] 38; have s0 := bx.cell (k := 0) rfl; have s1 := bx.cell (k := 1) rfl; have g0 := bx.frozen 0; have g1 := bx.frozen 1; have bx := Lib.hid bx))
        | (refine (zl (w.drew.alloc (.cells #[.int .i64 0, .int .i64 0] 38)) Ba).mono ?_; (rintro e w1 ⟨rfl, B1⟩; have C1 := step_trans Ba B1; have bx : BlkR 38 w1 w.heap.size [.int .i64 0, .int .i64 0] := (BlkR.new w.drew [.int .i64 0, .int .i64 0] 38).below B1 (BlkR.new w.drew [.int .i64 0, .int .i64 0] 38).lt; have s0 := bx.cell (k := 0) rfl; have s1 := bx.cell (k := 1) rfl; have g0 := bx.frozen 0; have g1 := bx.frozen 1; have bx := Lib.hid bx; have hB : w.heap.size ≤ w.heap.size := Nat.le_refl _))))
    all_goals (go_wp2_with fail; go_meet)
    · exact ⟨_, rfl, rfl, rfl, C1.size, BlkR.new w1 [.int .i64 E, .int .i64 F] _, step_alloc C1 _⟩
    · exact ⟨_, rfl, rfl, rfl, hB, (bx.out.set_ 0 _).set_ 1 _, (C1.setCell (p := ⟨_, 0, none⟩) hB _).setCell (p := ⟨_, 1, none⟩) hB _⟩
  case rest =>
    obtain ⟨B, rfl, rfl, rfl, hB, be, BC⟩ := hcut
    have hR2 := HR.out.step BC
    clear x0 x1 x2 x3 f1 f2 f3 zl Bd Ba KX
    obtain ⟨x0, x1, x2, x3, f1, f2, f3⟩ := hR2.rd
    have e0 := be.cell (k := 0) rfl
    have e1 := be.cell (k := 1) rfl
    have FR := Lib.hid (Frame.of_below (F := fun k => k = R) BC)
    have HR2 := Lib.hid hR2
    have hRB : R ≠ B := by have := BlkR.lt HR.out; omega
    clear hR2 be BC
    go_wp2
    go_ret
    exact ⟨rfl, HR2.out.fault 5 at_, (FR.out.cellAt ⟨R, 2, none⟩ _ rfl).cellAt ⟨R, 3, none⟩ _ rfl⟩
set_option maxRecDepth 100000 in
set_option maxHeartbeats 2000000 in
theorem rrget_good (R : Nat) (A : Option Addr) (l : List UInt8) (n c : Nat) (at_ s mo N P E F : Int) (w : World) (hR : RrAt w R A n c at_ 0 0) (hr : BytesAt w w.heap.size A l)
    (z : ∀ w, BytesAt w w.heap.size A l → Calls Try.prog 48 #[.slice A n c, .int .i64 at_, .int .i64 s] w fun e w' => e = .returned (.tuple #[.int .i64 N, .int .i64 P, .agg #[.int .i64 E, .int .i64 F]]) ∧ Below w.heap.size w w') (hE : E = 0) (hN : ¬ mo < N) :
    Calls Try.prog 36 #[.pointer (some ⟨R, 0, none⟩), .int .i64 s, .int .i64 mo] w fun x w' => x = .returned (.int .i64 N) ∧ RrAt w' R A n c P 0 0 ∧ Frame (fun k => k = R) w w' := by
  have KX := Lib.hid (fun (w' : World) (B : Below w.heap.size w w') => (let h := (hR.step B).rd; And.intro h.1 h.2.1))
  have ZZ := Lib.hid (fun (w' : World) (B : Below w.heap.size w w') => z w' (hr.step B))
  have zl := ZZ.out
  obtain ⟨x0, x1, x2, x3, f1, f2, f3⟩ := hR.rd
  have HR := Lib.hid hR
  have Bd := (Below.refl w.heap.size w).drew
  have Ba := step_alloc Bd (.cells #[.int .i64 0, .int .i64 0] 38)
  have i1 : (E != 0) = false := by rw [hE]; rfl
  clear hE
  clear hR hr z ZZ
  go_enter Try.func36, Try.ntmps36
  go_upto_region 3 with fail
  go_cut [7, 8, 9] from 16 to 29 (fun v p q wx => RgCut N P E F w v p q wx)
  case first =>
    go_region_held3 (fun w' => w'.cell? ⟨R, 0, none⟩ = some (.slice A n c) ∧ w'.cell? ⟨R, 1, none⟩ = some (.int .i64 at_)) (first | assumption | exact ⟨x0, x1⟩ | exact KX.out _ (by assumption) | exact KX.out _ Bd | exact KX.out _ Ba | exact KX.out _ C1 | exact KX.out _ (step_alloc C1 _) | exact KX.out _ ((C1.setCell (p := ⟨_, 0, none⟩) hB _).setCell (p := ⟨_, 1, none⟩) hB _)) (first
      | (go_at_call 48; first
        | (refine (zl w.drew Bd).mono ?_; (rintro e w1 ⟨rfl, B1⟩; have C1 := step_trans Bd B1; have bx := BlkR.new w1 [.int .i64 0, .int .i64 0] 38; have s0 := bx.cell (k := 0) rfl; have s1 := bx.cell (k := 1) rfl; have g0 := bx.frozen 0; have g1 := bx.frozen 1; have bx := Lib.hid bx))
        | (refine (zl (w.drew.alloc (.cells #[.int .i64 0, .int .i64 0] 38)) Ba).mono ?_; (rintro e w1 ⟨rfl, B1⟩; have C1 := step_trans Ba B1; have bx : BlkR 38 w1 w.heap.size [.int .i64 0, .int .i64 0] := (BlkR.new w.drew [.int .i64 0, .int .i64 0] 38).below B1 (BlkR.new w.drew [.int .i64 0, .int .i64 0] 38).lt; have s0 := bx.cell (k := 0) rfl; have s1 := bx.cell (k := 1) rfl; have g0 := bx.frozen 0; have g1 := bx.frozen 1; have bx := Lib.hid bx; have hB : w.heap.size ≤ w.heap.size := Nat.le_refl _))))
    all_goals (go_wp2_with fail; go_meet)
    · exact ⟨_, rfl, rfl, rfl, C1.size, BlkR.new w1 [.int .i64 E, .int .i64 F] _, step_alloc C1 _⟩
    · exact ⟨_, rfl, rfl, rfl, hB, (bx.out.set_ 0 _).set_ 1 _, (C1.setCell (p := ⟨_, 0, none⟩) hB _).setCell (p := ⟨_, 1, none⟩) hB _⟩
  case rest =>
    obtain ⟨B, rfl, rfl, rfl, hB, be, BC⟩ := hcut
    have hR2 := HR.out.step BC
    clear x0 x1 x2 x3 f1 f2 f3 zl Bd Ba KX
    obtain ⟨x0, x1, x2, x3, f1, f2, f3⟩ := hR2.rd
    have e0 := be.cell (k := 0) rfl
    have e1 := be.cell (k := 1) rfl
    have FR := Lib.hid (Frame.of_below (F := fun k => k = R) BC)
    have HR2 := Lib.hid hR2
    have hRB : R ≠ B := by have := BlkR.lt HR.out; omega
    clear hR2 be BC
    go_wp2
    go_ret
    exact ⟨rfl, HR2.out.put P, FR.out.cellAt ⟨R, 1, none⟩ _ rfl⟩
end Go.Proofs.Ytfiijnpabmocdaa
