/-
  The document's own reader: a field, where it is Bits or Data. Conditions: the bytes can be read.
-/
import Derived.Test.YtfiijnpabmocdaaMgRdrB
import Derived.BigQuiet
import Derived.BigRegion
namespace Go.Proofs.Ytfiijnpabmocdaa
open Go.RowKit Mg Fix

theorem longZ_ok (A : Option Addr) (l : List UInt8) (n c i : Nat) (hn : l.length = n) (h1 : n ≤ 1000) (h : i + 8 ≤ n) (w : World) (hr : BytesAt w w.heap.size A l) :
    Calls Try.prog 37 #[.slice A n c, .int .i64 (i : Int)] w fun e w' => e = .returned (.tuple #[.int .u64 (le ((l.drop i).take 8) : Int), .int .i64 ((i + 8 : Nat) : Int), .agg #[.int .i64 0, .int .i64 0]]) ∧ Below w.heap.size w w' := by
  subst hn
  have z := refGetLong_any A l c (i : Int) w (by omega) hr
  have e2 : inR l.length (i : Int) = true := (inR_iff _ _).2 ⟨by omega, by omega⟩
  have e3 : inN l.length (i : Int) 8 = true := (inN_iff _ _ 8).2 ⟨by omega, by omega, by omega⟩
  simp only [getN, getP, getE, getA, Int.toNat_natCast, show ((8 : Nat) : Int) = 8 from rfl, e2, e3, if_true] at z
  rw [show ((i + 8 : Nat) : Int) = (i : Int) + 8 by omega]
  exact z
theorem longZ_no (A : Option Addr) (l : List UInt8) (n c i : Nat) (hn : l.length = n) (h1 : n ≤ 1000) (hi : i ≤ n) (h : ¬ i + 8 ≤ n) (w : World) (hr : BytesAt w w.heap.size A l) :
    Calls Try.prog 37 #[.slice A n c, .int .i64 (i : Int)] w fun e w' => e = .returned (.tuple #[.int .u64 ((0 : Nat) : Int), .int .i64 0, .agg #[.int .i64 4, .int .i64 (n : Int)]]) ∧ Below w.heap.size w w' := by
  subst hn
  have z := refGetLong_any A l c (i : Int) w (by omega) hr
  have e2 : inR l.length (i : Int) = true := (inR_iff _ _).2 ⟨by omega, by omega⟩
  have e3 : inN l.length (i : Int) 8 = false := by
    rw [← Bool.not_eq_true]
    intro x
    have := (inN_iff l.length (i : Int) 8).1 x
    omega
  simp only [getN, getP, getE, getA, show ((8 : Nat) : Int) = 8 from rfl, e2, e3, if_true, Bool.false_eq_true, if_false] at z
  exact z
theorem lon_ok {l : List UInt8} {i y v j : Nat} (h : (rOps l).lon i y = .ok (v, j)) : i + 8 ≤ l.length ∧ v = le ((l.drop i).take 8) ∧ j = i + 8 := by
  simp only [rOps] at h
  split at h
  · rename_i h1
    injection h with h
    injection h with e1 e2
    exact ⟨h1, e1.symm, e2.symm⟩
  · cases h
theorem lon_no {l : List UInt8} {i y : Nat} {x a : Int} (h : (rOps l).lon i y = .no x a) : ¬ i + 8 ≤ l.length ∧ x = 4 ∧ a = l.length := by
  simp only [rOps] at h
  split at h
  · cases h
  · rename_i h1
    injection h with e1 e2
    exact ⟨h1, e1.symm, e2.symm⟩
def RlCut (N : Nat) (P E F : Int) (w : World) (v p q : Value) (wx : World) : Prop :=
  ∃ B, v = .int .u64 (N : Int) ∧ p = .int .i64 P ∧ q = .pointer (some ⟨B, 0, none⟩) ∧ w.heap.size ≤ B ∧ BlkR 38 wx B [.int .i64 E, .int .i64 F] ∧ Below w.heap.size w wx
section
variable {w0 w : World} {R X B : Nat} {A : Option Addr} {l : List UInt8} {n c i : Nat} {m : M} {D : Option Addr} {d : Nat}
theorem RsAt.put (h : RsAt w0 w R X B A l n c i m D d) (hRX : R ≠ X) (hBR : B ≤ R) (hBX : B ≤ X) (j : Nat) : RsAt w0 (w.setCell ⟨R, 1, none⟩ (.int .i64 (j : Int))) R X B A l n c j m D d := by
  have hF2 : Frame (fun k => k = R) w (w.setCell ⟨R, 1, none⟩ (.int .i64 (j : Int))) := (Frame.refl (fun k => k = R) w).cellAt ⟨R, 1, none⟩ _ rfl
  refine ⟨RrAt.put h.rd _, (hF2.block X h.bx.lt (fun e => hRX e.symm)).trans h.bx, h.dat.off hF2 (fun hl ad e x => by have := h.nd hl ad e; omega), h.nd, h.src.under (by have := h.bx.lt; omega) hF2 (fun k x => by subst x; exact hBR), h.fr.cellAt ⟨R, 1, none⟩ _ (.inl rfl)⟩
theorem FlAt.put {x a : Int} (h : FlAt w0 w R X A n c x a) (j : Int) : FlAt w0 (w.setCell ⟨R, 1, none⟩ (.int .i64 j)) R X A n c x a := by
  obtain ⟨_, hr⟩ := h.rd
  exact ⟨⟨j, RrAt.put hr j⟩, h.fr.cellAt ⟨R, 1, none⟩ _ (.inl rfl)⟩
theorem RsAt.data (h : RsAt w0 w R X B A l n c i m D d) (hRX : R ≠ X) (hBR : B ≤ R) (hBX : B ≤ X) {part : List UInt8} (hp : part.length = 32) (w4 : World) (D' : Option Addr) (d' : Nat) (BW : Below w.heap.size w w4) (ho : OwnB w4 w.heap.size (.slice D' 32 d') part) :
    RsAt w0 ((w4.setCell ⟨X, 11, none⟩ (.slice D' 32 d')).setCell ⟨R, 1, none⟩ (.int .i64 ((i : Int) + 32))) R X B A l n c (i + 32) { m with data := part } D' d' := by
  have hXl := h.bx.lt
  have hRl := BlkR.lt h.rd
  have hnd : ∀ ad, D' = some ad → R < ad.block ∧ X < ad.block := fun ad e => by
    subst e
    have := (ho.lt ad.block rfl).1
    omega
  have hF : Frame (fun k => k = R ∨ k = X) w4 (w4.setCell ⟨X, 11, none⟩ (.slice D' 32 d')) := (Frame.refl (fun k => k = R ∨ k = X) w4).cellAt ⟨X, 11, none⟩ _ (.inr rfl)
  have hb := (h.bx.below BW hXl).set_ 11 (.slice D' 32 d')
  have hr : RrAt (w4.setCell ⟨X, 11, none⟩ (.slice D' 32 d')) R A n c i 0 0 := (Below.heap_setCell w4 ⟨X, 11, none⟩ _ R hRX).trans (h.rd.step BW)
  have hfw : Frame (fun k => k = R ∨ k = X) w (w4.setCell ⟨X, 11, none⟩ (.slice D' 32 d')) := (Frame.of_below (F := fun k => k = R ∨ k = X) BW).cellAt ⟨X, 11, none⟩ _ (.inr rfl)
  have h2 : RsAt w0 (w4.setCell ⟨X, 11, none⟩ (.slice D' 32 d')) R X B A l n c i { m with data := part } D' d' := by
    refine ⟨hr, ?_, ?_, fun _ => hnd, h.src.under (by omega) hfw (fun k x => by rcases x with rfl | rfl <;> assumption), ?_⟩
    · show BlkR _ _ _ (mCells { m with data := part } (.slice D' part.length d'))
      rw [hp]
      exact hb
    · exact ho.bytes.off hF (fun _ ad e x => by have := hnd ad e; omega)
    · exact ⟨hfw.os.trans h.fr.os, hfw.tape.trans h.fr.tape, hfw.output.trans h.fr.output, Nat.le_trans h.fr.size hfw.size, fun k hk hn => (hfw.block k (Nat.lt_of_lt_of_le hk h.fr.size) hn).trans (h.fr.block k hk hn)⟩
  have := h2.put hRX hBR hBX (i + 32)
  rw [show ((i + 32 : Nat) : Int) = (i : Int) + 32 by omega] at this
  exact this
end
section
variable (w0 w : World) (R X B : Nat) (A : Option Addr) (l : List UInt8) (n c i : Nat) (m : M) (D : Option Addr) (d : Nat)
set_option maxRecDepth 100000 in
set_option maxHeartbeats 2000000 in
theorem fd_bits_ok (h : RsAt w0 w R X B A l n c i m D d) (hRX : R ≠ X) (hBR : B ≤ R) (hBX : B ≤ X) (hn : l.length = n) (h1 : n ≤ 1000) (hi : i ≤ n) (v j : Nat) (hv : (rOps l).lon i m.bits = .ok (v, j)) : Calls Try.prog 29 #[.pointer (some ⟨R, 0, none⟩), .int .u8 98, .pointer (some ⟨X, 0, none⟩)] w fun e w' => e = .returned (.tuple #[]) ∧ RsAt w0 w' R X B A l n c j { m with bits := v } D d := by
  have _u := hi
  clear _u
  have z : ∀ w, BytesAt w w.heap.size A l → Calls Try.prog 37 #[.slice A n c, .int .i64 (i : Int)] w (fun e w' => e = .returned (.tuple #[.int .u64 ((v : Nat) : Int), .int .i64 (j : Int), .agg #[.int .i64 0, .int .i64 0]]) ∧ Below w.heap.size w w') := fun w hr => by
    obtain ⟨g1, rfl, rfl⟩ := lon_ok hv
    exact longZ_ok A l n c i hn h1 (by omega) w hr
  have hBw : B ≤ w.heap.size := by have := h.bx.lt; omega
  have KX := Lib.hid (fun (w' : World) (B : Below w.heap.size w w') => (let h := (h.rd.step B).rd; And.intro h.1 h.2.1))
  have ZZ := Lib.hid (fun (w' : World) (B : Below w.heap.size w w') => z w' ((h.src.more hBw).step B))
  have zl := ZZ.out
  obtain ⟨x0, x1, x2, x3, f1, f2, f3⟩ := h.rd.rd
  have HR := Lib.hid (And.intro h (And.intro hRX (And.intro hBR hBX)))
  have Bd := (Below.refl w.heap.size w).drew
  have Ba := step_alloc Bd (.cells #[.int .i64 0, .int .i64 0] 38)
  clear h hRX hBR hBX hn h1 hi z ZZ hBw
  go_enter Try.func29, Try.ntmps29
  go_upto_region 17 with fail
  go_cut [6, 7, 8] from 74 to 86 (fun va pa qa wx => RlCut (v) ((j : Int)) (0) (0) w va pa qa wx)
  case first =>
    go_region_held3 (fun w' => w'.cell? ⟨R, 0, none⟩ = some (.slice A n c) ∧ w'.cell? ⟨R, 1, none⟩ = some (.int .i64 (i : Int))) (first | assumption | exact ⟨x0, x1⟩ | exact KX.out _ (by assumption) | exact KX.out _ Bd | exact KX.out _ Ba | exact KX.out _ C1 | exact KX.out _ (step_alloc C1 _) | exact KX.out _ ((C1.setCell (p := ⟨_, 0, none⟩) hB _).setCell (p := ⟨_, 1, none⟩) hB _)) (first
      | (go_at_call 37; first
        | (refine (zl w.drew Bd).mono ?_; (rintro e w1 ⟨rfl, B1⟩; have C1 := step_trans Bd B1; have bx := BlkR.new w1 [.int .i64 0, .int .i64 0] 38; have s0 := bx.cell (k := 0) rfl; have s1 := bx.cell (k := 1) rfl; have g0 := bx.frozen 0; have g1 := bx.frozen 1; have bx := Lib.hid bx))
        | (refine (zl (w.drew.alloc (.cells #[.int .i64 0, .int .i64 0] 38)) Ba).mono ?_; (rintro e w1 ⟨rfl, B1⟩; have C1 := step_trans Ba B1; have bx : BlkR 38 w1 w.heap.size [.int .i64 0, .int .i64 0] := (BlkR.new w.drew [.int .i64 0, .int .i64 0] 38).below B1 (BlkR.new w.drew [.int .i64 0, .int .i64 0] 38).lt; have s0 := bx.cell (k := 0) rfl; have s1 := bx.cell (k := 1) rfl; have g0 := bx.frozen 0; have g1 := bx.frozen 1; have bx := Lib.hid bx; have hB : w.heap.size ≤ w.heap.size := Nat.le_refl _))))
    all_goals (go_wp2_with fail; go_meet)
    · exact ⟨_, rfl, rfl, rfl, C1.size, BlkR.new w1 [.int .i64 _, .int .i64 _] _, step_alloc C1 _⟩
    · exact ⟨_, rfl, rfl, rfl, hB, (bx.out.set_ 0 _).set_ 1 _, (C1.setCell (p := ⟨_, 0, none⟩) hB _).setCell (p := ⟨_, 1, none⟩) hB _⟩
  case rest =>
    obtain ⟨G, rfl, rfl, rfl, hB, be, BC⟩ := hcut
    clear x0 x1 x2 x3 f1 f2 f3 zl Bd Ba KX
    obtain ⟨h, hRX, hBR, hBX⟩ := HR.out
    have hR2 := h.rd.step BC
    obtain ⟨x0, x1, x2, x3, f1, f2, f3⟩ := hR2.rd
    have e0 := be.cell (k := 0) rfl
    have e1 := be.cell (k := 1) rfl
    have FR := Frame.of_below (F := fun k => k = R) BC
    have F2 := (FR.cellAt ⟨R, 2, none⟩ (.int .i64 0) rfl).cellAt ⟨R, 3, none⟩ (.int .i64 0) rfl
    have hR3 := hR2.fault (0) (0)
    obtain ⟨fz, cz⟩ := bx_at (h.box hRX FR) 10 (by rfl)
    have hRB : R ≠ G := by have := BlkR.lt h.rd; omega
    have hXB : X ≠ G := by have := h.bx.lt; omega
    have hXR : X ≠ R := fun e => hRX e.symm
    have HH := Lib.hid ((h.num hRX hBR hBX F2 i hR3 { m with bits := v } 10 (.int .u64 (v : Int)) (by rfl) (by rfl)).put hRX hBR hBX j)
    clear hR2 be BC h FR F2 hR3 hBR hBX hB
    go_wp2
    go_end0
    exact ⟨rfl, HH.out⟩
set_option maxRecDepth 100000 in
set_option maxHeartbeats 2000000 in
theorem fd_bits_no (h : RsAt w0 w R X B A l n c i m D d) (hRX : R ≠ X) (hBR : B ≤ R) (hBX : B ≤ X) (hn : l.length = n) (h1 : n ≤ 1000) (hi : i ≤ n) (xx aa : Int) (hv : (rOps l).lon i m.bits = .no xx aa) : Calls Try.prog 29 #[.pointer (some ⟨R, 0, none⟩), .int .u8 98, .pointer (some ⟨X, 0, none⟩)] w fun e w' => e = .returned (.tuple #[]) ∧ FlAt w0 w' R X A n c xx aa := by
  have _u := hi
  clear _u
  have z : ∀ w, BytesAt w w.heap.size A l → Calls Try.prog 37 #[.slice A n c, .int .i64 (i : Int)] w (fun e w' => e = .returned (.tuple #[.int .u64 ((0 : Nat) : Int), .int .i64 0, .agg #[.int .i64 xx, .int .i64 aa]]) ∧ Below w.heap.size w w') := fun w hr => by
    obtain ⟨g1, rfl, rfl⟩ := lon_no hv
    rw [hn]
    exact longZ_no A l n c i hn h1 hi (by omega) w hr
  have hBw : B ≤ w.heap.size := by have := h.bx.lt; omega
  have KX := Lib.hid (fun (w' : World) (B : Below w.heap.size w w') => (let h := (h.rd.step B).rd; And.intro h.1 h.2.1))
  have ZZ := Lib.hid (fun (w' : World) (B : Below w.heap.size w w') => z w' ((h.src.more hBw).step B))
  have zl := ZZ.out
  obtain ⟨x0, x1, x2, x3, f1, f2, f3⟩ := h.rd.rd
  have HR := Lib.hid (And.intro h (And.intro hRX (And.intro hBR hBX)))
  have Bd := (Below.refl w.heap.size w).drew
  have Ba := step_alloc Bd (.cells #[.int .i64 0, .int .i64 0] 38)
  clear h hRX hBR hBX hn h1 hi z ZZ hBw
  go_enter Try.func29, Try.ntmps29
  go_upto_region 17 with fail
  go_cut [6, 7, 8] from 74 to 86 (fun va pa qa wx => RlCut (0) (0) (xx) (aa) w va pa qa wx)
  case first =>
    go_region_held3 (fun w' => w'.cell? ⟨R, 0, none⟩ = some (.slice A n c) ∧ w'.cell? ⟨R, 1, none⟩ = some (.int .i64 (i : Int))) (first | assumption | exact ⟨x0, x1⟩ | exact KX.out _ (by assumption) | exact KX.out _ Bd | exact KX.out _ Ba | exact KX.out _ C1 | exact KX.out _ (step_alloc C1 _) | exact KX.out _ ((C1.setCell (p := ⟨_, 0, none⟩) hB _).setCell (p := ⟨_, 1, none⟩) hB _)) (first
      | (go_at_call 37; first
        | (refine (zl w.drew Bd).mono ?_; (rintro e w1 ⟨rfl, B1⟩; have C1 := step_trans Bd B1; have bx := BlkR.new w1 [.int .i64 0, .int .i64 0] 38; have s0 := bx.cell (k := 0) rfl; have s1 := bx.cell (k := 1) rfl; have g0 := bx.frozen 0; have g1 := bx.frozen 1; have bx := Lib.hid bx))
        | (refine (zl (w.drew.alloc (.cells #[.int .i64 0, .int .i64 0] 38)) Ba).mono ?_; (rintro e w1 ⟨rfl, B1⟩; have C1 := step_trans Ba B1; have bx : BlkR 38 w1 w.heap.size [.int .i64 0, .int .i64 0] := (BlkR.new w.drew [.int .i64 0, .int .i64 0] 38).below B1 (BlkR.new w.drew [.int .i64 0, .int .i64 0] 38).lt; have s0 := bx.cell (k := 0) rfl; have s1 := bx.cell (k := 1) rfl; have g0 := bx.frozen 0; have g1 := bx.frozen 1; have bx := Lib.hid bx; have hB : w.heap.size ≤ w.heap.size := Nat.le_refl _))))
    all_goals (go_wp2_with fail; go_meet)
    · exact ⟨_, rfl, rfl, rfl, C1.size, BlkR.new w1 [.int .i64 _, .int .i64 _] _, step_alloc C1 _⟩
    · exact ⟨_, rfl, rfl, rfl, hB, (bx.out.set_ 0 _).set_ 1 _, (C1.setCell (p := ⟨_, 0, none⟩) hB _).setCell (p := ⟨_, 1, none⟩) hB _⟩
  case rest =>
    obtain ⟨G, rfl, rfl, rfl, hB, be, BC⟩ := hcut
    clear x0 x1 x2 x3 f1 f2 f3 zl Bd Ba KX
    obtain ⟨h, hRX, hBR, hBX⟩ := HR.out
    have hR2 := h.rd.step BC
    obtain ⟨x0, x1, x2, x3, f1, f2, f3⟩ := hR2.rd
    have e0 := be.cell (k := 0) rfl
    have e1 := be.cell (k := 1) rfl
    have FR := Frame.of_below (F := fun k => k = R) BC
    have F2 := (FR.cellAt ⟨R, 2, none⟩ (.int .i64 xx) rfl).cellAt ⟨R, 3, none⟩ (.int .i64 aa) rfl
    have hR3 := hR2.fault (xx) (aa)
    obtain ⟨fz, cz⟩ := bx_at (h.box hRX FR) 10 (by rfl)
    have hRB : R ≠ G := by have := BlkR.lt h.rd; omega
    have hXB : X ≠ G := by have := h.bx.lt; omega
    have hXR : X ≠ R := fun e => hRX e.symm
    have HH := Lib.hid (((FlAt.of h F2 xx aa i hR3).write hRX 10 (.int .u64 0)).put 0)
    clear hR2 be BC h FR F2 hR3 hBR hBX hB
    go_wp2
    go_end0
    exact ⟨rfl, HH.out⟩
theorem byt_ok {l y v : List UInt8} {i j : Nat} (h : (rOps l).byt i y = .ok (v, j)) : i + 32 ≤ l.length ∧ v = (l.drop i).take 32 ∧ j = i + 32 := by
  simp only [rOps] at h
  split at h
  · rename_i h1
    injection h with h
    injection h with e1 e2
    exact ⟨h1, e1.symm, e2.symm⟩
  · cases h
theorem byt_no {l y : List UInt8} {i : Nat} {x a : Int} (h : (rOps l).byt i y = .no x a) : ¬ i + 32 ≤ l.length ∧ x = 4 ∧ a = l.length := by
  simp only [rOps] at h
  split at h
  · cases h
  · rename_i h1
    injection h with e1 e2
    exact ⟨h1, e1.symm, e2.symm⟩
set_option maxRecDepth 100000 in
set_option maxHeartbeats 2000000 in
theorem fd_data_no (h : RsAt w0 w R X B A l n c i m D d) (hRX : R ≠ X) (hBR : B ≤ R) (hBX : B ≤ X) (hn : l.length = n) (h1 : n ≤ 1000) (hi : i ≤ n) (xx aa : Int) (hv : (rOps l).byt i m.data = .no xx aa) : Calls Try.prog 29 #[.pointer (some ⟨R, 0, none⟩), .int .u8 100, .pointer (some ⟨X, 0, none⟩)] w fun e w' => e = .returned (.tuple #[]) ∧ FlAt w0 w' R X A n c xx aa := by
  have _u := hBR
  clear _u
  have _u := hBX
  clear _u
  have _u := hRX
  clear _u
  have _u := h1
  clear _u
  obtain ⟨g1, rfl, rfl⟩ := byt_no hv
  rw [hn] at g1 ⊢
  obtain ⟨x0, x1, x2, x3, f1, f2, f3⟩ := h.rd.rd
  have e1 : IntKind.i64.wrap ((n : Int) - (i : Int)) = (n : Int) - (i : Int) := IntWalk.i64_in _ (by omega)
  have i1 : (n : Int) - (i : Int) < 32 := by omega
  have HH := Lib.hid (fun q => (show FlAt w0 (((w.drewN q).setCell ⟨R, 2, none⟩ (.int .i64 4)).setCell ⟨R, 3, none⟩ (.int .i64 (n : Int))) R X A n c 4 n from FlAt.of h (((show Frame (fun k => k = R) w (w.drewN q) from ⟨rfl, rfl, rfl, Nat.le_refl _, fun _ _ _ => rfl⟩).cellAt ⟨R, 2, none⟩ _ rfl).cellAt ⟨R, 3, none⟩ _ rfl) 4 n i (RrAt.fault (show RrAt (w.drewN q) R A n c i 0 0 from h.rd) 4 n)))
  clear h hRX hBR hBX hn h1 hi g1 hv
  go_enter Try.func29, Try.ntmps29
  go_wp2_with fail
  go_quiet (fail)
  go_wp2
  refine bodyPost_ret (v := .tuple #[]) (by simp [results, Try.results29, go_sem]) rfl ⟨rfl, HH.out _⟩
set_option maxRecDepth 100000 in
set_option maxHeartbeats 2000000 in
theorem fd_data_ok (h : RsAt w0 w R X B A l n c i m D d) (hRX : R ≠ X) (hBR : B ≤ R) (hBX : B ≤ X) (hn : l.length = n) (h1 : n ≤ 1000) (hi : i ≤ n) (v : List UInt8) (j : Nat) (hc : n ≤ c) (hv : (rOps l).byt i m.data = .ok (v, j)) : Calls Try.prog 29 #[.pointer (some ⟨R, 0, none⟩), .int .u8 100, .pointer (some ⟨X, 0, none⟩)] w fun e w' => e = .returned (.tuple #[]) ∧ ∃ D' d', RsAt w0 w' R X B A l n c j { m with data := v } D' d' := by
  have _u := hi
  clear _u
  have _u := hBR
  clear _u
  have _u := hBX
  clear _u
  have _u := hRX
  clear _u
  have _u := h1
  clear _u
  obtain ⟨g1, rfl, rfl⟩ := byt_ok hv
  rw [hn] at g1
  obtain ⟨x0, x1, x2, x3, f1, f2, f3⟩ := h.rd.rd
  have e1 : IntKind.i64.wrap ((n : Int) - (i : Int)) = (n : Int) - (i : Int) := IntWalk.i64_in _ (by omega)
  have e2 : IntKind.i64.wrap ((i : Int) + 32) = (i : Int) + 32 := IntWalk.i64_in _ (by omega)
  have i1 : ¬ (n : Int) - (i : Int) < 32 := by omega
  have hA : ∃ ad, A = some ad := by
    obtain ⟨ad, e, _⟩ := h.src (by rintro rfl; simp at hn; omega)
    exact ⟨ad, e⟩
  obtain ⟨ad, rfl⟩ := hA
  have q1 := fun W => cut_both (some ad) n c i 32 (by omega) W
  rw [show cutA (some ad) i c = some (ad.add i) by unfold cutA; rw [if_neg (by omega)]; rfl, show (i : Int) + ((32 : Nat) : Int) = (i : Int) + 32 from rfl] at q1
  obtain ⟨fz, cz⟩ := bx_at h.bx 11 (by rfl)
  have hlen : ((l.drop i).take 32).length = 32 := by rw [List.length_take, List.length_drop]; omega
  have hBw : B ≤ w.heap.size := by have := h.bx.lt; omega
  have hsr := h.src.more hBw
  have hpart : BytesAt w w.heap.size (some (ad.add i)) ((l.drop i).take 32) := by
    have := (hsr.drop i c (by omega)).take 32
    rwa [show cutA (some ad) i c = some (ad.add i) by unfold cutA; rw [if_neg (by omega)]; rfl] at this
  have HX := Lib.hid (fun w4 D' d' BW ho => RsAt.data h hRX hBR hBX hlen w4 D' d' BW ho)
  have HH := Lib.hid (And.intro h hRX)
  have HP := Lib.hid (And.intro hlen hpart)
  obtain ⟨part, hpt⟩ : ∃ p, p = (l.drop i).take 32 := ⟨_, rfl⟩
  rw [← hpt] at HX HP ⊢
  clear hBR hBX hn h1 hi g1 hv h hpart hsr hBw hlen hpt
  go_enter Try.func29, Try.ntmps29
  go_wp2_with fail
  go_quiet (fail)
  go_wp2_with fail
  obtain ⟨wq, hwq⟩ : ∃ wq, wq = w.drewN nq := ⟨_, rfl⟩
  have BQ : Below w.heap.size w wq := by rw [hwq]; exact belowN (Below.refl _ _) nq
  have hsq : wq.heap.size = w.heap.size := by rw [hwq]; rfl
  have hpq : BytesAt wq wq.heap.size (some (ad.add i)) part := by rw [hwq]; exact HP.out.2
  rw [← hwq]
  have y0 : wq.cell? ⟨R, 0, none⟩ = some (.slice (some ad) n c) := by rw [hwq]; exact x0
  have y1 : wq.cell? ⟨R, 1, none⟩ = some (.int .i64 (i : Int)) := by rw [hwq]; exact x1
  have h0b : OwnB (wq.alloc (.cells #[] 5)).drew wq.heap.size (.slice (some ⟨wq.heap.size, 0, none⟩) 0 0) [] :=
    ⟨by simp [cellsOfBytes], .inr ⟨wq.heap.size, 0, #[], rfl, Nat.le_refl _, heap_alloc_new wq _, Nat.le_refl _, Nat.zero_le _, by simp, by simp [cellsOfBytes]⟩⟩
  have cd : Below wq.heap.size wq (wq.alloc (.cells #[] 5)).drew := ((Below.refl _ _).alloc (Nat.le_refl _) _).drew
  have hr3 : BytesAt (wq.alloc (.cells #[] 5)).drew wq.heap.size (some (ad.add i)) part := hpq.below cd
  have hRl : R < wq.heap.size := by rw [hsq]; exact BlkR.lt HH.out.1.rd
  have ky : Hid (∀ w', Below wq.heap.size wq w' → w'.cell? ⟨R, 0, none⟩ = some (.slice (some ad) n c) ∧ w'.cell? ⟨R, 1, none⟩ = some (.int .i64 (i : Int))) := Lib.hid fun w' hB => ⟨(hB.cell hRl).trans y0, (hB.cell hRl).trans y1⟩
  have hXR : X ≠ R := fun e => HH.out.2 e.symm
  have BQ := Lib.hid BQ
  have hsq := Lib.hid hsq
  have hRX2 := HH.out.2
  have HXR := Lib.hid hXR
  clear hwq x0 x1 x2 x3 f1 f2 f3 fz cz hpq hRl hRX
  go_region_held3 (fun w' => w'.cell? ⟨R, 0, none⟩ = some (.slice (some ad) n c) ∧ w'.cell? ⟨R, 1, none⟩ = some (.int .i64 (i : Int))) (first | assumption | exact ⟨y0, y1⟩ | exact ky.out _ cd | exact ky.out _ c4 | exact y5 _) (first
    | (refine step_appendB rfl (.tmp 122) (.tmp 136) 25 rfl rfl wq.heap.size (.slice (some ⟨wq.heap.size, 0, none⟩) 0 0) [] (by simp [Act.eval]) h0b (some (ad.add i)) part 32 (c - i) wq.heap.size (by simp [Act.eval]) HP.out.1 hr3 (by have := HP.out.1; simp; omega) (by simp) ?_; (intro v4 w4 ho4 hg4 hat4; have c4 : Below wq.heap.size wq w4 := cd.grown hg4 (by simp) (fun j hj => (h0b.lt j hj).1); rw [List.nil_append] at ho4; obtain ⟨A4, c4', rfl, _⟩ := ho4.form; rw [HP.out.1] at ho4; rw [HP.out.1]; have BW := Lib.hid (BQ.out.trans (show Below w.heap.size wq w4 by rw [← hsq.out]; exact c4)); obtain ⟨fz2, cz2⟩ := bx_at (HH.out.1.bx.below BW.out HH.out.1.bx.lt) 11 (by rfl); have y4 := Lib.hid (ky.out _ c4); have y5 : ∀ v, (w4.setCell ⟨X, 11, none⟩ v).cell? ⟨R, 0, none⟩ = some (.slice (some ad) n c) ∧ (w4.setCell ⟨X, 11, none⟩ v).cell? ⟨R, 1, none⟩ = some (.int .i64 (i : Int)) := fun v => ⟨(World.cell?_of_block (Below.heap_setCell w4 ⟨X, 11, none⟩ v R HH.out.2)).trans y4.out.1, (World.cell?_of_block (Below.heap_setCell w4 ⟨X, 11, none⟩ v R HH.out.2)).trans y4.out.2⟩; have zf : ∀ v, (w4.setCell ⟨X, 11, none⟩ v).frozen? ⟨R, 1, none⟩ = false := fun v => ((BlkR.below HH.out.1.rd BW.out (BlkR.lt HH.out.1.rd)) |> fun hb => (show (w4.setCell ⟨X, 11, none⟩ v).frozen? ⟨R, 1, none⟩ = false by have e := (Below.heap_setCell w4 ⟨X, 11, none⟩ v R HH.out.2).trans hb; simp [World.frozen?, e])); have ho4 := Lib.hid ho4; have c4 := c4)))
  go_wp2
  go_end0
  exact ⟨rfl, A4, c4', HX.out _ A4 c4' BW.out (by have := ho4.out; rw [hsq.out] at this; exact this)⟩
end
end Go.Proofs.Ytfiijnpabmocdaa
