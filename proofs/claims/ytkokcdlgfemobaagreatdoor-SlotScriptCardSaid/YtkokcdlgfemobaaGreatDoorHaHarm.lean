/-
  tandemlaw05.Harm: what happens to a disk and to the document's own, side by side. Conditions: a disk's methods do what the document says (Disks); at most so many changes.
-/
import Derived.Test.YtkokcdlgfemobaaGreatDoorHaActs
namespace Go.Proofs.YtkokcdlgfemobaaGreatDoor
open Go.RowKit

section
variable {At : World → Nat → (Nat → Prop) → DS → Prop} (D : Disks Tryz.prog At)
include D
set_option maxRecDepth 100000 in
set_option maxHeartbeats 4000000 in
theorem harm_turn (w : World) (b c : Nat) (F G : Nat → Prop) (S : DS) (m : HaM) (h : Two At w b c F G S) (ho : S.ops ≤ 900000) (hx : HaOk w F G m) (hk : m.kind = 3) :
    Calls Tryz.prog 15 #[.pointer (some ⟨b, 0, none⟩), .pointer (some ⟨c, 0, none⟩), .agg (haCells m).toArray] w (TwoPost At S b c F G w) := by
  obtain ⟨kd, xn, xa, xm, xb, A, cb, xk, AK, ck⟩ := m
  obtain rfl : kd = 3 := hk
  have hB1 : Below w.heap.size w (w.alloc (.cells #[.int .i64 3, .int .i64 xn, .int .i64 xa, .int .u8 (xm.toNat : Int), .slice A xb.length cb, .slice AK xk.length ck] 35)) := (Below.refl _ _).alloc (Nat.le_refl _) _
  have hX : BlkR 35 (w.alloc (.cells #[.int .i64 3, .int .i64 xn, .int .i64 xa, .int .u8 (xm.toNat : Int), .slice A xb.length cb, .slice AK xk.length ck] 35)) w.heap.size [.int .i64 3, .int .i64 xn, .int .i64 xa, .int .u8 (xm.toNat : Int), .slice A xb.length cb, .slice AK xk.length ck] := BlkR.new w _ _
  have HD := Lib.hid (And.intro h (And.intro ho hx))
  clear h ho hx
  unfold haCells
  go_enter Tryz.func15, Tryz.ntmps15
  have y0 := hX.cell (k := 0) rfl
  go_wp2_with fail
  revert hX hB1 y0
  generalize (w.alloc (.cells #[.int .i64 3, .int .i64 xn, .int .i64 xa, .int .u8 (xm.toNat : Int), .slice A xb.length cb, .slice AK xk.length ck] 35)) = w1
  intro hB1 hX y0
  obtain ⟨h, ho, hx⟩ := HD.out
  have hlt := h.lt D
  have M1 := HaAt.start (h.step D hB1) hX (fun hk => Nat.lt_irrefl _ (hlt.1 _ hk)) (fun hk => Nat.lt_irrefl _ (hlt.2 _ hk))
  have hx := hx.step hB1
  have M1 := M1.step D ((Below.refl _ w1).drew)
  have C1 : w1.drew.cell? ⟨w.heap.size, 1, none⟩ = some (.int .i64 xn) ∧ w1.drew.cell? ⟨w.heap.size, 2, none⟩ = some (.int .i64 xa) ∧ w1.drew.cell? ⟨w.heap.size, 3, none⟩ = some (.int .u8 (xm.toNat : Int)) := ⟨M1.x.cell rfl, M1.x.cell rfl, M1.x.cell rfl⟩
  
  obtain ⟨T, hT⟩ : ∃ T, T = (S.turn xn xa xm).1 := ⟨_, rfl⟩
  obtain ⟨r, hr⟩ : ∃ r, r = (S.turn xn xa xm).2 := ⟨_, rfl⟩
  have hops : T.ops ≤ S.ops + 4 := by rw [hT]; have := ops_turn S xn xa xm; omega
  have z3 := D.turn w1.drew b F S xn xa xm M1.d
  have z4 := fun w3 h => mTurn w3 c G S xn xa xm h
  unfold MirPost at z4
  rw [← hT, ← hr] at z3 z4
  have HH := Lib.hid (And.intro hB1 (And.intro hops hx))
  have M1 := Lib.hid M1
  clear hT hr hX hlt h ho hx hops HD
  go_region_held3 (fun w' => w'.cell? ⟨w.heap.size, 1, none⟩ = some (.int .i64 xn) ∧ w'.cell? ⟨w.heap.size, 2, none⟩ = some (.int .i64 xa) ∧ w'.cell? ⟨w.heap.size, 3, none⟩ = some (.int .u8 (xm.toNat : Int))) (first | assumption) (first
    | (go_at_call 29; refine z3.mono ?_; (rintro e w3 ⟨F3, rfl, d3, o3, f3⟩; have M3 := M1.out.chgD d3 o3 f3; have d3 := M3.m; have C3 : w3.cell? ⟨w.heap.size, 1, none⟩ = some (.int .i64 xn) ∧ w3.cell? ⟨w.heap.size, 2, none⟩ = some (.int .i64 xa) ∧ w3.cell? ⟨w.heap.size, 3, none⟩ = some (.int .u8 (xm.toNat : Int)) := ⟨M3.x.cell rfl, M3.x.cell rfl, M3.x.cell rfl⟩; have M3 := Lib.hid M3; clear o3 f3))
    | (go_at_call 30; refine (z4 w3 d3).mono ?_; (rintro e w4 ⟨G4, rfl, m4, o4, f4⟩; have M4 := M3.out.chgM D m4 o4 f4; have C4 : w4.cell? ⟨w.heap.size, 1, none⟩ = some (.int .i64 xn) ∧ w4.cell? ⟨w.heap.size, 2, none⟩ = some (.int .i64 xa) ∧ w4.cell? ⟨w.heap.size, 3, none⟩ = some (.int .u8 (xm.toNat : Int)) := ⟨M4.x.cell rfl, M4.x.cell rfl, M4.x.cell rfl⟩; have M4 := Lib.hid M4; clear m4 o4 f4)))
  go_wp2
  go_ret
  exact HaAt.post M4.out HH.out.1 HH.out.2.1
set_option maxRecDepth 100000 in
set_option maxHeartbeats 4000000 in
theorem harm_fuse (w : World) (b c : Nat) (F G : Nat → Prop) (S : DS) (m : HaM) (h : Two At w b c F G S) (ho : S.ops ≤ 900000) (hx : HaOk w F G m) (hk : m.kind = 4) :
    Calls Tryz.prog 15 #[.pointer (some ⟨b, 0, none⟩), .pointer (some ⟨c, 0, none⟩), .agg (haCells m).toArray] w (TwoPost At S b c F G w) := by
  obtain ⟨kd, xn, xa, xm, xb, A, cb, xk, AK, ck⟩ := m
  obtain rfl : kd = 4 := hk
  have hB1 : Below w.heap.size w (w.alloc (.cells #[.int .i64 4, .int .i64 xn, .int .i64 xa, .int .u8 (xm.toNat : Int), .slice A xb.length cb, .slice AK xk.length ck] 35)) := (Below.refl _ _).alloc (Nat.le_refl _) _
  have hX : BlkR 35 (w.alloc (.cells #[.int .i64 4, .int .i64 xn, .int .i64 xa, .int .u8 (xm.toNat : Int), .slice A xb.length cb, .slice AK xk.length ck] 35)) w.heap.size [.int .i64 4, .int .i64 xn, .int .i64 xa, .int .u8 (xm.toNat : Int), .slice A xb.length cb, .slice AK xk.length ck] := BlkR.new w _ _
  have HD := Lib.hid (And.intro h (And.intro ho hx))
  clear h ho hx
  unfold haCells
  go_enter Tryz.func15, Tryz.ntmps15
  have y0 := hX.cell (k := 0) rfl
  go_wp2_with fail
  revert hX hB1 y0
  generalize (w.alloc (.cells #[.int .i64 4, .int .i64 xn, .int .i64 xa, .int .u8 (xm.toNat : Int), .slice A xb.length cb, .slice AK xk.length ck] 35)) = w1
  intro hB1 hX y0
  obtain ⟨h, ho, hx⟩ := HD.out
  have hlt := h.lt D
  have M1 := HaAt.start (h.step D hB1) hX (fun hk => Nat.lt_irrefl _ (hlt.1 _ hk)) (fun hk => Nat.lt_irrefl _ (hlt.2 _ hk))
  have hx := hx.step hB1
  have M1 := M1.step D ((Below.refl _ w1).drew)
  have C1 : w1.drew.cell? ⟨w.heap.size, 1, none⟩ = some (.int .i64 xn) := M1.x.cell rfl
  
  obtain ⟨T, hT⟩ : ∃ T, T = (S.fuse xn).1 := ⟨_, rfl⟩
  obtain ⟨r, hr⟩ : ∃ r, r = (S.fuse xn).2 := ⟨_, rfl⟩
  have hops : T.ops ≤ S.ops + 4 := by rw [hT]; have := ops_fuse S xn; omega
  have z3 := D.fuse w1.drew b F S xn M1.d hx.nb.1 hx.nb.2
  have z4 := fun w3 h => mFuse w3 c G S xn h hx.nb.1 hx.nb.2
  unfold MirPost at z4
  rw [← hT, ← hr] at z3 z4
  have HH := Lib.hid (And.intro hB1 (And.intro hops hx))
  have M1 := Lib.hid M1
  clear hT hr hX hlt h ho hx hops HD
  go_region_held3 (fun w' => w'.cell? ⟨w.heap.size, 1, none⟩ = some (.int .i64 xn)) (first | assumption) (first
    | (go_at_call 31; refine z3.mono ?_; (rintro e w3 ⟨F3, rfl, d3, o3, f3⟩; have M3 := M1.out.chgD d3 o3 f3; have d3 := M3.m; have C3 : w3.cell? ⟨w.heap.size, 1, none⟩ = some (.int .i64 xn) := M3.x.cell rfl; have M3 := Lib.hid M3; clear o3 f3))
    | (go_at_call 32; refine (z4 w3 d3).mono ?_; (rintro e w4 ⟨rfl, m4, f4⟩; have M4 := M3.out.chgM D m4 (fun _ hk => .inl hk) f4; have C4 : w4.cell? ⟨w.heap.size, 1, none⟩ = some (.int .i64 xn) := M4.x.cell rfl; have M4 := Lib.hid M4; clear m4 f4)))
  go_wp2
  go_ret
  exact HaAt.post M4.out HH.out.1 HH.out.2.1
set_option maxRecDepth 100000 in
set_option maxHeartbeats 4000000 in
theorem harm_write (w : World) (b c : Nat) (F G : Nat → Prop) (S : DS) (m : HaM) (h : Two At w b c F G S) (ho : S.ops ≤ 900000) (hx : HaOk w F G m) (hk : m.kind = 5) :
    Calls Tryz.prog 15 #[.pointer (some ⟨b, 0, none⟩), .pointer (some ⟨c, 0, none⟩), .agg (haCells m).toArray] w (TwoPost At S b c F G w) := by
  obtain ⟨kd, xn, xa, xm, xb, A, cb, xk, AK, ck⟩ := m
  obtain rfl : kd = 5 := hk
  have hB1 : Below w.heap.size w (w.alloc (.cells #[.int .i64 5, .int .i64 xn, .int .i64 xa, .int .u8 (xm.toNat : Int), .slice A xb.length cb, .slice AK xk.length ck] 35)) := (Below.refl _ _).alloc (Nat.le_refl _) _
  have hX : BlkR 35 (w.alloc (.cells #[.int .i64 5, .int .i64 xn, .int .i64 xa, .int .u8 (xm.toNat : Int), .slice A xb.length cb, .slice AK xk.length ck] 35)) w.heap.size [.int .i64 5, .int .i64 xn, .int .i64 xa, .int .u8 (xm.toNat : Int), .slice A xb.length cb, .slice AK xk.length ck] := BlkR.new w _ _
  have HD := Lib.hid (And.intro h (And.intro ho hx))
  clear h ho hx
  unfold haCells
  go_enter Tryz.func15, Tryz.ntmps15
  have y0 := hX.cell (k := 0) rfl
  go_wp2_with fail
  revert hX hB1 y0
  generalize (w.alloc (.cells #[.int .i64 5, .int .i64 xn, .int .i64 xa, .int .u8 (xm.toNat : Int), .slice A xb.length cb, .slice AK xk.length ck] 35)) = w1
  intro hB1 hX y0
  obtain ⟨h, ho, hx⟩ := HD.out
  have hlt := h.lt D
  have M1 := HaAt.start (h.step D hB1) hX (fun hk => Nat.lt_irrefl _ (hlt.1 _ hk)) (fun hk => Nat.lt_irrefl _ (hlt.2 _ hk))
  have hx := hx.step hB1
  have M1 := M1.step D ((Below.refl _ w1).drew)
  have C1 : w1.drew.cell? ⟨w.heap.size, 1, none⟩ = some (.int .i64 xn) ∧ w1.drew.cell? ⟨w.heap.size, 4, none⟩ = some (.slice A xb.length cb) := ⟨M1.x.cell rfl, M1.x.cell rfl⟩
  
  obtain ⟨T, hT⟩ : ∃ T, T = (S.write xn xb).1 := ⟨_, rfl⟩
  obtain ⟨r, hr⟩ : ∃ r, r = (S.write xn xb).2 := ⟨_, rfl⟩
  have hops : T.ops ≤ S.ops + 4 := by rw [hT]; have := ops_write S xn xb; omega
  have z3 := D.write w1.drew b F S xn A xb xb.length cb M1.d (by omega) hx.rb rfl hx.cb
  have z4 := fun w3 h hr hn => mWrite_all w3 c G S xn A xb xb.length cb h (by omega) hr hn rfl
  unfold MirPost at z4
  rw [← hT, ← hr] at z3 z4
  have HH := Lib.hid (And.intro hB1 (And.intro hops hx))
  have M1 := Lib.hid M1
  clear hT hr hX hlt h ho hx hops HD
  go_region_held3 (fun w' => w'.cell? ⟨w.heap.size, 1, none⟩ = some (.int .i64 xn) ∧ w'.cell? ⟨w.heap.size, 4, none⟩ = some (.slice A xb.length cb)) (first | assumption) (first
    | (go_at_call 33; refine z3.mono ?_; (rintro e w3 ⟨F3, rfl, d3, o3, f3⟩; have M3 := M1.out.chgD d3 o3 f3; have d3 := M3.m; have C3 : w3.cell? ⟨w.heap.size, 1, none⟩ = some (.int .i64 xn) ∧ w3.cell? ⟨w.heap.size, 4, none⟩ = some (.slice A xb.length cb) := ⟨M3.x.cell rfl, M3.x.cell rfl⟩; obtain ⟨rb3, nb3⟩ := M3.bytes HH.out.2.2.rb HH.out.2.2.ab; have M3 := Lib.hid M3; clear o3 f3))
    | (go_at_call 25; refine (z4 w3 d3 rb3 (fun hne ad e => (nb3 hne ad e).2)).mono ?_; (rintro e w4 ⟨G4, rfl, m4, o4, f4⟩; have M4 := M3.out.chgM D m4 o4 f4; have C4 : w4.cell? ⟨w.heap.size, 1, none⟩ = some (.int .i64 xn) ∧ w4.cell? ⟨w.heap.size, 4, none⟩ = some (.slice A xb.length cb) := ⟨M4.x.cell rfl, M4.x.cell rfl⟩; have M4 := Lib.hid M4; clear m4 o4 f4)))
  go_wp2
  go_ret
  exact HaAt.post M4.out HH.out.1 HH.out.2.1
set_option maxRecDepth 100000 in
set_option maxHeartbeats 4000000 in
theorem harm_flush (w : World) (b c : Nat) (F G : Nat → Prop) (S : DS) (m : HaM) (h : Two At w b c F G S) (ho : S.ops ≤ 900000) (hx : HaOk w F G m) (hk : m.kind = 6) :
    Calls Tryz.prog 15 #[.pointer (some ⟨b, 0, none⟩), .pointer (some ⟨c, 0, none⟩), .agg (haCells m).toArray] w (TwoPost At S b c F G w) := by
  obtain ⟨kd, xn, xa, xm, xb, A, cb, xk, AK, ck⟩ := m
  obtain rfl : kd = 6 := hk
  have hB1 : Below w.heap.size w (w.alloc (.cells #[.int .i64 6, .int .i64 xn, .int .i64 xa, .int .u8 (xm.toNat : Int), .slice A xb.length cb, .slice AK xk.length ck] 35)) := (Below.refl _ _).alloc (Nat.le_refl _) _
  have hX : BlkR 35 (w.alloc (.cells #[.int .i64 6, .int .i64 xn, .int .i64 xa, .int .u8 (xm.toNat : Int), .slice A xb.length cb, .slice AK xk.length ck] 35)) w.heap.size [.int .i64 6, .int .i64 xn, .int .i64 xa, .int .u8 (xm.toNat : Int), .slice A xb.length cb, .slice AK xk.length ck] := BlkR.new w _ _
  have HD := Lib.hid (And.intro h (And.intro ho hx))
  clear h ho hx
  unfold haCells
  go_enter Tryz.func15, Tryz.ntmps15
  have y0 := hX.cell (k := 0) rfl
  go_wp2_with fail
  revert hX hB1 y0
  generalize (w.alloc (.cells #[.int .i64 6, .int .i64 xn, .int .i64 xa, .int .u8 (xm.toNat : Int), .slice A xb.length cb, .slice AK xk.length ck] 35)) = w1
  intro hB1 hX y0
  obtain ⟨h, ho, hx⟩ := HD.out
  have hlt := h.lt D
  have M1 := HaAt.start (h.step D hB1) hX (fun hk => Nat.lt_irrefl _ (hlt.1 _ hk)) (fun hk => Nat.lt_irrefl _ (hlt.2 _ hk))
  have hx := hx.step hB1
  have hops : S.flush.1.ops ≤ S.ops + 4 := by have := ops_flush S; omega
  have z3 := D.flush w1 b F S M1.d (by omega)
  have z4 := fun w3 h => mFlush w3 c G S h (by omega)
  unfold MirPost at z4
  obtain ⟨T, hT⟩ : ∃ T, T = S.flush.1 := ⟨_, rfl⟩
  obtain ⟨r, hr⟩ : ∃ r, r = S.flush.2 := ⟨_, rfl⟩
  rw [← hT, ← hr] at z3 z4
  rw [← hT] at hops
  have HH := Lib.hid (And.intro hB1 hops)
  have M1 := Lib.hid M1
  clear hT hr hX hlt h ho hx hops HD
  go_wp2_with (first
    | (go_at_call 34; refine z3.mono ?_; (rintro e w3 ⟨F3, rfl, d3, o3, f3⟩; have M3 := M1.out.chgD d3 o3 f3; have d3 := M3.m; have M3 := Lib.hid M3; clear o3 f3))
    | (go_at_call 26; refine (z4 w3 d3).mono ?_; (rintro e w4 ⟨G4, rfl, m4, o4, f4⟩; have M4 := Lib.hid (M3.out.chgM D m4 o4 f4))))
  go_ret
  have hp := HaAt.post M4.out HH.out.1 HH.out.2
  simpa using hp
set_option maxRecDepth 100000 in
set_option maxHeartbeats 4000000 in
theorem harm_crash (w : World) (b c : Nat) (F G : Nat → Prop) (S : DS) (m : HaM) (h : Two At w b c F G S) (ho : S.ops ≤ 900000) (hx : HaOk w F G m) (hk : m.kind = 2) :
    Calls Tryz.prog 15 #[.pointer (some ⟨b, 0, none⟩), .pointer (some ⟨c, 0, none⟩), .agg (haCells m).toArray] w (TwoPost At S b c F G w) := by
  obtain ⟨kd, xn, xa, xm, xb, A, cb, xk, AK, ck⟩ := m
  obtain rfl : kd = 2 := hk
  have hB1 : Below w.heap.size w (w.alloc (.cells #[.int .i64 2, .int .i64 xn, .int .i64 xa, .int .u8 (xm.toNat : Int), .slice A xb.length cb, .slice AK xk.length ck] 35)) := (Below.refl _ _).alloc (Nat.le_refl _) _
  have hX : BlkR 35 (w.alloc (.cells #[.int .i64 2, .int .i64 xn, .int .i64 xa, .int .u8 (xm.toNat : Int), .slice A xb.length cb, .slice AK xk.length ck] 35)) w.heap.size [.int .i64 2, .int .i64 xn, .int .i64 xa, .int .u8 (xm.toNat : Int), .slice A xb.length cb, .slice AK xk.length ck] := BlkR.new w _ _
  have HD := Lib.hid (And.intro h (And.intro ho hx))
  clear h ho hx
  unfold haCells
  go_enter Tryz.func15, Tryz.ntmps15
  have y0 := hX.cell (k := 0) rfl
  go_wp2_with fail
  revert hX hB1 y0
  generalize (w.alloc (.cells #[.int .i64 2, .int .i64 xn, .int .i64 xa, .int .u8 (xm.toNat : Int), .slice A xb.length cb, .slice AK xk.length ck] 35)) = w1
  intro hB1 hX y0
  obtain ⟨h, ho, hx⟩ := HD.out
  have hlt := h.lt D
  have M1 := HaAt.start (h.step D hB1) hX (fun hk => Nat.lt_irrefl _ (hlt.1 _ hk)) (fun hk => Nat.lt_irrefl _ (hlt.2 _ hk))
  have hx := hx.step hB1
  have hops : (S.crash xk xn).ops ≤ S.ops + 4 := Nat.le_add_right _ _
  obtain ⟨q1, q2⟩ := M1.rows hx.rk hx.ak
  have z3 := mCrash w1 c G S AK xk xk.length ck xn M1.m q1 rfl (fun hne ad e => (q2 hne ad e).2)
  have z4 := fun w3 h hr => D.crash w3 b F S AK xk xk.length ck xn h hr rfl hx.ck
  unfold MirPost0 at z3
  obtain ⟨T, hT⟩ : ∃ T, T = S.crash xk xn := ⟨_, rfl⟩
  rw [← hT] at z3 z4 hops
  have HH := Lib.hid (And.intro hB1 (And.intro hops (And.intro hx.rk hx.ak)))
  have x1 := M1.x.cell (k := 1) rfl
  have x5 := M1.x.cell (k := 5) rfl
  have M1 := Lib.hid M1
  clear hT hX hlt h ho hx hops HD q1 q2
  go_wp2_with (first
    | (go_at_call 27; refine z3.mono ?_; (rintro e w3 ⟨G3, rfl, m3, o3, f3⟩; have M3 := M1.out.chgM D m3 o3 f3; have d3 := M3.d; have r3 := (M3.rows HH.out.2.2.1 HH.out.2.2.2).1; have c1 := M3.x.cell (k := 1) rfl; have c5 := M3.x.cell (k := 5) rfl; have M3 := Lib.hid M3; clear m3 o3 f3))
    | (go_at_call 28; refine (z4 w3 d3 r3).mono ?_; (rintro e w4 ⟨F4, rfl, d4, o4, f4⟩; have M4 := Lib.hid (M3.out.chgD d4 o4 f4))))
  go_ret
  exact HaAt.post M4.out HH.out.1 HH.out.2.1
set_option maxRecDepth 100000 in
set_option maxHeartbeats 4000000 in
theorem harm_none (w : World) (b c : Nat) (F G : Nat → Prop) (S : DS) (m : HaM) (h : Two At w b c F G S) (ho : S.ops ≤ 900000) (hx : HaOk w F G m) (hk : m.kind ≠ 2 ∧ m.kind ≠ 3 ∧ m.kind ≠ 4 ∧ m.kind ≠ 5 ∧ m.kind ≠ 6) :
    Calls Tryz.prog 15 #[.pointer (some ⟨b, 0, none⟩), .pointer (some ⟨c, 0, none⟩), .agg (haCells m).toArray] w (TwoPost At S b c F G w) := by
  obtain ⟨kd, xn, xa, xm, xb, A, cb, xk, AK, ck⟩ := m
  have hB1 : Below w.heap.size w (w.alloc (.cells #[.int .i64 kd, .int .i64 xn, .int .i64 xa, .int .u8 (xm.toNat : Int), .slice A xb.length cb, .slice AK xk.length ck] 35)) := (Below.refl _ _).alloc (Nat.le_refl _) _
  have hX : BlkR 35 (w.alloc (.cells #[.int .i64 kd, .int .i64 xn, .int .i64 xa, .int .u8 (xm.toNat : Int), .slice A xb.length cb, .slice AK xk.length ck] 35)) w.heap.size [.int .i64 kd, .int .i64 xn, .int .i64 xa, .int .u8 (xm.toNat : Int), .slice A xb.length cb, .slice AK xk.length ck] := BlkR.new w _ _
  have hk : kd ≠ 2 ∧ kd ≠ 3 ∧ kd ≠ 4 ∧ kd ≠ 5 ∧ kd ≠ 6 := hk
  have t2 : (kd == 2) = false := by simpa using hk.1
  have t3 : (kd == 3) = false := by simpa using hk.2.1
  have t4 : (kd == 4) = false := by simpa using hk.2.2.1
  have t5 : (kd == 5) = false := by simpa using hk.2.2.2.1
  have t6 : (kd == 6) = false := by simpa using hk.2.2.2.2
  clear hk
  have HD := Lib.hid (And.intro h (And.intro ho hx))
  clear h ho hx
  unfold haCells
  go_enter Tryz.func15, Tryz.ntmps15
  have y0 := hX.cell (k := 0) rfl
  go_wp2
  go_ret
  obtain ⟨h, ho, hx⟩ := HD.out
  have hlt := h.lt D
  exact HaAt.post (HaAt.start (h.step D hB1) hX (fun hk => Nat.lt_irrefl _ (hlt.1 _ hk)) (fun hk => Nat.lt_irrefl _ (hlt.2 _ hk))) hB1 (Nat.le_add_right _ _)
theorem harm_any (w : World) (b c : Nat) (F G : Nat → Prop) (S : DS) (m : HaM) (h : Two At w b c F G S) (ho : S.ops ≤ 900000) (hx : HaOk w F G m) :
    Calls Tryz.prog 15 #[.pointer (some ⟨b, 0, none⟩), .pointer (some ⟨c, 0, none⟩), .agg (haCells m).toArray] w (TwoPost At S b c F G w) := by
  by_cases h2 : m.kind = 2
  · exact harm_crash D w b c F G S m h ho hx h2
  by_cases h3 : m.kind = 3
  · exact harm_turn D w b c F G S m h ho hx h3
  by_cases h4 : m.kind = 4
  · exact harm_fuse D w b c F G S m h ho hx h4
  by_cases h5 : m.kind = 5
  · exact harm_write D w b c F G S m h ho hx h5
  by_cases h6 : m.kind = 6
  · exact harm_flush D w b c F G S m h ho hx h6
  exact harm_none D w b c F G S m h ho hx ⟨h2, h3, h4, h5, h6⟩
end
end Go.Proofs.YtkokcdlgfemobaaGreatDoor
