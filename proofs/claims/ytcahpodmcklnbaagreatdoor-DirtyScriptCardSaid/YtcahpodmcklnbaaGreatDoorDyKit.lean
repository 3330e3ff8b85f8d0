/-
  tandemlaw10.made and awake. Conditions: the table of crc lies as the program's text lays it.
-/
import Derived.Test.YtcahpodmcklnbaaGreatDoorDyOpen
import Derived.Test.YtcahpodmcklnbaaGreatDoorDiskAny
namespace Go.Proofs.YtcahpodmcklnbaaGreatDoor
open Go.RowKit Fix

/-- a disk and a map over it, as they were made, or behind some calls: the disk at b, its blocks F; the map at g -/
structure MpDuo (w : World) (B b : Nat) (F : Nat → Prop) (S : DS) (g s : Nat) : Prop where
  d : DiskAt w b F S
  m : MpAt w g b 0 s
  ap : ¬ F g
  far : ∀ k, F k → B ≤ k
  gn : B ≤ g
theorem MpDuo.step {w w' : World} {B b g s : Nat} {F : Nat → Prop} {S : DS} (h : MpDuo w B b F S g s) (hb : Below w.heap.size w w') : MpDuo w' B b F S g s :=
  ⟨At_step disks h.d hb, h.m.step hb, h.ap, h.far, h.gn⟩
/-- behind a call of the map's -/
theorem MpDuo.put {w w' : World} {B b g s n : Nat} {F F' : Nat → Prop} {S T : DS} (h : MpDuo w B b F S g s) (hB : B ≤ w.heap.size) (d : DiskAt w' b F' T) (m : MpAt w' g b 0 n) (ap : ¬ F' g) (hF : ∀ k, F' k → F k ∨ w.heap.size ≤ k) (fr : Frame (fun k => F k ∨ k = g) w w') :
    MpDuo w' B b F' T g n ∧ Below B w w' :=
  ⟨⟨d, m, ap, fun k hk => (hF k hk).elim (h.far k) fun x => Nat.le_trans hB x, h.gn⟩, fr.below (fun k hk => hk.elim (h.far k) fun e => e ▸ h.gn) hB⟩
theorem start_made (w : World) (ht : TabAt w) : Calls Tryz.prog 18 #[] w fun e w' => ∃ b F S g, e = .returned (.tuple #[.pointer (some ⟨b, 0, none⟩), .pointer (some ⟨g, 0, none⟩)]) ∧ MpDuo w' w.heap.size b F S g 0 ∧ Dy.Inv S 1 0 ∧ S.ops ≤ 4 ∧ Below w.heap.size w w' := by
  have zn := fun w : World => disks.new_yes 2 w (by decide) (by decide)
  rw [show ((2 : Nat) : Int) = 2 from rfl] at zn
  obtain ⟨T, s1, i1, o1⟩ := Dy.start
  have zm := fun w b F t h => mpMake_any disks w b F (DS.fresh 2) 0 t h (by decide)
  unfold ChgPost at zm
  rw [s1] at zm
  have zo := fun w b F t h => (mpOpen_any disks w b F T 0 t h).mono fun e w' h => h.1 i1.opens.1
  rw [i1.opens.2] at zo
  have HI := Lib.hid (And.intro i1 o1)
  have HT := Lib.hid ht
  clear s1 i1 o1 ht
  go_enter Tryz.func18, Tryz.ntmps18
  go_wp2_with (first
    | (go_at_call 5; refine (zn w).mono ?_; (rintro e w2 ⟨b, F0, rfl, h2, hF2, B2⟩; have t2 := HT.out.below B2 (Nat.le_refl _)))
    | (go_at_call 11; refine (zm w2 b F0 t2 h2).mono ?_; (rintro e w3 ⟨F3, rfl, h3, hF3, fr3⟩; obtain ⟨C3, G3⟩ := chg_go B2 hF2 hF3 fr3; have t3 := HT.out.below C3 (Nat.le_refl _); clear hF3 fr3 hF2))
    | (go_at_call 20; refine (zo w3 b F3 t3 h3).mono ?_; (rintro e w4 ⟨rfl, m4, B4⟩; have D4 : MpDuo w4 w.heap.size b F3 T w3.heap.size 0 := ⟨At_step disks h3 B4, m4, fun x => Nat.lt_irrefl _ (disks.lt _ _ _ _ h3 _ x), G3, C3.size⟩; have C4 := step_trans C3 B4; have D4 := Lib.hid D4; clear m4 B4 G3)))
  go_ret2
  exact ⟨b, F3, T, w3.heap.size, rfl, D4.out, HI.out.1, HI.out.2, C4⟩
/-- a change of a disk, and of a map over it: what it turns, what there is then -/
structure DuoChg (B b g : Nat) (F : Nat → Prop) (w : World) (F' : Nat → Prop) (T : DS) (n : Nat) (w' : World) : Prop where
  d : MpDuo w' B b F' T g n
  low : Below B w w'
  fr : Frame (fun k => F k ∨ k = g) w w'
  own : ∀ k, F' k → F k ∨ w.heap.size ≤ k
def DuoPost (B b g : Nat) (F : Nat → Prop) (T : DS × Int) (n : Nat) (w : World) (e : Ending) (w' : World) : Prop := ∃ F', e = .returned (.int .i64 T.2) ∧ DuoChg B b g F w F' T.1 n w'
section
variable {w : World} {B b g s : Nat} {F : Nat → Prop} {S : DS} (h : MpDuo w B b F S g s) (hB : B ≤ w.heap.size)
include h hB
theorem duo_of {f : FuncId} {args : Array Value} {T : DS × Int} {n : Nat} (z : Calls Tryz.prog f args w (MpPost DiskAt b F g 0 T n w)) : Calls Tryz.prog f args w (DuoPost B b g F T n w) :=
  z.mono fun _ _ ⟨F', e1, d, m, a, hF, fr⟩ => by
    obtain ⟨p1, p2⟩ := h.put hB d m a hF fr
    exact ⟨F', e1, p1, p2, fr, hF⟩
theorem duo_disk {f : FuncId} {args : Array Value} {T : DS} {r : Int} (z : Calls Tryz.prog f args w fun e w' => ∃ F', e = .returned (.int .i64 r) ∧ DiskAt w' b F' T ∧ (∀ k, F' k → F k ∨ w.heap.size ≤ k) ∧ Frame F w w') : Calls Tryz.prog f args w (DuoPost B b g F (T, r) s w) :=
  z.mono fun _ _ ⟨F', e1, d, hF, fr⟩ => by
    have fr2 : Frame (fun k => F k ∨ k = g) w _ := fr.mono fun k hk => .inl hk
    obtain ⟨p1, p2⟩ := h.put hB d (h.m.frame fr h.ap) (fun x => (hF g x).elim h.ap fun y => by have := h.m.blk.lt; omega) hF fr2
    exact ⟨F', e1, p1, p2, fr2, hF⟩
theorem duo_mark (n : Int) (v : Nat) (ht : TabAt w) (ho : S.ops ≤ 990000) : Calls Tryz.prog 19 #[.pointer (some ⟨g, 0, none⟩), .int .i64 n] w (DuoPost B b g F (Dy.step S 0 0 n v s) (Dy.stepS S 0 0 n v s) w) :=
  duo_of h hB (mpMark_any disks w b F S g 0 s v n ht h.d h.m h.ap ho)
theorem duo_merge (n : Int) (v : Nat) (hv : v < 2 ^ 64) (ht : TabAt w) (ho : S.ops ≤ 990000) : Calls Tryz.prog 22 #[.pointer (some ⟨g, 0, none⟩), .int .u64 (v : Int)] w (DuoPost B b g F (Dy.step S 0 1 n v s) (Dy.stepS S 0 1 n v s) w) :=
  duo_of h hB (mpMerge_any disks w b F S g 0 s v n ht h.d h.m h.ap hv ho)
theorem duo_clear (n : Int) (v : Nat) (hv : v < 2 ^ 64) (ht : TabAt w) (ho : S.ops ≤ 990000) : Calls Tryz.prog 24 #[.pointer (some ⟨g, 0, none⟩), .int .u64 (v : Int)] w (DuoPost B b g F (Dy.step S 0 2 n v s) (Dy.stepS S 0 2 n v s) w) :=
  duo_of h hB (mpClear_any disks w b F S g 0 s v n ht h.d h.m h.ap hv ho)
theorem duo_fuse (n : Int) (h1 : -9223372036854775808 ≤ n) (h2 : n ≤ 9223372036854775807) : Calls Tryz.prog 42 #[.pointer (some ⟨b, 0, none⟩), .int .i64 n] w (DuoPost B b g F ((S.fuse n).1, (S.fuse n).2) s w) :=
  duo_disk h hB (disks.fuse w b F S n h.d h1 h2)
theorem duo_crash (A : Option Addr) (keeps : List Bool) (n c : Nat) (tear : Int) (hr : RowAt w w.heap.size A (keeps.map Value.bool)) (hn : keeps.length = n) (hc : n ≤ c) : Calls Tryz.prog 39 #[.pointer (some ⟨b, 0, none⟩), .slice A n c, .int .i64 tear] w (DuoPost B b g F (S.crash keeps tear, 0) s w) :=
  duo_disk h hB (disks.crash w b F S A keeps n c tear h.d hr hn hc)
omit hB in
theorem duo_ops (ho : S.ops ≤ 1000000) : Calls Tryz.prog 46 #[.pointer (some ⟨b, 0, none⟩)] w fun e w' => e = .returned (.int .i64 (S.ops : Int)) ∧ Below w.heap.size w w' :=
  disks.ops w b F S h.d ho
/-- opened anew: the new map in the old one's place -/
theorem duo_open (ht : TabAt w) (he : Dy.openE S 0 = 0) : Calls Tryz.prog 20 #[.pointer (some ⟨b, 0, none⟩), .int .i64 0] w fun e w' => e = .returned (.tuple #[.pointer (some ⟨w.heap.size, 0, none⟩), .int .i64 0]) ∧ MpDuo w' B b F S w.heap.size (Dy.openN S 0) ∧ Below w.heap.size w w' :=
  (mpOpen_any disks w b F S 0 ht h.d).mono fun _ _ hp => by
    obtain ⟨e1, m, B1⟩ := hp.1 he
    exact ⟨e1, ⟨At_step disks h.d B1, m, fun x => Nat.lt_irrefl _ (disks.lt _ _ _ _ h.d _ x), h.far, hB⟩, B1⟩
end
set_option maxHeartbeats 1000000 in
theorem awake_any (w : World) (ht : TabAt w) : Calls Tryz.prog 8 #[] w fun e w' => e = .returned (.bool true) ∧ Below w.heap.size w w' := by
  have zs := fun w t => start_made w t
  have zb := fun (w : World) g b s (h : MpAt w g b 0 s) => mpBits_any h
  have zo := fun w b F S t h => mpOpen_any disks w b F S 0 t h
  unfold OpPost at zo
  have HT := Lib.hid ht
  clear ht
  go_enter Tryz.func8, Tryz.ntmps8
  go_wp2_with fail
  refine (zs w HT.out).mono ?_
  rintro e w2 ⟨b, F, S, g, rfl, D2, i2, o2, B2⟩
  have t2 := HT.out.below B2 (Nat.le_refl _)
  obtain ⟨T, N', k1, k2, _, o3, i3, _⟩ := i2.goes (by decide) 0 3 (v := 0) (by decide) (by decide)
  rw [show Dy.want 0 3 0 0 = 8 by decide] at k2 i3
  have zb0 := zb w2 g b 0 D2.m
  have zk := duo_mark D2 B2.size 3 0 t2 (by omega)
  rw [k1, k2] at zk
  unfold DuoPost at zk
  have zo := fun w F t h => (zo w b F T t h).mono fun e w' h => h.1 i3.opens.1
  rw [i3.opens.2] at zo
  have HD := Lib.hid D2
  have HB := Lib.hid B2
  clear D2 i2 o2 k1 k2 i3 o3 zs B2
  go_wp2_with (first
    | (go_at_call 17; first
      | ((with_reducible refine zb0.mono ?_); (rintro e w' ⟨rfl, rfl⟩))
      | ((with_reducible refine (zb w3 g b 8 m3).mono ?_); (rintro e w' ⟨rfl, rfl⟩))
      | ((with_reducible refine (zb w4 w3.heap.size b 8 m4).mono ?_); (rintro e w' ⟨rfl, rfl⟩)))
    | (go_at_call 19; refine zk.mono ?_; (rintro e w3 ⟨F3, rfl, ⟨D3, C3, _, _⟩⟩; have C3 := HB.out.trans C3; have t3 := HT.out.below C3 (Nat.le_refl _); have h3 := D3.d; have m3 := D3.m; have C3 := Lib.hid C3; clear D3))
    | (go_at_call 20; refine (zo w3 F3 t3 h3).mono ?_; (rintro e w4 ⟨rfl, m4, B4⟩; have B4 := Lib.hid B4)))
  go_ret
  exact ⟨rfl, step_trans C3.out B4.out⟩
end Go.Proofs.YtcahpodmcklnbaaGreatDoor
