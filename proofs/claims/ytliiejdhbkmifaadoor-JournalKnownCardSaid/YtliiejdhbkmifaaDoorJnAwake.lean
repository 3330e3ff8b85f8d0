/-
  What the statements on journals share: entries of like bytes, the examples. Conditions: the table of crc lies as the program's text lays it.
-/
import Derived.Test.YtliiejdhbkmifaaDoorJp
namespace Go.Proofs.YtliiejdhbkmifaaDoor
open Go.RowKit Fix

def OfEPost (b n : Int) (x : UInt8) (w : World) (en : Ending) (w' : World) : Prop :=
  ∃ A c, en = .returned (.agg (entL ⟨b, n, List.replicate 32 x⟩ A c).toArray) ∧ 32 ≤ c ∧ BytesAt w' w'.heap.size A (List.replicate 32 x) ∧ Below w.heap.size w w'
theorem one_byte (w : World) (x : UInt8) : BytesAt (w.alloc (.cells #[.int .u8 (x.toNat : Int)] 5)) (w.alloc (.cells #[.int .u8 (x.toNat : Int)] 5)).heap.size (some ⟨w.heap.size, 0, none⟩) [x] := by
  have := bytes_new_at w [x] 5 (0, 0) w.heap.size (w.heap.size + 1) rfl (Nat.lt_succ_self _)
  exact this.more (by simp)
set_option maxRecDepth 100000 in
set_option maxHeartbeats 1000000 in
theorem ofE_any (b n : Int) (x : UInt8) (w : World) : Calls Tryd.prog 33 #[.int .i64 b, .int .i64 n, .int .u8 (x.toNat : Int)] w (OfEPost b n x w) := by
  have hx := one_byte
  replace hx := Lib.hid fun w => hx w x
  obtain ⟨X, hX⟩ : ∃ X, X = (x.toNat : Int) := ⟨_, rfl⟩
  rw [← hX] at hx ⊢
  clear hX
  go_enter Tryd.func33, Tryd.ntmps33
  go_wp2_with (first
    | ((with_reducible refine atWorld w ?_); refine wpList_allocRow (w := w) entTy rfl rfl ?_; (intro w1 b1 B1 s1; have b1 := Lib.hid b1; replace s1 := Lib.hid s1))
    | ((with_reducible refine atWorld w1 ?_); refine wpList_allocRow (w := w1) entTy rfl rfl ?_; (intro w2 b2 B2 s2; have b2 := Lib.hid b2; replace s2 := Lib.hid s2; have z2 := Lib.hid (b1.out.step B2)))
    | ((with_reducible refine atWorld w2 ?_); refine wpList_storeRow (w := w2) entTy rfl (.tmp 7) (.tmp 11) rfl w1.heap.size (entN b n none 0 0) entZ rfl rfl rfl rfl (entN_one _ _ _ _ _) b2.out ?_; (intro w3 b3 B3 s3 k3; have z3 := Lib.hid (z2.out.below B3 b1.out.lt); have C3 := B1.trans ((B2.trans B3).mono B1.size); have b3 := Lib.hid b3; replace s3 := Lib.hid s3)))
  have hgb : w1.heap.size < w3.heap.size := by have := s2.out; have := s3.out; omega
  have hwb : w.heap.size < w1.heap.size := by have := s1.out; omega
  have HB := Lib.hid (And.intro hgb hwb)
  clear s1 s2 s3 b1 b2 z2 B1 B2 B3 k3 hgb hwb
  go_loopw [8] (fun i wr => ∃ j : Nat, j ≤ 32 ∧ i = .int .i64 (j : Int) ∧ (∃ A c, BlkR 24 wr w1.heap.size (entN b n A j c) ∧ OwnB wr w3.heap.size (.slice A j c) (List.replicate j x)) ∧ BlkR 24 wr w.heap.size entZ ∧ Below w.heap.size w wr ∧ w3.heap.size ≤ wr.heap.size) (fun i _ => 32 - (intOf i).toNat)
  case atStart => exact ⟨0, by omega, rfl, ⟨none, 0, b3.out, OwnB.nil_⟩, z3.out, C3, Nat.le_refl _⟩
  case round =>
    obtain ⟨j, hj, rfl, ⟨A, c, hb, ho⟩, hz, hbel, hsz⟩ := hrel
    clear b3 z3 C3
    by_cases hj32 : j < 32
    · have y2 := hb.cell (k := 2) (u := .slice A j c) rfl
      have f2 := hb.frozen 2
      have hlen : (List.replicate j x).length = j := List.length_replicate
      have oo : OwnB (wr.alloc (.cells #[.int .u8 X] 5)) w3.heap.size (.slice A j c) (List.replicate j x) := ho.alloc _
      have H := Lib.hid (And.intro hb (And.intro hz (And.intro hbel (And.intro hsz (hx.out wr)))))
      clear hb hz hbel hsz ho
      go_wp2_with (at_builtin; refine wpList_appendB rfl (.tmp 17) (.tmp 19) 22 rfl rfl w3.heap.size _ (List.replicate j x) rfl oo (some ⟨wr.heap.size, 0, none⟩) [x] 1 1 _ rfl rfl H.out.2.2.2.2 (by rw [hlen]; simp; omega) (by have := H.out.2.2.2.1; simp; omega) ?_; (intro v' w' ho' hg hat; have B' : Below w3.heap.size wr w' := ((Below.refl _ _).alloc H.out.2.2.2.1 _).grown hg (by have := H.out.2.2.2.1; simp; omega) (fun k hk => (oo.lt k hk).1); rw [← List.replicate_succ'] at ho'; obtain ⟨A', c', rfl, hc'⟩ := ho'.form; rw [List.length_replicate] at hc' ho' ⊢; have hb' := H.out.1.below B' HB.out.1; have y2' := hb'.cell (k := 2) rfl; have f2' := hb'.frozen 2; have B' := Lib.hid B'; have ho' := Lib.hid (show OwnB w' w3.heap.size (.slice A' (j + 1) c') (List.replicate (j + 1) x) from ho'); have hb' := Lib.hid hb'))
      go_roundw
      case rel =>
        refine ⟨j + 1, by omega, by go_num, ⟨A', c', hb'.out.set_ 2 _, ownsRow_setCell_below ho'.out HB.out.1 _⟩, ?_, ?_, ?_⟩
        · exact (Below.heap_setCell _ _ _ _ (by have := HB.out.2; show w.heap.size ≠ w1.heap.size; omega)).trans (H.out.2.1.below B'.out (by have := HB.out; omega))
        · exact (H.out.2.2.1.trans (B'.out.mono (by have := HB.out; omega))).setCell (p := ⟨w1.heap.size, 2, none⟩) (Nat.le_of_lt HB.out.2) _
        · have := B'.out.size; have := H.out.2.2.2.1; simp [World.setCell]; omega
      case measure => simp [intOf]; omega
    · obtain rfl : j = 32 := by omega
      have r := Lib.hid ho.bytes
      have nw := Lib.hid (ho.new)
      obtain ⟨_, _, hv, hcc⟩ := ho.form
      have hc : 32 ≤ c := by injection hv with _ _ e3; rw [List.length_replicate] at hcc; omega
      have hb := Lib.hid hb
      have hz := Lib.hid hz
      clear hv hcc ho
      go_wp2_with (first
        | ((with_reducible refine atWorld wr ?_); refine wpList_loadRow (w := wr) entTy rfl (.tmp 7) rfl w1.heap.size 0 (entN b n A 32 c) rfl rfl (rangeOf hb.out) ?_)
        | ((with_reducible refine atWorld wr ?_); refine wpList_storeRow (w := wr) entTy rfl (.tmp 6) (.tmp 22) rfl w.heap.size (entN b n A 32 c) entZ rfl rfl rfl rfl (entN_one _ _ _ _ _) hz.out ?_; (intro w9 b9 B9 s9 k9)))
      have r9 : BytesAt w9 w9.heap.size A (List.replicate 32 x) := r.out.else_ s9 k9 fun ad e => by have := nw.out ad e (by simp); have := HB.out; omega
      exact bodyPost_ret (w := w9) (results_cell1 Tryd.results33 _ _ _ _ _ rfl (loadRow entTy (by rfl) b9)) rfl ⟨A, c, by rw [entL_eq _ _ _ 32 List.length_replicate], hc, r9, hbel.trans B9⟩
namespace JnEx
def e9 : Ent := ⟨3, 9, List.replicate 32 1⟩
def k0 : DS := DS.fresh 2
def k1 : DS := (Jn.write k0 1 e9).1
theorem l0 : Jn.lastE k0 1 = 6 ∧ k0.ops = 0 := by decide +kernel
theorem w1 : (Jn.write k0 1 e9).2 = 0 := by decide +kernel
theorem l1 : Jn.lastE k1 1 = 0 := by decide +kernel
theorem v1 : (Jn.lastV k1 1).b = 3 ∧ (Jn.lastV k1 1).n = 9 ∧ (Jn.lastV k1 1).d = List.replicate 32 1 := by decide +kernel
theorem v1e : Jn.lastV k1 1 = e9 := by
  obtain ⟨h1, h2, h3⟩ := v1
  generalize Jn.lastV k1 1 = V at h1 h2 h3
  obtain ⟨a, b, c⟩ := V
  unfold e9
  rw [show a = 3 from h1, show b = 9 from h2, show c = _ from h3]
end JnEx
set_option maxRecDepth 100000 in
set_option maxHeartbeats 1000000 in
theorem awake_any {At : World → Nat → (Nat → Prop) → DS → Prop} (D : Disks Tryd.prog At) (w : World) (ht : TabAt w) : Calls Tryd.prog 19 #[] w fun e w' => e = .returned (.bool true) ∧ Below w.heap.size w w' := by
  have zn := D.new_yes 2 w (by decide) (by decide)
  rw [show ((2 : Nat) : Int) = 2 from rfl, show DS.fresh 2 = JnEx.k0 from rfl] at zn
  have z0 : ∀ w b F, TabAt w → At w b F JnEx.k0 → _ := fun w b F t h => journalLast_any D w b F JnEx.k0 1 t h
  have z1 : ∀ w b F A c, TabAt w → At w b F JnEx.k0 → BytesAt w w.heap.size A (List.replicate 32 1) → _ := fun w b F A c t h r => journalWrite_any D w b F JnEx.k0 1 JnEx.e9 A c t h (by rw [JnEx.l0.2]; decide) r
  have z2 : ∀ w b F, TabAt w → At w b F JnEx.k1 → _ := fun w b F t h => journalLast_any D w b F JnEx.k1 1 t h
  have zo : ∀ w, _ := fun w => ofE_any 3 9 1 w
  have zs := fun A c A' c' w h h' => sameEntry_any JnEx.e9 A c JnEx.e9 A' c' w h h'
  unfold JlPost at z0 z2
  unfold ChgPost at z1
  unfold OfEPost at zo
  rw [JnEx.l0.1] at z0
  rw [JnEx.w1, show (Jn.write JnEx.k0 1 JnEx.e9).1 = JnEx.k1 from rfl] at z1
  rw [JnEx.l1, JnEx.v1e] at z2
  rw [Jn.same_self] at zs
  rw [show (((1 : UInt8).toNat : Nat) : Int) = 1 from rfl, show (⟨3, 9, List.replicate 32 1⟩ : Ent) = JnEx.e9 from rfl] at zo
  have ed : JnEx.e9.d = List.replicate 32 1 := rfl
  rw [ed] at z2 zs
  obtain ⟨V0, hV0⟩ : ∃ V, V = Jn.lastV JnEx.k0 1 := ⟨_, rfl⟩
  rw [← hV0] at z0
  obtain ⟨E9, hE9⟩ : ∃ V, V = JnEx.e9 := ⟨_, rfl⟩
  rw [← hE9] at z1 z2 zo zs
  obtain ⟨dd, hdd⟩ : ∃ V : List UInt8, V = List.replicate 32 1 := ⟨_, rfl⟩
  rw [← hdd] at z1 z2 zo zs
  have hlen : Hid (E9.d = dd) := Lib.hid (by rw [hE9, hdd]; rfl)
  clear hV0 hE9 hdd ed
  have zw : ∀ (P : World → Ending → World → Prop), True := fun _ => trivial
  clear zw
  go_enter Tryd.func19, Tryd.ntmps19
  go_wp2_with (first
    | (go_at_call 21; refine zn.mono ?_; (rintro e w1 ⟨b, F, rfl, h1, hF, B1⟩; have t1 := ht.below B1 (Nat.le_refl _)))
    | (go_at_call 26; first
      | ((with_reducible refine (z2 w7 b F7 t7 h7).mono ?_); (rintro e w8 ⟨A8, c8, rfl, _, o8, B8⟩))
      | ((with_reducible refine (z0 w1 b F t1 h1).mono ?_); (rintro e w2 ⟨A2, c2, rfl, _, o2, B2⟩)))
    | ((with_reducible refine atWorld w2 ?_); refine wpList_allocRow (w := w2) entTy rfl rfl ?_; (intro w3 b3 B3 s3; have b3 := Lib.hid b3; replace s3 := Lib.hid s3))
    | ((with_reducible refine atWorld w3 ?_); refine wpList_storeRow (w := w3) entTy rfl (.tmp 3) (.tmp 21) rfl w2.heap.size (entL V0 A2 c2) entZ rfl rfl rfl rfl (ent_one _ _ _) b3.out ?_; (intro w4 b4 B4 s4 k4; have B24 : Below w2.heap.size w2 w4 := B3.trans B4; have C4 := step_trans B1 (step_trans B2 B24); have h4 := At_step D h1 (step_trans B2 B24); replace s4 := Lib.hid s4; clear b4))
    | (go_at_call 33; ((with_reducible refine (zo w4).mono ?_); (rintro e w5 ⟨A5, c5, rfl, _, r5, B5⟩; have C5 := step_trans C4 B5; have h5 := At_step D h4 B5; have t5 := ht.below C5 (Nat.le_refl _))))
    | (go_at_call 24; ((with_reducible refine (z1 w5 b F A5 c5 t5 h5 r5).mono ?_); (rintro e w7 ⟨F7, rfl, h7, hF7, fr7⟩; obtain ⟨C7, G7⟩ := chg_go C5 hF hF7 fr7; have t7 := ht.below C7 (Nat.le_refl _))))
    | ((with_reducible refine atWorld w8 ?_); refine wpList_allocRow (w := w8) entTy rfl rfl ?_; (intro w9 b9 B9 s9; have b9 := Lib.hid b9; replace s9 := Lib.hid s9))
    | ((with_reducible refine atWorld w9 ?_); refine wpList_storeRow (w := w9) entTy rfl (.tmp 6) (.tmp 29) rfl w8.heap.size (entL E9 A8 c8) entZ rfl rfl rfl rfl (ent_one _ _ _) b9.out ?_; (intro w10 b10 B10 s10 k10; have B810 : Below w8.heap.size w8 w10 := B9.trans B10; have C10 := step_trans C7 (step_trans B8 B810); replace s10 := Lib.hid s10)))
  have KX : Hid (∀ w', Below w10.heap.size w10 w' → w'.cell? ⟨w8.heap.size, 0, none⟩ = some (.int .i64 E9.b) ∧ w'.cell? ⟨w8.heap.size, 1, none⟩ = some (.int .i64 E9.n) ∧ w'.cell? ⟨w8.heap.size, 2, none⟩ = some (.slice A8 E9.d.length c8)) := Lib.hid fun w' hb => ent_cells (b10.step hb)
  have RX : Hid (∀ w', Below w10.heap.size w10 w' → BytesAt w' w'.heap.size A8 dd) := Lib.hid fun w' hb => ((o8.bytes.step B810)).step hb
  have HC := Lib.hid C10
  have D0 := (Below.refl w10.heap.size w10).drew
  unfold entL at zo zs
  clear b10 o8 B810 C10 z0 z1 z2 h1 hF h4 h5 h7 hF7 fr7 G7 C7 C5 C4 t1 t5 t7 B8 B24 B2 B9 B10 B3 B4 zn r5 B5 b9 b3 k4 k10
  go_region_held3 (fun w' => w'.cell? ⟨w8.heap.size, 0, none⟩ = some (.int .i64 E9.b) ∧ w'.cell? ⟨w8.heap.size, 1, none⟩ = some (.int .i64 E9.n) ∧ w'.cell? ⟨w8.heap.size, 2, none⟩ = some (.slice A8 E9.d.length c8)) (first | assumption | exact KX.out _ D2 | exact KX.out _ D1 | exact KX.out _ D0) (first
    | (go_at_call 33; ((with_reducible refine (zo _).mono ?_); (rintro e w11 ⟨A11, c11, rfl, _, r11, B11⟩; have D1 := step_trans D0 B11; have r8 := RX.out _ D1)))
    | (go_at_call 16; ((with_reducible refine (zs A8 c8 A11 c11 w11 r8 r11).mono ?_); (rintro e w12 ⟨rfl, B12⟩; have D2 := step_trans D1 B12))))
  go_wp2
  go_ret
  exact ⟨rfl, step_trans HC.out D2⟩
end Go.Proofs.YtliiejdhbkmifaaDoor
