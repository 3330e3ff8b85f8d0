/-
  The walk of JournalTorn. Conditions: the table of crc lies as the program's text lays it; the bytes can be read.
-/
import Derived.Test.YtliiejdhbkmifaaDoorJnAwake
import Derived.Test.YtliiejdhbkmifaaDoorRowStep
import Derived.Test.YtliiejdhbkmifaaDoorKitCopy
import Derived.Test.YtliiejdhbkmifaaDoorBa
import Derived.Test.YtliiejdhbkmifaaDoorDiskAny
namespace Go.Proofs.YtliiejdhbkmifaaDoor
open Go.RowKit Fix

theorem twoE_blk (w : World) (x : Ent) (A : Option Addr) (c : Nat) (y : Ent) (A' : Option Addr) (c' : Nat) : ∃ W, W = (w.alloc (.cells (entL x A c).toArray 24)).alloc (.cells (entL y A' c').toArray 24) ∧ BlkR 24 W w.heap.size (entL x A c) ∧ BlkR 24 W (w.heap.size + 1) (entL y A' c') ∧ Below w.heap.size w W :=
  ⟨_, rfl, twoE_facts w x A c y A' c'⟩
theorem cells_set_head (k T : List UInt8) (p : Nat) (x : UInt8) (hp : p < k.length) : (cellsOfBytes (k ++ T)).set p (.int .u8 (x.toNat : Int)) = cellsOfBytes (k.set p x ++ T) := by
  rw [← List.set_append_left _ _ hp]
  simp [cellsOfBytes, List.map_set]
set_option maxRecDepth 100000 in
theorem torn_skip (e : Ent) (A : Option Addr) (c : Nat) (f : Ent) (A' : Option Addr) (c' : Nat) (x m : Int) (w : World) (ht : TabAt w) (hr : BytesAt w w.heap.size A e.d) (hr' : BytesAt w w.heap.size A' f.d)
    (h : Jn.may e = false ∨ Jn.may e = true ∧ Jn.may f = false) :
    Calls Tryd.prog 8 #[.agg (entL e A c).toArray, .agg (entL f A' c').toArray, .int .i64 x, .int .u32 m] w fun en w' => en = .returned (.bool true) ∧ Below w.heap.size w w' := by
  have zw := fun w t => awake_any disks w t
  obtain ⟨W, hW, b1, b2, B0⟩ := twoE_blk w e A c f A' c'
  have KX : Hid (∀ w', Below W.heap.size W w' → BlkR 24 w' w.heap.size (entL e A c) ∧ BlkR 24 w' (w.heap.size + 1) (entL f A' c') ∧ BytesAt w' w'.heap.size A e.d ∧ BytesAt w' w'.heap.size A' f.d ∧ TabAt w') := Lib.hid fun w' hb => ⟨b1.step hb, b2.step hb, hr.step (step_trans B0 hb), hr'.step (step_trans B0 hb), ht.below (step_trans B0 hb) (Nat.le_refl _)⟩
  have tW := ht.below B0 (Nat.le_refl _)
  have HB := Lib.hid B0
  have z1 := fun w t h => journalBytes_any e A c w t h
  have z2 := fun w t h => journalBytes_any f A' c' w t h
  unfold JbPost at z1 z2
  obtain ⟨be, hbe⟩ : ∃ x, x = Jn.bytesE e := ⟨_, rfl⟩
  obtain ⟨ce, hce⟩ : ∃ x, x = Jn.bytesE f := ⟨_, rfl⟩
  rw [← hbe] at z1
  rw [← hce] at z2
  have hh : (be != 0) = true ∨ be = 0 ∧ (ce != 0) = true := by
    rcases h with h | ⟨h, h'⟩
    · exact .inl (by rw [hbe, Jn.bytesE_no h]; decide)
    · exact .inr ⟨by rw [hbe, Jn.bytesE_yes h], by rw [hce, Jn.bytesE_no h']; decide⟩
  clear h hbe hce b1 b2 ht hr hr' B0
  rcases hh with hne | ⟨rfl, hne⟩
  · go_enter Tryd.func8, Tryd.ntmps8
    go_wp2_with (first
      | (go_at_call 19; rw [← hW]; refine (zw W tW).mono ?_; (rintro e w1 ⟨rfl, B1⟩; obtain ⟨x1, _, r1, _, t1⟩ := KX.out w1 B1; have x1 := Lib.hid x1))
      | ((with_reducible refine atWorld w1 ?_); refine wpList_loadRow (w := w1) entTy rfl (.tmp 4) rfl w.heap.size 0 (entL e A c) rfl rfl (rangeOf x1.out) ?_)
      | (go_at_call 11; first
        | ((with_reducible refine (z1 w1 t1 r1).mono ?_); (rintro e w2 ⟨A2, c2, rfl, _, o2, B2⟩; have C2 := step_trans B1 B2; obtain ⟨_, x2, _, r2, t2⟩ := KX.out w2 C2; have x2 := Lib.hid x2))
        | ((with_reducible refine (z2 w2 t2 r2).mono ?_); (rintro e w3 ⟨A3, c3, rfl, _, o3, B3⟩; have C3 := step_trans C2 B3)))
      | ((with_reducible refine atWorld w2 ?_); refine wpList_loadRow (w := w2) entTy rfl (.tmp 5) rfl (w.heap.size + 1) 0 (entL f A' c') rfl rfl (rangeOf x2.out) ?_))
    go_ret
    exact ⟨rfl, step_trans HB.out C3⟩
  · go_enter Tryd.func8, Tryd.ntmps8
    go_wp2_with (first
      | (go_at_call 19; rw [← hW]; refine (zw W tW).mono ?_; (rintro e w1 ⟨rfl, B1⟩; obtain ⟨x1, _, r1, _, t1⟩ := KX.out w1 B1; have x1 := Lib.hid x1))
      | ((with_reducible refine atWorld w1 ?_); refine wpList_loadRow (w := w1) entTy rfl (.tmp 4) rfl w.heap.size 0 (entL e A c) rfl rfl (rangeOf x1.out) ?_)
      | (go_at_call 11; first
        | ((with_reducible refine (z1 w1 t1 r1).mono ?_); (rintro e w2 ⟨A2, c2, rfl, _, o2, B2⟩; have C2 := step_trans B1 B2; obtain ⟨_, x2, _, r2, t2⟩ := KX.out w2 C2; have x2 := Lib.hid x2))
        | ((with_reducible refine (z2 w2 t2 r2).mono ?_); (rintro e w3 ⟨A3, c3, rfl, _, o3, B3⟩; have C3 := step_trans C2 B3)))
      | ((with_reducible refine atWorld w2 ?_); refine wpList_loadRow (w := w2) entTy rfl (.tmp 5) rfl (w.heap.size + 1) 0 (entL f A' c') rfl rfl (rangeOf x2.out) ?_))
    go_ret
    exact ⟨rfl, step_trans HB.out C3⟩
theorem Crc.num_inj : ∀ (a b : List UInt8), a.length = b.length → Crc.num a = Crc.num b → a = b
  | [], [], _, _ => rfl
  | [], _ :: _, h, _ => by cases h
  | _ :: _, [], h, _ => by cases h
  | x :: a, y :: b, hl, h => by
    have h : x.toNat + 256 * Crc.num a = y.toNat + 256 * Crc.num b := h
    have hx := x.toNat_lt
    have hy := y.toNat_lt
    have h1 : x.toNat = y.toNat := by omega
    have h2 : Crc.num a = Crc.num b := by omega
    rw [UInt8.toNat_inj.1 h1, Crc.num_inj a b (by simpa using hl) h2]
abbrev entO : Obj := .cells #[.int .i64 0, .int .i64 0, .slice none 0 0] 24
/-- entries are the same just if their sectors are -/
theorem same_sect (a n : Nat) (r : List UInt8) (b m : Nat) (l : List UInt8) (h : Jn.may ⟨a, n, r⟩ = true) (h' : Jn.may ⟨b, m, l⟩ = true) : (Jn.sect a n r == Jn.sect b m l) = Jn.same ⟨a, n, r⟩ ⟨b, m, l⟩ := by
  have hi := Jn.sect_inj a n r b m l h h'
  have hs := Jn.same_iff ⟨(a : Int), (n : Int), r⟩ ⟨(b : Int), (m : Int), l⟩
  rw [Bool.eq_iff_iff, beq_iff_eq, hi, hs]
  constructor
  · rintro ⟨rfl, rfl, rfl⟩; rfl
  · intro h
    injection h with h1 h2 h3
    exact ⟨by omega, by omega, h3⟩
set_option maxRecDepth 100000 in
set_option maxHeartbeats 4000000 in
theorem torn_go (a n : Nat) (r : List UInt8) (A : Option Addr) (c : Nat) (b m : Nat) (l : List UInt8) (A' : Option Addr) (c' : Nat) (x : Int) (k : Nat) (w : World) (ht : TabAt w) (hr : BytesAt w w.heap.size A r) (hr' : BytesAt w w.heap.size A' l)
    (hx1 : -9223372036854775808 ≤ x) (hx2 : x ≤ 9223372036854775807) (hk : k < 4294967296) (hz : Jn.may ⟨a, n, r⟩ = true) (hz' : Jn.may ⟨b, m, l⟩ = true) :
    Calls Tryd.prog 8 #[.agg (entL ⟨a, n, r⟩ A c).toArray, .agg (entL ⟨b, m, l⟩ A' c').toArray, .int .i64 x, .int .u32 (k : Int)] w fun en w' => en = .returned (.bool true) ∧ Below w.heap.size w w' := by
  have zw := fun w t => awake_any disks w t
  obtain ⟨W, hW, b1, b2, B0⟩ := twoE_blk w ⟨a, n, r⟩ A c ⟨b, m, l⟩ A' c'
  obtain ⟨_, _, hn1, hn2, h32⟩ := (Jn.may_mk _ _ _).1 hz
  obtain ⟨_, _, hm1, hm2, h32'⟩ := (Jn.may_mk _ _ _).1 hz'
  have eL : ∀ A c, entL ⟨a, n, r⟩ A c = entN a n A 32 c := fun A c => entL_eq _ _ _ _ h32 A c
  have eL' : ∀ A c, entL ⟨b, m, l⟩ A c = entN b m A 32 c := fun A c => entL_eq _ _ _ _ h32' A c
  have ha := Jn.sect_length a n r h32
  have hb := Jn.sect_length b m l h32'
  have hsum := Jn.sum_right (Jn.sect_right a n r hz)
  have hright := Jn.sect_right a n r hz
  have hss := same_sect a n r b m l hz hz'
  have z1 := fun w t h => journalBytes_any ⟨a, n, r⟩ A c w t h
  have z2 := fun w t h => journalBytes_any ⟨b, m, l⟩ A' c' w t h
  unfold JbPost at z1 z2
  rw [Jn.bytesE_yes hz, Jn.bytesB_yes hz, ha] at z1
  rw [Jn.bytesE_yes hz', Jn.bytesB_yes hz', hb] at z2
  have zs := fun A1 c1 A2 c2 w1 h h' => sameBytes_any A1 (Jn.sect a n r) 64 c1 ha A2 (Jn.sect b m l) 64 c2 hb w1.heap.size w1 h h'
  have ze := fun w h h' => sameEntry_any ⟨a, n, r⟩ A c ⟨b, m, l⟩ A' c' w h h'
  rw [hss] at zs
  obtain ⟨y, hy⟩ : ∃ y, y = Jn.same ⟨(a : Int), (n : Int), r⟩ ⟨(b : Int), (m : Int), l⟩ := ⟨_, rfl⟩
  rw [← hy] at zs ze
  have na : Jn.num (Jn.sect a n r) = n := Jn.sect_num a n r (by omega)
  have gb : Jn.again (Jn.sect b m l) = m := Jn.sect_again b m l h32' (by omega)
  have htl := Jn.torn_length (Jn.sect a n r) (Jn.sect b m l) ha hb
  have hbad : n ≠ m → Jn.readE (Jn.torn (Jn.sect a n r) (Jn.sect b m l)) = 11 := fun h => (Jn.torn_bad (Jn.sect a n r) (Jn.sect b m l) ha hb (by rw [na, gb]; exact h)).1
  obtain ⟨sa, hsa⟩ : ∃ x, x = Jn.sect a n r := ⟨_, rfl⟩
  obtain ⟨sb, hsb⟩ : ∃ x, x = Jn.sect b m l := ⟨_, rfl⟩
  rw [← hsa] at z1 zs ha hsum hright hbad htl
  rw [← hsb] at z2 zs hb hbad htl
  have z3 := fun A c w hc t h => journalRead_any A (Jn.torn sa sb) 64 c htl hc w t h
  unfold JrPost at z3
  obtain ⟨ge, hge⟩ : ∃ x, x = Jn.readE (Jn.torn sa sb) := ⟨_, rfl⟩
  obtain ⟨gv, hgv⟩ : ∃ x, x = Jn.readV (Jn.torn sa sb) := ⟨_, rfl⟩
  rw [← hge, ← hgv] at z3
  rw [← hge] at hbad
  unfold Jn.torn at z3
  have l32 : (sa.take 32).length = 32 := by rw [List.length_take]; omega
  have d32 : (sb.drop 32).length = 32 := by rw [List.length_drop]; omega
  have zc := fun A c w h => copyBytes_any A (sa.take 32) 32 c l32 w (by omega) h
  unfold CopyPost at zc
  rw [l32] at zc
  have HL := Lib.hid (And.intro l32 (And.intro d32 (And.intro ha hb)))
  have HS := Lib.hid (And.intro hsum hright)
  simp only [eL] at z1 ze b1 hW ⊢
  simp only [eL'] at z2 ze b2 hW ⊢
  have KX : Hid (∀ w', Below W.heap.size W w' → BlkR 24 w' w.heap.size (entN a n A 32 c) ∧ BlkR 24 w' (w.heap.size + 1) (entN b m A' 32 c') ∧ BytesAt w' w'.heap.size A r ∧ BytesAt w' w'.heap.size A' l ∧ TabAt w') := Lib.hid fun w' hb => ⟨b1.step hb, b2.step hb, hr.step (step_trans B0 hb), hr'.step (step_trans B0 hb), ht.below (step_trans B0 hb) (Nat.le_refl _)⟩
  have CX : Hid (∀ w', Below W.heap.size W w' → w'.cell? ⟨w.heap.size, 0, none⟩ = some (.int .i64 (a : Int)) ∧ w'.cell? ⟨w.heap.size, 1, none⟩ = some (.int .i64 (n : Int)) ∧ w'.cell? ⟨w.heap.size, 2, none⟩ = some (.slice A 32 c) ∧ w'.cell? ⟨w.heap.size + 1, 0, none⟩ = some (.int .i64 (b : Int)) ∧ w'.cell? ⟨w.heap.size + 1, 1, none⟩ = some (.int .i64 (m : Int)) ∧ w'.cell? ⟨w.heap.size + 1, 2, none⟩ = some (.slice A' 32 c')) := Lib.hid fun w' hb => ⟨(b1.step hb).cell rfl, (b1.step hb).cell rfl, (b1.step hb).cell rfl, (b2.step hb).cell rfl, (b2.step hb).cell rfl, (b2.step hb).cell rfl⟩
  have tW := ht.below B0 (Nat.le_refl _)
  have HB := Lib.hid B0
  have q1 : ∀ (A : Option Addr) (c : Nat), 64 ≤ c → ∀ W, (Instr.slice 22 (.slice A 64 c) none (some (.int .i64 32)) none).run Tryd.prog W = .ok (.slice A 32 c) W := fun A c h W => cut_to A 64 c 32 (by omega) W
  have q2 : ∀ (A : Option Addr) (c : Nat), 64 ≤ c → ∀ W, (Instr.slice 22 (.slice A 64 c) (some (.int .i64 32)) none none).run Tryd.prog W = .ok (.slice (cutA A 32 c) 32 (c - 32)) W := fun A c h W => cut_from A 64 c 32 (by omega) W
  unfold entN at ze hW ⊢
  unfold entL at z3
  clear b1 b2 ht hr hr' B0 hz hz' eL eL' hss hy na gb htl hsa hsb hge hgv l32 d32 ha hb hsum hright hn1 hn2 hm1 hm2 h32 h32'
  go_enter Tryd.func8, Tryd.ntmps8
  go_wp2_with (first
    | (go_at_call 19; rw [← hW]; refine (zw W tW).mono ?_; (rintro e w1 ⟨rfl, B1⟩; obtain ⟨x1, _, r1, _, t1⟩ := KX.out w1 B1; have x1 := Lib.hid x1))
    | ((with_reducible refine atWorld w1 ?_); refine wpList_loadRow (w := w1) entTy rfl (.tmp 4) rfl w.heap.size 0 (entN a n A 32 c) rfl rfl (rangeOf x1.out) ?_)
    | (go_at_call 11; first
      | ((with_reducible refine (z1 w1 t1 r1).mono ?_); (rintro e w2 ⟨A2, c2, rfl, _, o2, B2⟩; have C2 := step_trans B1 B2; have hc2 := o2.cap; rw [HL.out.2.2.1] at hc2; obtain ⟨_, x2, _, r2, t2⟩ := KX.out w2 C2; have x2 := Lib.hid x2))
      | ((with_reducible refine (z2 w2 t2 r2).mono ?_); (rintro e w3 ⟨A3, c3, rfl, _, o3, B3⟩; have C3 := step_trans C2 B3; have hc3 := o3.cap; rw [HL.out.2.2.2] at hc3; have q1 := q1 A2 c2 hc2; have q2 := q2 A3 c3 hc3)))
    | ((with_reducible refine atWorld w2 ?_); refine wpList_loadRow (w := w2) entTy rfl (.tmp 5) rfl (w.heap.size + 1) 0 (entN b m A' 32 c') rfl rfl (rangeOf x2.out) ?_))
  have HO := Lib.hid (And.intro (o2.step B3) o3)
  have HWG := Lib.hid B1.size
  have HC := Lib.hid C3
  have D0 := (Below.refl w3.heap.size w3).drew
  clear o2 o3 B3 C3 C2 B2 B1 x1 x2 r1 r2 t1 t2 tW z1 z2
  go_region_held3 (fun w' => w'.cell? ⟨w.heap.size, 0, none⟩ = some (.int .i64 (a : Int)) ∧ w'.cell? ⟨w.heap.size, 1, none⟩ = some (.int .i64 (n : Int)) ∧ w'.cell? ⟨w.heap.size, 2, none⟩ = some (.slice A 32 c) ∧ w'.cell? ⟨w.heap.size + 1, 0, none⟩ = some (.int .i64 (b : Int)) ∧ w'.cell? ⟨w.heap.size + 1, 1, none⟩ = some (.int .i64 (m : Int)) ∧ w'.cell? ⟨w.heap.size + 1, 2, none⟩ = some (.slice A' 32 c')) (first | assumption | exact CX.out _ (step_trans HC.out D1) | exact CX.out _ (step_trans HC.out D0)) (first
    | (go_at_call 15; (refine (zs A2 c2 A3 c3 _ (HO.out.1.bytes.step D0) (HO.out.2.bytes.step D0)).mono ?_); (rintro e w4 ⟨rfl, rfl⟩))
    | (go_at_call 16; (refine (ze _ (KX.out _ (step_trans HC.out D0)).2.2.1 (KX.out _ (step_trans HC.out D0)).2.2.2.1).mono ?_); (rintro e w4 ⟨rfl, B4⟩; have D1 := step_trans D0 B4)))
  go_wp2_with fail
  have HO4 := Lib.hid (And.intro (HO.out.1.step D1) (HO.out.2.step D1))
  have HC4 := Lib.hid (step_trans HC.out D1)
  have E0 := (Below.refl w4.heap.size w4).drew
  clear D0 D1 HO HC B4 zs ze
  have HX := Lib.hid (fun (w' : World) (hb : Below w4.heap.size w4 w') => And.intro (HO4.out.1.bytes.step hb) (And.intro (HO4.out.2.bytes.step hb) (KX.out _ (step_trans HC4.out hb)).2.2.2.2))
  go_cut [14, 15] from 54 to 63 (fun p g wx => ∃ B, p = .pointer (some ⟨B, 0, none⟩) ∧ g = .int .i64 ge ∧ Below w4.heap.size w4 wx)
  case first =>
    go_region_held3 (fun w' => Below w4.heap.size w4 w') (first | assumption | exact step_alloc E0 _ | exact step_alloc E5 _ | exact step_alloc E6 _ | exact step_alloc E7 _ | exact ((E7.setCell (p := ⟨_, 0, none⟩) h47 _).setCell (p := ⟨_, 1, none⟩) h47 _).setCell (p := ⟨_, 2, none⟩) h47 _) (first
      | (go_at_call 32; first
        | (refine (zc A2 c2 w4.drew ((HX.out _ E0).1.take 32)).mono ?_; (rintro e w5 ⟨A5, c5, rfl, ho5, B5⟩; have E5 : Below w4.heap.size w4 w5 := undrew B5; obtain ⟨bs, hbs, hb4⟩ : ∃ bs, bs = w4.heap.size ∧ w4.heap.size ≤ bs := ⟨_, rfl, Nat.le_refl _⟩; have HO5 := Lib.hid (show OwnB w5 bs (.slice A5 32 c5) (sa.take 32) from by rw [hbs]; exact ho5); have hb5 : bs ≤ w5.heap.size := (by rw [hbs]; exact E5.size); clear ho5 hbs))
        | (refine (zc A2 c2 (w4.drew.alloc entO) ((HX.out _ (step_alloc E0 _)).1.take 32)).mono ?_; (rintro e w5 ⟨A5, c5, rfl, ho5, B5⟩; have E5 : Below w4.heap.size w4 w5 := step_trans (step_alloc E0 entO) B5; obtain ⟨bs, hbs, hb4⟩ : ∃ bs, bs = (w4.drew.alloc entO).heap.size ∧ w4.heap.size ≤ bs := ⟨_, rfl, (step_alloc E0 entO).size⟩; have HO5 := Lib.hid (show OwnB w5 bs (.slice A5 32 c5) (sa.take 32) from by rw [hbs]; exact ho5); have hb5 : bs ≤ w5.heap.size := (by rw [hbs]; exact B5.size); have hg4 : w4.heap.size < bs := (by rw [hbs]; simp); have y5 : BlkR 24 w5 w4.heap.size entZ := (BlkR.new w4.drew entZ 24).step B5; have hGb := Lib.hid hg4; have h47 : w4.heap.size ≤ w4.heap.size := Nat.le_refl _; have y5 := Lib.hid y5; clear ho5 hbs hg4)))
      | (first
        | (refine step_appendB rfl (.tmp 57) (.tmp 59) 22 rfl rfl bs _ (sa.take 32) rfl HO5.out (cutA A3 32 c3) (sb.drop 32) 32 (c3 - 32) w5.heap.size rfl HL.out.2.1 ((HX.out _ E5).2.1.drop 32 c3 (by rw [HL.out.2.2.2]; exact hc3)) (by rw [HL.out.1, HL.out.2.1]; decide) hb5 ?_; (intro v6 w6 ho6 hg6 hat6; have E6 := E5.grown hg6 E5.size (fun j hj => Nat.le_trans hb4 (HO5.out.lt j hj).1); obtain ⟨A6, c6, rfl, hc6⟩ := ho6.form; rw [show (sa.take 32 ++ sb.drop 32).length = 64 by rw [List.length_append, HL.out.1, HL.out.2.1]] at hc6 ho6 ⊢; have x6 := ho6.bytes; clear ho6; first | (have y6 := Lib.hid (y5.out.below ((Below.refl bs w5).grown hg6 hb5 (fun j hj => (HO5.out.lt j hj).1)) hGb.out)) | skip))
        | (refine step_appendB rfl (.tmp 57) (.tmp 59) 22 rfl rfl bs _ (sa.take 32) rfl (HO5.out.alloc entO) (cutA A3 32 c3) (sb.drop 32) 32 (c3 - 32) (w5.alloc entO).heap.size rfl HL.out.2.1 ((HX.out _ (step_alloc E5 entO)).2.1.drop 32 c3 (by rw [HL.out.2.2.2]; exact hc3)) (by rw [HL.out.1, HL.out.2.1]; decide) (Nat.le_trans hb5 (step_alloc (Below.refl _ _) entO).size) ?_; (intro v6 w6 ho6 hg6 hat6; have E6 := (step_alloc E5 entO).grown hg6 (step_alloc E5 entO).size (fun j hj => Nat.le_trans hb4 (HO5.out.lt j hj).1); have y6 : BlkR 24 w6 w5.heap.size entZ := (hg6.block w5.heap.size (by simp) (fun h => by have := (HO5.out.lt _ h.symm).2; omega)).trans (BlkR.new w5 entZ 24); have h47 := E5.size; have y6 := Lib.hid y6; obtain ⟨A6, c6, rfl, hc6⟩ := ho6.form; rw [show (sa.take 32 ++ sb.drop 32).length = 64 by rw [List.length_append, HL.out.1, HL.out.2.1]] at hc6 ho6 ⊢; have x6 := ho6.bytes; clear ho6)))
      | (go_at_call 13; first
        | (refine (z3 A6 c6 w6 hc6 (HX.out _ E6).2.2 x6).mono ?_; (rintro e w7 ⟨A7, c7, rfl, _, _, B7⟩; have E7 := step_trans E6 B7; have b7 := y6.out.step B7; have s0 := b7.cell (k := 0) rfl; have s1 := b7.cell (k := 1) rfl; have s2 := b7.cell (k := 2) rfl; have f0 := b7.frozen 0; have f1 := b7.frozen 1; have f2 := b7.frozen 2; clear b7))
        | (refine (z3 A6 c6 w6 hc6 (HX.out _ E6).2.2 x6).mono ?_; (rintro e w7 ⟨A7, c7, rfl, _, _, B7⟩; have E7 := step_trans E6 B7))
        | (refine (z3 A6 c6 (w6.alloc entO) hc6 (HX.out _ (step_alloc E6 entO)).2.2 (x6.step (step_alloc (Below.refl _ _) entO))).mono ?_; (rintro e w7 ⟨A7, c7, rfl, _, _, B7⟩; have E7 := step_trans (step_alloc E6 entO) B7; have b7 := (BlkR.new w6 entZ 24).step B7; have h47 := E6.size; have s0 := b7.cell (k := 0) rfl; have s1 := b7.cell (k := 1) rfl; have s2 := b7.cell (k := 2) rfl; have f0 := b7.frozen 0; have f1 := b7.frozen 1; have f2 := b7.frozen 2; clear b7))))
    all_goals (go_wp2_with fail; go_meet)
    all_goals first | exact ⟨_, rfl, rfl, step_alloc E7 _⟩ | exact ⟨_, rfl, rfl, ((E7.setCell (p := ⟨_, 0, none⟩) h47 _).setCell (p := ⟨_, 1, none⟩) h47 _).setCell (p := ⟨_, 2, none⟩) h47 _⟩
  case rest =>
    obtain ⟨B, rfl, rfl, E9⟩ := hcut
    have C9 := step_trans HC4.out E9
    obtain ⟨_, u1, _, _, v1, _⟩ := CX.out wc C9
    obtain ⟨g, T, E, rfl, hg, hk6, ec⟩ := (HO4.out.1.step E9).resolve_left (fun y => by have := congrArg List.length y.1; rw [HL.out.2.2.1] at this; exact absurd this (by decide))
    clear ec
    have hgW := Lib.hid hg
    have HK := Lib.hid hk6
    have HC9 := Lib.hid C9
    have hf : (((n : Int) != (m : Int)) = false) ∨ (((n : Int) != (m : Int)) = true ∧ ge = 11) := by
      by_cases h : n = m
      · exact .inl (by simp [h])
      · exact .inr ⟨by simp; omega, hbad h⟩
    obtain ⟨f, hff⟩ : ∃ f : Nat, x % 481 = (f : Int) := ⟨(x % 481).toNat, by omega⟩
    have hf1 := Lib.hid (show f + 32 ≤ 512 by omega)
    have zp := fun w : World => pick_any x 481 w hx1 hx2 (by decide) (by decide)
    rw [hff] at zp
    have zq := fun kk (hl : kk.length = 64) W t h => journalRead_any (some ⟨g, 0, none⟩) kk 64 c2 hl hc2 W t h
    unfold JrPost at zq
    have e11 : ∀ b : Bool, ((11 : Int) == 11) = true := fun _ => rfl
    clear e11 hbad z3 zc q1 q2 HX HO4 HC4 E9 hg hk6 C9 hff hx1 hx2 CX hc3 E0
    rcases hf with fn | ⟨fn, rfl⟩
    all_goals
      go_wp2_with (go_at_call 20; refine (zp wc).mono ?_; (rintro e w3 ⟨rfl, rfl⟩))
      clear zp u1 v1 fn
      go_loopw [16] (fun i wr => ∃ j : Nat, j ≤ 32 ∧ i = .int .i64 (j : Int) ∧ (∃ kk : List UInt8, kk.length = 64 ∧ BlkR E wr g (cellsOfBytes (kk ++ List.replicate T 0)) ∧ Crc.num kk = Crc.num sa ^^^ (2 ^ f * (k % 2 ^ j))) ∧ Below W.heap.size W wr) (fun i _ => 32 - (intOf i).toNat)
      case atStart => exact ⟨0, by omega, rfl, ⟨sa, HL.out.2.2.1, HK.out, by simp [Nat.mod_one]⟩, HC9.out⟩
      case round =>
        obtain ⟨j, hj, rfl, ⟨kk, hkl, hok, hnum⟩, hbel⟩ := hrel
        have HN := Lib.hid (And.intro hkl (And.intro hnum hok))
        clear hkl hnum
        by_cases hj32 : j < 32
        · have hcast : ((k : Int) / 2 ^ j).tmod 2 = ((k / 2 ^ j % 2 : Nat) : Int) := by
            have e : ((k : Int) / 2 ^ j) = ((k / 2 ^ j : Nat) : Int) := by rw [Int.natCast_ediv, Int.natCast_pow]; rfl
            rw [e, Int.tmod_eq_emod_of_nonneg (Int.natCast_nonneg _)]
            rfl
          by_cases hbit : k / 2 ^ j % 2 = 1
          · have hbt : (((k : Int) / 2 ^ j).tmod 2 == 1) = true := by rw [hcast, hbit]; rfl
            have HBt := Lib.hid hbit
            clear hcast hbit
            have hfb := hf1.out
            have p0 : (f + j) / 8 < 64 := by omega
            have hcell := hok.cell (cellsOfBytes_get (kk ++ List.replicate T 0) ((f + j) / 8) (by rw [List.length_append, HN.out.1]; omega))
            rw [show (kk ++ List.replicate T (0 : UInt8)).getD ((f + j) / 8) 0 = kk.getD ((f + j) / 8) 0 by rw [List.getD_eq_getElem?_getD, List.getD_eq_getElem?_getD, List.getElem?_append_left (by rw [HN.out.1]; exact p0)]] at hcell
            have hfr := hok.frozen ((f + j) / 8)
            clear hok
            go_wp2
            go_region
            go_wp2
            go_roundw
            case rel =>
              obtain ⟨hkl, hnum, hok⟩ := HN.out
              have hlt : (kk.getD ((f + j) / 8) 0).toNat < 256 := (kk.getD ((f + j) / 8) 0).toNat_lt
              have hone : (2 : Int) ^ ((f + j) % 8) % 256 = ((Crc.oneBit (f + j)).toNat : Int) := by
                have h1 := Crc.oneBit_toNat (f + j)
                have h2 := (Crc.oneBit (f + j)).toNat_lt
                have h3 : (2 : Int) ^ ((f + j) % 8) = ((Crc.oneBit (f + j)).toNat : Int) := by rw [h1, Int.natCast_pow]; rfl
                rw [h3]
                omega
              have hv : bits .xor .u8 ((kk[(f + j) / 8]?.getD 0).toNat : Int) ((2 : Int) ^ ((f + j) % 8) % 256) = ((kk.getD ((f + j) / 8) 0 ^^^ Crc.oneBit (f + j)).toNat : Int) := by
                rw [hone, UInt8.toNat_xor, ← List.getD_eq_getElem?_getD]
                exact u8_xor_nat _ _ hlt (Crc.oneBit (f + j)).toNat_lt
              refine ⟨j + 1, by omega, by go_num, ⟨kk.set ((f + j) / 8) (kk.getD ((f + j) / 8) 0 ^^^ Crc.oneBit (f + j)), by rw [List.length_set]; exact hkl, ?_, ?_⟩, (hbel.setCell (Nat.le_trans HWG.out hgW.out) _).drew⟩
              · rw [hv, ← cells_set_head kk (List.replicate T 0) ((f + j) / 8) _ (by rw [hkl]; exact p0)]
                exact hok.set_ _ _
              · rw [Crc.num_turn kk _ (by rw [hkl]; exact p0), hnum, Crc.mask_step _ _ _ _ HBt.out]
            case measure => simp [intOf]; omega
          · have hbt : (((k : Int) / 2 ^ j).tmod 2 == 1) = false := by rw [hcast]; rw [beq_eq_false_iff_ne]; omega
            have HBt := Lib.hid hbit
            clear hcast hbit
            go_wp2
            go_roundw
            case rel =>
              obtain ⟨hkl, hnum, hok⟩ := HN.out
              exact ⟨j + 1, by omega, by go_num, ⟨kk, hkl, hok, by rw [hnum, Crc.mask_zero k j HBt.out]⟩, hbel⟩
            case measure => simp [intOf]; omega
        · obtain rfl : j = 32 := by omega
          have hkb : BytesAt wr wr.heap.size (some ⟨g, 0, none⟩) kk := by
            have := hok.cut 64
            rwa [List.take_left' HN.out.1] at this
          have tr := (KX.out _ hbel).2.2.2.2
          have zr := zq kk HN.out.1 wr tr hkb
          obtain ⟨hk1, hk2⟩ : ∃ z, (Jn.readE kk == 11) = z ∧ ((k : Int) != 0) = z := by
            by_cases h0 : k = 0
            · subst h0
              have e : kk = sa := Crc.num_inj kk sa (by rw [HN.out.1, HL.out.2.2.1]) (by have := HN.out.2.1; simpa using this)
              exact ⟨false, by rw [e, (Jn.readE_zero sa).2 HS.out.2]; rfl, rfl⟩
            · have hbad : Jn.right kk = false := by
                obtain ⟨hkl, hnum, _⟩ := HN.out
                rw [Nat.mod_eq_of_lt (show k < 2 ^ 32 by omega)] at hnum
                exact Jn.turned_bad sa kk HS.out.1 (by rw [hkl, HL.out.2.2.1]) f k h0 hk (by rw [HL.out.2.2.1]; exact hf1.out) hnum
              exact ⟨true, by rw [Jn.readE_bad HN.out.1 hbad]; rfl, by simp; omega⟩
          obtain ⟨hq1, hq2⟩ := hk2
          obtain ⟨re, hre⟩ : ∃ x, x = Jn.readE kk := ⟨_, rfl⟩
          obtain ⟨rv, hrv⟩ : ∃ x, x = Jn.readV kk := ⟨_, rfl⟩
          rw [← hre, ← hrv] at zr
          rw [← hre] at hq1
          have HBL := Lib.hid hbel
          clear hkb hok hre hrv hbel
          go_wp2_with (first
            | (go_at_call 13; ((with_reducible refine zr.mono ?_); (rintro e w6 ⟨A6, c6, rfl, _, _, B6⟩)))
            | ((with_reducible refine atWorld w6 ?_); refine wpList_allocRow (w := w6) entTy rfl rfl ?_; (intro w7 b7 B7 s7; have b7 := Lib.hid b7; replace s7 := Lib.hid s7))
            | ((with_reducible refine atWorld w7 ?_); refine wpList_storeRow (w := w7) entTy rfl (.tmp 17) (.tmp 106) rfl w6.heap.size (entL rv A6 c6) entZ rfl rfl rfl rfl (ent_one _ _ _) b7.out ?_; (intro w8 b8 B8 s8 k8; have D8 : Below w6.heap.size w6 w8 := B7.trans B8)))
          go_ret
          exact ⟨by simp, step_trans HB.out (step_trans (step_trans HBL.out B6) D8)⟩
theorem torn_any (e : Ent) (A : Option Addr) (c : Nat) (f : Ent) (A' : Option Addr) (c' : Nat) (x m : Int) (hx : -9223372036854775808 ≤ x ∧ x ≤ 9223372036854775807) (hm : 0 ≤ m ∧ m ≤ 4294967295) (w : World) (ht : TabAt w) (hr : BytesAt w w.heap.size A e.d) (hr' : BytesAt w w.heap.size A' f.d) :
    Calls Tryd.prog 8 #[.agg (entL e A c).toArray, .agg (entL f A' c').toArray, .int .i64 x, .int .u32 m] w fun en w' => en = .returned (.bool true) ∧ Below w.heap.size w w' := by
  cases h1 : Jn.may e with
  | false => exact torn_skip e A c f A' c' x m w ht hr hr' (.inl h1)
  | true =>
    cases h2 : Jn.may f with
    | false => exact torn_skip e A c f A' c' x m w ht hr hr' (.inr ⟨h1, h2⟩)
    | true =>
      obtain ⟨a, n, he, _⟩ := Jn.may_nat h1
      obtain ⟨b, k, hf, _⟩ := Jn.may_nat h2
      obtain ⟨m, rfl⟩ : ∃ k : Nat, m = (k : Int) := ⟨m.toNat, by omega⟩
      rw [he] at h1 hr ⊢
      rw [hf] at h2 hr' ⊢
      exact torn_go a n e.d A c b k f.d A' c' x m w ht hr hr' hx.1 hx.2 (by omega) h1 h2
end Go.Proofs.YtliiejdhbkmifaaDoor
