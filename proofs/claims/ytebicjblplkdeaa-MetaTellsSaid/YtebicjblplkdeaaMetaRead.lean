/-
  meta.Read: what it tells. Conditions: the bytes can be read.
-/
import Derived.Test.YtebicjblplkdeaaMetaBytes
namespace Go.Proofs.Ytebicjblplkdeaa
open Go.RowKit Fix

theorem fget_yes (A : Option Addr) (l : List UInt8) (c : Nat) (oi si : Int) (o s e : Nat) (ho : oi = (o : Int)) (hs : si = (s : Int)) (he : e = o + s) (h1 : 1 ≤ s) (h7 : s ≤ 7) (h : e ≤ l.length) (w : World) (hlc : l.length ≤ c) (hc : l.length ≤ 140737488351232) (hr : BytesAt w w.heap.size A l) :
    Calls Try.prog 24 #[.slice A l.length c, .int .i64 oi, .int .i64 si] w fun x w' => x = .returned (.tuple #[.int .i64 (Mt.at_ l o s : Int), .int .i64 (e : Int), .agg #[.int .i64 0, .int .i64 0]]) ∧ Below w.heap.size w w' := by
  have z := get_any A l c oi si w hlc hc hr
  subst ho; subst hs; subst he
  have hz : isz (s : Int) = true := (isz_iff _).2 ⟨by omega, by omega⟩
  have hR : inR l.length (o : Int) = true := by simp [inR]; omega
  have hI : inN l.length (o : Int) s = true := by simp [inN, inR]; omega
  have e1 : getsN l (o : Int) (s : Int) = Mt.at_ l o s := by simp [getsN, hz, getN, hI, Mt.at_]
  have e2 : getsP l.length (o : Int) (s : Int) = ((o + s : Nat) : Int) := by simp [getsP, hz, getP, hI]
  have e3 : getsE l.length (o : Int) (s : Int) = 0 := by simp [getsE, hz, getE, hI, hR]
  have e4 : getsA l.length (o : Int) (s : Int) = 0 := by simp [getsA, hz, getA, hI, hR]
  rw [e1, e2, e3, e4] at z
  exact z
theorem fget_no (A : Option Addr) (l : List UInt8) (c : Nat) (oi si : Int) (o s : Nat) (ho : oi = (o : Int)) (hs : si = (s : Int)) (h1 : 1 ≤ s) (h7 : s ≤ 7) (h : ¬ o + s ≤ l.length) (h2 : o ≤ l.length) (hlc : l.length ≤ c) (hc : l.length ≤ 140737488351232) :
    ∃ a : Int, ∀ w, BytesAt w w.heap.size A l → Calls Try.prog 24 #[.slice A l.length c, .int .i64 oi, .int .i64 si] w fun x w' => x = .returned (.tuple #[.int .i64 0, .int .i64 0, .agg #[.int .i64 4, .int .i64 a]]) ∧ Below w.heap.size w w' := by
  refine ⟨getsA l.length oi si, fun w hr => ?_⟩
  have z := get_any A l c oi si w hlc hc hr
  subst ho; subst hs
  have hz : isz (s : Int) = true := (isz_iff _).2 ⟨by omega, by omega⟩
  have hR : inR l.length (o : Int) = true := by simp [inR]; omega
  have hI : inN l.length (o : Int) s = false := by rw [← Bool.not_eq_true]; simp [inN, inR]; omega
  have e1 : getsN l (o : Int) (s : Int) = 0 := by simp [getsN, hz, getN, hI]
  have e2 : getsP l.length (o : Int) (s : Int) = 0 := by simp [getsP, hz, getP, hI]
  have e3 : getsE l.length (o : Int) (s : Int) = 4 := by simp [getsE, hz, getE, hI, hR]
  rw [e1, e2, e3] at z
  exact z
theorem idx_fldF (a b c d e f : Int) : (∀ w : World, (Instr.index 44 (.agg (fldL a b c d e f).toArray) (.int .i64 0)).run Try.prog w = .ok (.agg #[.int .i64 a, .int .i64 6]) w) ∧ (∀ w : World, (Instr.index 44 (.agg (fldL a b c d e f).toArray) (.int .i64 1)).run Try.prog w = .ok (.agg #[.int .i64 b, .int .i64 1]) w) ∧ (∀ w : World, (Instr.index 44 (.agg (fldL a b c d e f).toArray) (.int .i64 2)).run Try.prog w = .ok (.agg #[.int .i64 c, .int .i64 6]) w) ∧ (∀ w : World, (Instr.index 44 (.agg (fldL a b c d e f).toArray) (.int .i64 3)).run Try.prog w = .ok (.agg #[.int .i64 d, .int .i64 6]) w) ∧ (∀ w : World, (Instr.index 44 (.agg (fldL a b c d e f).toArray) (.int .i64 4)).run Try.prog w = .ok (.agg #[.int .i64 e, .int .i64 1]) w) ∧ (∀ w : World, (Instr.index 44 (.agg (fldL a b c d e f).toArray) (.int .i64 5)).run Try.prog w = .ok (.agg #[.int .i64 f, .int .i64 6]) w) := idx_fld a b c d e f
/-- where field k begins -/
def rdP : Nat → Nat
  | 0 => 0
  | 1 => 6
  | 2 => 7
  | 3 => 13
  | 4 => 19
  | 5 => 20
  | _ => 26
/-- the fields, k of them read -/
def rdL (l : List UInt8) : Nat → List Value
  | 0 => fldL 0 0 0 0 0 0
  | 1 => fldL (Mt.at_ l 0 6) 0 0 0 0 0
  | 2 => fldL (Mt.at_ l 0 6) (Mt.at_ l 6 1) 0 0 0 0
  | 3 => fldL (Mt.at_ l 0 6) (Mt.at_ l 6 1) (Mt.at_ l 7 6) 0 0 0
  | 4 => fldL (Mt.at_ l 0 6) (Mt.at_ l 6 1) (Mt.at_ l 7 6) (Mt.at_ l 13 6) 0 0
  | 5 => fldL (Mt.at_ l 0 6) (Mt.at_ l 6 1) (Mt.at_ l 7 6) (Mt.at_ l 13 6) (Mt.at_ l 19 1) 0
  | _ => fldL (Mt.at_ l 0 6) (Mt.at_ l 6 1) (Mt.at_ l 7 6) (Mt.at_ l 13 6) (Mt.at_ l 19 1) (Mt.at_ l 20 6)
theorem rd_short {l : List UInt8} (h : l.length ≠ 26) : Mt.readE l = 4 ∧ Mt.readM l = Mt.zero := by
  have : Mt.good l = false := by simp [Mt.good, h]
  simp [Mt.readE, Mt.readM, this]
theorem at_lt (l : List UInt8) (o s : Nat) : Mt.at_ l o s < 256 ^ s := by
  have h := le_lt ((l.drop o).take s)
  exact Nat.lt_of_lt_of_le h (Nat.pow_le_pow_right (by decide) (by simp; omega))
theorem mt_cells {E : TypeId} {w : World} {g : Nat} {m : Mt} (b : BlkR E w g (mtL m)) : w.cell? ⟨g, 0, none⟩ = some (.int .i64 m.t) ∧ w.cell? ⟨g, 1, none⟩ = some (.int .i64 m.v) ∧ w.cell? ⟨g, 2, none⟩ = some (.int .i64 m.rt) ∧ w.cell? ⟨g, 3, none⟩ = some (.int .i64 m.rn) ∧ w.cell? ⟨g, 4, none⟩ = some (.int .i64 m.rs) ∧ w.cell? ⟨g, 5, none⟩ = some (.int .i64 m.b) := ⟨b.cell rfl, b.cell rfl, b.cell rfl, b.cell rfl, b.cell rfl, b.cell rfl⟩
/-- what Read tells -/
def MtRd (l : List UInt8) (w : World) (e : Ending) (w' : World) : Prop :=
  e = .returned (.tuple #[.agg (mtL (Mt.readM l)).toArray, .int .i64 (Mt.readE l)]) ∧ Below w.heap.size w w'
set_option maxRecDepth 100000 in
set_option maxHeartbeats 2000000 in
theorem metaRead_any (A : Option Addr) (l : List UInt8) (c : Nat) (w : World) (hlc : l.length ≤ c) (hcm : l.length ≤ 140737488351232) (hr : BytesAt w w.heap.size A l) :
    Calls Try.prog 9 #[.slice A l.length c] w (MtRd l w) := by
  have zf := fun w => fields_any Mt.first (by decide) w
  have z1 := fun w => first_any w
  unfold MtRd
  rw [show fldL Mt.first.t (Mt.first.v + 1) Mt.first.rt Mt.first.rn Mt.first.rs Mt.first.b = fldL 0 0 0 0 0 0 from rfl] at zf
  go_enter Try.func9, Try.ntmps9
  go_wp2_with (first
    | ((with_reducible refine atWorld w ?_); refine wpList_allocRow (w := w) metaTy rfl rfl ?_; (intro w0 b0 B0 s0; have b0 := Lib.hid b0))
    | (go_at_call 16; refine (z1 w0).mono ?_; (rintro e w1 ⟨rfl, B1⟩))
    | (go_at_call 21; refine (zf w1).mono ?_; (rintro e w2 ⟨rfl, B2⟩))
    | ((with_reducible refine atWorld w2 ?_); refine wpList_allocRow (w := w2) fldTy rfl rfl ?_; (intro w3 b3 B3 s3; have b3 := Lib.hid b3))
    | ((with_reducible refine atWorld w3 ?_); refine wpList_storeRow (w := w3) fldTy rfl (.tmp 4) (.tmp 13) rfl w2.heap.size (fldL 0 0 0 0 0 0) fldZ rfl rfl rfl rfl (fldL_one _ _ _ _ _ _) b3.out ?_; (intro w4 b4 B4 s4 k4; have b4 := Lib.hid b4))
    | ((with_reducible refine atWorld w4 ?_); refine wpList_loadRow (w := w4) fldTy rfl (.tmp 4) rfl w2.heap.size 0 (fldL 0 0 0 0 0 0) rfl rfl (rangeOf b4.out) ?_))

  have B04 : Below w.heap.size w w4 := ((((B0.trans (B1.mono B0.size)).trans (B2.mono (Nat.le_trans B0.size B1.size))).trans (B3.mono (Nat.le_trans B0.size (Nat.le_trans B1.size B2.size)))).trans (B4.mono (Nat.le_trans B0.size (Nat.le_trans B1.size B2.size))))
  have hg : w.heap.size < w2.heap.size := Nat.lt_of_lt_of_le (by omega : w.heap.size < w0.heap.size) (Nat.le_trans B1.size B2.size)
  have bz4 : BlkR 25 w4 w.heap.size (mtL Mt.zero) := (((b0.out.go B1).go B2).go B3).below B4 hg
  have b4 := b4.out
  obtain ⟨g, hge⟩ : ∃ g, g = w2.heap.size := ⟨_, rfl⟩
  rw [← hge] at b4 hg ⊢
  clear zf z1 b0 b3 B0 B1 B2 B3 B4 s0 s3 s4 k4 hge
  go_loopw [5, 15] (fun a i wr => ∃ k : Nat, k ≤ 6 ∧ i = .int .i64 (k : Int) ∧ a = .int .i64 (rdP k : Int) ∧ rdP k ≤ l.length ∧ BlkR 44 wr g (rdL l k) ∧ BlkR 25 wr w.heap.size (mtL Mt.zero) ∧ Below w.heap.size w wr) (fun _ i _ => 6 - (intOf i).toNat)
  case atStart => exact ⟨0, Nat.zero_le _, rfl, rfl, Nat.zero_le _, b4, bz4, B04⟩
  case round =>
  obtain ⟨k, hk, rfl, rfl, hle, hblk, hz, hbel⟩ := hrel
  obtain ⟨x0, x1, x2, x3, x4, x5⟩ := idx_fldF 0 0 0 0 0 0
  clear b4 bz4 B04
  rcases k with _ | _ | _ | _ | _ | _ | _ | k
  · have hp : (rdP (0) : Int) = 0 := rfl
    have hpn : rdP (0) = 0 := rfl
    rw [hp]
    rw [hpn] at hle
    rw [show rdL l (0) = fldL 0 0 0 0 0 0 from rfl] at hblk
    have F7 : Below wr.heap.size wr (wr.alloc (.cells #[.int .i64 0, .int .i64 6] 43)) := (Below.refl wr.heap.size wr).alloc (Nat.le_refl _) _
    have hb7 := hblk.go F7
    have hz7 := hz.go F7
    have hr7 := ((hr.below hbel).more hbel.size).stepA (.cells #[.int .i64 0, .int .i64 6] 43)
    have B7 := hbel.alloc hbel.size (.cells #[.int .i64 0, .int .i64 6] 43)
    clear F7 hblk hz hbel hp hpn
    by_cases hfit : 6 ≤ l.length
    · have zg := fun w hr => fget_yes A l c 0 6 0 6 6 rfl rfl rfl (by decide) (by decide) hfit w hlc hcm hr
      go_wp2_with (first
        | (go_at_call 24; refine (zg _ hr7).mono ?_; (rintro e w5 ⟨rfl, B5⟩; have b8 := BlkR.go (BlkR.go hb7 B5) ((Below.refl _ _).alloc (Nat.le_refl _) (.cells #[.int .i64 0, .int .i64 0] 50)); have y := b8.cell (k := 0) rfl; have yf := b8.frozen 0; have z8 := BlkR.go (BlkR.go hz7 B5) ((Below.refl _ _).alloc (Nat.le_refl _) (.cells #[.int .i64 0, .int .i64 0] 50)); have B8 := (B7.trans (B5.mono B7.size)).alloc (Nat.le_trans B7.size B5.size) (.cells #[.int .i64 0, .int .i64 0] 50))))
      go_roundw
      case rel => exact ⟨1, by omega, rfl, rfl, hfit, b8.set_ 0 (.int .i64 (Mt.at_ l 0 6)), (Below.heap_setCell _ ⟨g, 0, none⟩ _ _ (Nat.ne_of_lt hg)).trans z8, B8.setCell (Nat.le_of_lt hg) _⟩
      case measure => simp [intOf]
    · obtain ⟨a, zg⟩ := fget_no A l c 0 6 0 6 rfl rfl (by decide) (by decide) hfit hle hlc hcm
      obtain ⟨hE, hM⟩ := rd_short (l := l) (by omega)
      go_wp2_with (first
        | (go_at_call 24; refine (zg _ hr7).mono ?_; (rintro e w5 ⟨rfl, B5⟩; have z8 := BlkR.go (BlkR.go hz7 B5) ((Below.refl _ _).alloc (Nat.le_refl _) (.cells #[.int .i64 4, .int .i64 a] 50)); have B8 := (B7.trans (B5.mono B7.size)).alloc (Nat.le_trans B7.size B5.size) (.cells #[.int .i64 4, .int .i64 a] 50)))
        | ((with_reducible refine atWorld (w5.alloc (.cells #[.int .i64 4, .int .i64 a] 50)) ?_); refine wpList_storeRow (w := w5.alloc (.cells #[.int .i64 4, .int .i64 a] 50)) metaTy rfl (.tmp 2) (.tmp 31) rfl w.heap.size (mtL Mt.zero) (mtL Mt.zero) rfl rfl rfl rfl (mtL_one _) z8 ?_; (intro w9 b9 B9 s9 k9)))
      refine bodyPost_ret (w := w9) (results_cell2 Try.results9 _ _ _ _ _ _ rfl rfl (loadRow metaTy (by rfl) b9)) rfl ⟨?_, B8.trans B9⟩
      rw [hE, hM]; rfl
  · have hp : (rdP (0 + 1) : Int) = 6 := rfl
    have hpn : rdP (0 + 1) = 6 := rfl
    rw [hp]
    rw [hpn] at hle
    rw [show rdL l (0 + 1) = fldL (Mt.at_ l 0 6) 0 0 0 0 0 from rfl] at hblk
    have F7 : Below wr.heap.size wr (wr.alloc (.cells #[.int .i64 0, .int .i64 1] 43)) := (Below.refl wr.heap.size wr).alloc (Nat.le_refl _) _
    have hb7 := hblk.go F7
    have hz7 := hz.go F7
    have hr7 := ((hr.below hbel).more hbel.size).stepA (.cells #[.int .i64 0, .int .i64 1] 43)
    have B7 := hbel.alloc hbel.size (.cells #[.int .i64 0, .int .i64 1] 43)
    clear F7 hblk hz hbel hp hpn
    by_cases hfit : 7 ≤ l.length
    · have zg := fun w hr => fget_yes A l c 6 1 6 1 7 rfl rfl rfl (by decide) (by decide) hfit w hlc hcm hr
      go_wp2_with (first
        | (go_at_call 24; refine (zg _ hr7).mono ?_; (rintro e w5 ⟨rfl, B5⟩; have b8 := BlkR.go (BlkR.go hb7 B5) ((Below.refl _ _).alloc (Nat.le_refl _) (.cells #[.int .i64 0, .int .i64 0] 50)); have y := b8.cell (k := 2) rfl; have yf := b8.frozen 2; have z8 := BlkR.go (BlkR.go hz7 B5) ((Below.refl _ _).alloc (Nat.le_refl _) (.cells #[.int .i64 0, .int .i64 0] 50)); have B8 := (B7.trans (B5.mono B7.size)).alloc (Nat.le_trans B7.size B5.size) (.cells #[.int .i64 0, .int .i64 0] 50))))
      go_roundw
      case rel => exact ⟨2, by omega, rfl, rfl, hfit, b8.set_ 2 (.int .i64 (Mt.at_ l 6 1)), (Below.heap_setCell _ ⟨g, 2, none⟩ _ _ (Nat.ne_of_lt hg)).trans z8, B8.setCell (Nat.le_of_lt hg) _⟩
      case measure => simp [intOf]
    · obtain ⟨a, zg⟩ := fget_no A l c 6 1 6 1 rfl rfl (by decide) (by decide) hfit hle hlc hcm
      obtain ⟨hE, hM⟩ := rd_short (l := l) (by omega)
      go_wp2_with (first
        | (go_at_call 24; refine (zg _ hr7).mono ?_; (rintro e w5 ⟨rfl, B5⟩; have z8 := BlkR.go (BlkR.go hz7 B5) ((Below.refl _ _).alloc (Nat.le_refl _) (.cells #[.int .i64 4, .int .i64 a] 50)); have B8 := (B7.trans (B5.mono B7.size)).alloc (Nat.le_trans B7.size B5.size) (.cells #[.int .i64 4, .int .i64 a] 50)))
        | ((with_reducible refine atWorld (w5.alloc (.cells #[.int .i64 4, .int .i64 a] 50)) ?_); refine wpList_storeRow (w := w5.alloc (.cells #[.int .i64 4, .int .i64 a] 50)) metaTy rfl (.tmp 2) (.tmp 31) rfl w.heap.size (mtL Mt.zero) (mtL Mt.zero) rfl rfl rfl rfl (mtL_one _) z8 ?_; (intro w9 b9 B9 s9 k9)))
      refine bodyPost_ret (w := w9) (results_cell2 Try.results9 _ _ _ _ _ _ rfl rfl (loadRow metaTy (by rfl) b9)) rfl ⟨?_, B8.trans B9⟩
      rw [hE, hM]; rfl
  · have hp : (rdP (0 + 1 + 1) : Int) = 7 := rfl
    have hpn : rdP (0 + 1 + 1) = 7 := rfl
    rw [hp]
    rw [hpn] at hle
    rw [show rdL l (0 + 1 + 1) = fldL (Mt.at_ l 0 6) (Mt.at_ l 6 1) 0 0 0 0 from rfl] at hblk
    have F7 : Below wr.heap.size wr (wr.alloc (.cells #[.int .i64 0, .int .i64 6] 43)) := (Below.refl wr.heap.size wr).alloc (Nat.le_refl _) _
    have hb7 := hblk.go F7
    have hz7 := hz.go F7
    have hr7 := ((hr.below hbel).more hbel.size).stepA (.cells #[.int .i64 0, .int .i64 6] 43)
    have B7 := hbel.alloc hbel.size (.cells #[.int .i64 0, .int .i64 6] 43)
    clear F7 hblk hz hbel hp hpn
    by_cases hfit : 13 ≤ l.length
    · have zg := fun w hr => fget_yes A l c 7 6 7 6 13 rfl rfl rfl (by decide) (by decide) hfit w hlc hcm hr
      go_wp2_with (first
        | (go_at_call 24; refine (zg _ hr7).mono ?_; (rintro e w5 ⟨rfl, B5⟩; have b8 := BlkR.go (BlkR.go hb7 B5) ((Below.refl _ _).alloc (Nat.le_refl _) (.cells #[.int .i64 0, .int .i64 0] 50)); have y := b8.cell (k := 4) rfl; have yf := b8.frozen 4; have z8 := BlkR.go (BlkR.go hz7 B5) ((Below.refl _ _).alloc (Nat.le_refl _) (.cells #[.int .i64 0, .int .i64 0] 50)); have B8 := (B7.trans (B5.mono B7.size)).alloc (Nat.le_trans B7.size B5.size) (.cells #[.int .i64 0, .int .i64 0] 50))))
      go_roundw
      case rel => exact ⟨3, by omega, rfl, rfl, hfit, b8.set_ 4 (.int .i64 (Mt.at_ l 7 6)), (Below.heap_setCell _ ⟨g, 4, none⟩ _ _ (Nat.ne_of_lt hg)).trans z8, B8.setCell (Nat.le_of_lt hg) _⟩
      case measure => simp [intOf]
    · obtain ⟨a, zg⟩ := fget_no A l c 7 6 7 6 rfl rfl (by decide) (by decide) hfit hle hlc hcm
      obtain ⟨hE, hM⟩ := rd_short (l := l) (by omega)
      go_wp2_with (first
        | (go_at_call 24; refine (zg _ hr7).mono ?_; (rintro e w5 ⟨rfl, B5⟩; have z8 := BlkR.go (BlkR.go hz7 B5) ((Below.refl _ _).alloc (Nat.le_refl _) (.cells #[.int .i64 4, .int .i64 a] 50)); have B8 := (B7.trans (B5.mono B7.size)).alloc (Nat.le_trans B7.size B5.size) (.cells #[.int .i64 4, .int .i64 a] 50)))
        | ((with_reducible refine atWorld (w5.alloc (.cells #[.int .i64 4, .int .i64 a] 50)) ?_); refine wpList_storeRow (w := w5.alloc (.cells #[.int .i64 4, .int .i64 a] 50)) metaTy rfl (.tmp 2) (.tmp 31) rfl w.heap.size (mtL Mt.zero) (mtL Mt.zero) rfl rfl rfl rfl (mtL_one _) z8 ?_; (intro w9 b9 B9 s9 k9)))
      refine bodyPost_ret (w := w9) (results_cell2 Try.results9 _ _ _ _ _ _ rfl rfl (loadRow metaTy (by rfl) b9)) rfl ⟨?_, B8.trans B9⟩
      rw [hE, hM]; rfl
  · have hp : (rdP (0 + 1 + 1 + 1) : Int) = 13 := rfl
    have hpn : rdP (0 + 1 + 1 + 1) = 13 := rfl
    rw [hp]
    rw [hpn] at hle
    rw [show rdL l (0 + 1 + 1 + 1) = fldL (Mt.at_ l 0 6) (Mt.at_ l 6 1) (Mt.at_ l 7 6) 0 0 0 from rfl] at hblk
    have F7 : Below wr.heap.size wr (wr.alloc (.cells #[.int .i64 0, .int .i64 6] 43)) := (Below.refl wr.heap.size wr).alloc (Nat.le_refl _) _
    have hb7 := hblk.go F7
    have hz7 := hz.go F7
    have hr7 := ((hr.below hbel).more hbel.size).stepA (.cells #[.int .i64 0, .int .i64 6] 43)
    have B7 := hbel.alloc hbel.size (.cells #[.int .i64 0, .int .i64 6] 43)
    clear F7 hblk hz hbel hp hpn
    by_cases hfit : 19 ≤ l.length
    · have zg := fun w hr => fget_yes A l c 13 6 13 6 19 rfl rfl rfl (by decide) (by decide) hfit w hlc hcm hr
      go_wp2_with (first
        | (go_at_call 24; refine (zg _ hr7).mono ?_; (rintro e w5 ⟨rfl, B5⟩; have b8 := BlkR.go (BlkR.go hb7 B5) ((Below.refl _ _).alloc (Nat.le_refl _) (.cells #[.int .i64 0, .int .i64 0] 50)); have y := b8.cell (k := 6) rfl; have yf := b8.frozen 6; have z8 := BlkR.go (BlkR.go hz7 B5) ((Below.refl _ _).alloc (Nat.le_refl _) (.cells #[.int .i64 0, .int .i64 0] 50)); have B8 := (B7.trans (B5.mono B7.size)).alloc (Nat.le_trans B7.size B5.size) (.cells #[.int .i64 0, .int .i64 0] 50))))
      go_roundw
      case rel => exact ⟨4, by omega, rfl, rfl, hfit, b8.set_ 6 (.int .i64 (Mt.at_ l 13 6)), (Below.heap_setCell _ ⟨g, 6, none⟩ _ _ (Nat.ne_of_lt hg)).trans z8, B8.setCell (Nat.le_of_lt hg) _⟩
      case measure => simp [intOf]
    · obtain ⟨a, zg⟩ := fget_no A l c 13 6 13 6 rfl rfl (by decide) (by decide) hfit hle hlc hcm
      obtain ⟨hE, hM⟩ := rd_short (l := l) (by omega)
      go_wp2_with (first
        | (go_at_call 24; refine (zg _ hr7).mono ?_; (rintro e w5 ⟨rfl, B5⟩; have z8 := BlkR.go (BlkR.go hz7 B5) ((Below.refl _ _).alloc (Nat.le_refl _) (.cells #[.int .i64 4, .int .i64 a] 50)); have B8 := (B7.trans (B5.mono B7.size)).alloc (Nat.le_trans B7.size B5.size) (.cells #[.int .i64 4, .int .i64 a] 50)))
        | ((with_reducible refine atWorld (w5.alloc (.cells #[.int .i64 4, .int .i64 a] 50)) ?_); refine wpList_storeRow (w := w5.alloc (.cells #[.int .i64 4, .int .i64 a] 50)) metaTy rfl (.tmp 2) (.tmp 31) rfl w.heap.size (mtL Mt.zero) (mtL Mt.zero) rfl rfl rfl rfl (mtL_one _) z8 ?_; (intro w9 b9 B9 s9 k9)))
      refine bodyPost_ret (w := w9) (results_cell2 Try.results9 _ _ _ _ _ _ rfl rfl (loadRow metaTy (by rfl) b9)) rfl ⟨?_, B8.trans B9⟩
      rw [hE, hM]; rfl
  · have hp : (rdP (0 + 1 + 1 + 1 + 1) : Int) = 19 := rfl
    have hpn : rdP (0 + 1 + 1 + 1 + 1) = 19 := rfl
    rw [hp]
    rw [hpn] at hle
    rw [show rdL l (0 + 1 + 1 + 1 + 1) = fldL (Mt.at_ l 0 6) (Mt.at_ l 6 1) (Mt.at_ l 7 6) (Mt.at_ l 13 6) 0 0 from rfl] at hblk
    have F7 : Below wr.heap.size wr (wr.alloc (.cells #[.int .i64 0, .int .i64 1] 43)) := (Below.refl wr.heap.size wr).alloc (Nat.le_refl _) _
    have hb7 := hblk.go F7
    have hz7 := hz.go F7
    have hr7 := ((hr.below hbel).more hbel.size).stepA (.cells #[.int .i64 0, .int .i64 1] 43)
    have B7 := hbel.alloc hbel.size (.cells #[.int .i64 0, .int .i64 1] 43)
    clear F7 hblk hz hbel hp hpn
    by_cases hfit : 20 ≤ l.length
    · have zg := fun w hr => fget_yes A l c 19 1 19 1 20 rfl rfl rfl (by decide) (by decide) hfit w hlc hcm hr
      go_wp2_with (first
        | (go_at_call 24; refine (zg _ hr7).mono ?_; (rintro e w5 ⟨rfl, B5⟩; have b8 := BlkR.go (BlkR.go hb7 B5) ((Below.refl _ _).alloc (Nat.le_refl _) (.cells #[.int .i64 0, .int .i64 0] 50)); have y := b8.cell (k := 8) rfl; have yf := b8.frozen 8; have z8 := BlkR.go (BlkR.go hz7 B5) ((Below.refl _ _).alloc (Nat.le_refl _) (.cells #[.int .i64 0, .int .i64 0] 50)); have B8 := (B7.trans (B5.mono B7.size)).alloc (Nat.le_trans B7.size B5.size) (.cells #[.int .i64 0, .int .i64 0] 50))))
      go_roundw
      case rel => exact ⟨5, by omega, rfl, rfl, hfit, b8.set_ 8 (.int .i64 (Mt.at_ l 19 1)), (Below.heap_setCell _ ⟨g, 8, none⟩ _ _ (Nat.ne_of_lt hg)).trans z8, B8.setCell (Nat.le_of_lt hg) _⟩
      case measure => simp [intOf]
    · obtain ⟨a, zg⟩ := fget_no A l c 19 1 19 1 rfl rfl (by decide) (by decide) hfit hle hlc hcm
      obtain ⟨hE, hM⟩ := rd_short (l := l) (by omega)
      go_wp2_with (first
        | (go_at_call 24; refine (zg _ hr7).mono ?_; (rintro e w5 ⟨rfl, B5⟩; have z8 := BlkR.go (BlkR.go hz7 B5) ((Below.refl _ _).alloc (Nat.le_refl _) (.cells #[.int .i64 4, .int .i64 a] 50)); have B8 := (B7.trans (B5.mono B7.size)).alloc (Nat.le_trans B7.size B5.size) (.cells #[.int .i64 4, .int .i64 a] 50)))
        | ((with_reducible refine atWorld (w5.alloc (.cells #[.int .i64 4, .int .i64 a] 50)) ?_); refine wpList_storeRow (w := w5.alloc (.cells #[.int .i64 4, .int .i64 a] 50)) metaTy rfl (.tmp 2) (.tmp 31) rfl w.heap.size (mtL Mt.zero) (mtL Mt.zero) rfl rfl rfl rfl (mtL_one _) z8 ?_; (intro w9 b9 B9 s9 k9)))
      refine bodyPost_ret (w := w9) (results_cell2 Try.results9 _ _ _ _ _ _ rfl rfl (loadRow metaTy (by rfl) b9)) rfl ⟨?_, B8.trans B9⟩
      rw [hE, hM]; rfl
  · have hp : (rdP (0 + 1 + 1 + 1 + 1 + 1) : Int) = 20 := rfl
    have hpn : rdP (0 + 1 + 1 + 1 + 1 + 1) = 20 := rfl
    rw [hp]
    rw [hpn] at hle
    rw [show rdL l (0 + 1 + 1 + 1 + 1 + 1) = fldL (Mt.at_ l 0 6) (Mt.at_ l 6 1) (Mt.at_ l 7 6) (Mt.at_ l 13 6) (Mt.at_ l 19 1) 0 from rfl] at hblk
    have F7 : Below wr.heap.size wr (wr.alloc (.cells #[.int .i64 0, .int .i64 6] 43)) := (Below.refl wr.heap.size wr).alloc (Nat.le_refl _) _
    have hb7 := hblk.go F7
    have hz7 := hz.go F7
    have hr7 := ((hr.below hbel).more hbel.size).stepA (.cells #[.int .i64 0, .int .i64 6] 43)
    have B7 := hbel.alloc hbel.size (.cells #[.int .i64 0, .int .i64 6] 43)
    clear F7 hblk hz hbel hp hpn
    by_cases hfit : 26 ≤ l.length
    · have zg := fun w hr => fget_yes A l c 20 6 20 6 26 rfl rfl rfl (by decide) (by decide) hfit w hlc hcm hr
      go_wp2_with (first
        | (go_at_call 24; refine (zg _ hr7).mono ?_; (rintro e w5 ⟨rfl, B5⟩; have b8 := BlkR.go (BlkR.go hb7 B5) ((Below.refl _ _).alloc (Nat.le_refl _) (.cells #[.int .i64 0, .int .i64 0] 50)); have y := b8.cell (k := 10) rfl; have yf := b8.frozen 10; have z8 := BlkR.go (BlkR.go hz7 B5) ((Below.refl _ _).alloc (Nat.le_refl _) (.cells #[.int .i64 0, .int .i64 0] 50)); have B8 := (B7.trans (B5.mono B7.size)).alloc (Nat.le_trans B7.size B5.size) (.cells #[.int .i64 0, .int .i64 0] 50))))
      go_roundw
      case rel => exact ⟨6, by omega, rfl, rfl, hfit, b8.set_ 10 (.int .i64 (Mt.at_ l 20 6)), (Below.heap_setCell _ ⟨g, 10, none⟩ _ _ (Nat.ne_of_lt hg)).trans z8, B8.setCell (Nat.le_of_lt hg) _⟩
      case measure => simp [intOf]
    · obtain ⟨a, zg⟩ := fget_no A l c 20 6 20 6 rfl rfl (by decide) (by decide) hfit hle hlc hcm
      obtain ⟨hE, hM⟩ := rd_short (l := l) (by omega)
      go_wp2_with (first
        | (go_at_call 24; refine (zg _ hr7).mono ?_; (rintro e w5 ⟨rfl, B5⟩; have z8 := BlkR.go (BlkR.go hz7 B5) ((Below.refl _ _).alloc (Nat.le_refl _) (.cells #[.int .i64 4, .int .i64 a] 50)); have B8 := (B7.trans (B5.mono B7.size)).alloc (Nat.le_trans B7.size B5.size) (.cells #[.int .i64 4, .int .i64 a] 50)))
        | ((with_reducible refine atWorld (w5.alloc (.cells #[.int .i64 4, .int .i64 a] 50)) ?_); refine wpList_storeRow (w := w5.alloc (.cells #[.int .i64 4, .int .i64 a] 50)) metaTy rfl (.tmp 2) (.tmp 31) rfl w.heap.size (mtL Mt.zero) (mtL Mt.zero) rfl rfl rfl rfl (mtL_one _) z8 ?_; (intro w9 b9 B9 s9 k9)))
      refine bodyPost_ret (w := w9) (results_cell2 Try.results9 _ _ _ _ _ _ rfl rfl (loadRow metaTy (by rfl) b9)) rfl ⟨?_, B8.trans B9⟩
      rw [hE, hM]; rfl
  · rw [show rdP (0 + 1 + 1 + 1 + 1 + 1 + 1) = 26 from rfl] at hle ⊢
    rw [show rdL l (0 + 1 + 1 + 1 + 1 + 1 + 1) = fldL (Mt.at_ l 0 6) (Mt.at_ l 6 1) (Mt.at_ l 7 6) (Mt.at_ l 13 6) (Mt.at_ l 19 1) (Mt.at_ l 20 6) from rfl] at hblk
    have zm := fun w => metaOf_any (Mt.at_ l 0 6) (Mt.at_ l 6 1) (Mt.at_ l 7 6) (Mt.at_ l 13 6) (Mt.at_ l 19 1) (Mt.at_ l 20 6) (by have := at_lt l 6 1; omega) w
    rw [show (⟨(Mt.at_ l 0 6 : Int), (Mt.at_ l 6 1 : Int) - 1, (Mt.at_ l 7 6 : Int), (Mt.at_ l 13 6 : Int), (Mt.at_ l 19 1 : Int), (Mt.at_ l 20 6 : Int)⟩ : Mt) = Mt.dec l from rfl] at zm
    obtain ⟨L, hL⟩ : ∃ L, L = fldL (Mt.at_ l 0 6) (Mt.at_ l 6 1) (Mt.at_ l 7 6) (Mt.at_ l 13 6) (Mt.at_ l 19 1) (Mt.at_ l 20 6) := ⟨_, rfl⟩
    have hLl : L.length = fldZ.length := by rw [hL]; rfl
    rw [← hL] at zm hblk
    have zc := fun w => check_any (Mt.dec l) w
    clear hL x0 x1 x2 x3 x4 x5 hk
    by_cases hlen : l.length = 26
    · have hgood : Mt.good l = (Mt.dec l).ok := by simp [Mt.good, hlen]
      cases hok : (Mt.dec l).ok with
      | true =>
        rw [hok] at hgood
        rw [Mt.err_ok hok] at zc
        have HE : Mt.readE l = 0 ∧ Mt.readM l = Mt.dec l := by simp [Mt.readE, Mt.readM, hgood]
        obtain ⟨M, hMM⟩ : ∃ M, M = Mt.dec l := ⟨_, rfl⟩
        rw [← hMM] at zm zc HE
        have HE := Lib.hid HE
        have hlen := congrArg (fun n : Nat => (n : Int)) hlen
        clear hgood hok hMM hle
        go_wp2_with (first
          | ((with_reducible refine atWorld wr ?_); refine wpList_loadRow (w := wr) fldTy rfl (.tmp 4) rfl g 0 L rfl hLl (rangeOf hblk) ?_)
          | (go_at_call 25; refine (zm wr).mono ?_; (rintro e w5 ⟨rfl, B5⟩; have z5 := hz.go B5; have B05 := hbel.trans (B5.mono hbel.size)))
          | ((with_reducible refine atWorld w5 ?_); refine wpList_allocRow (w := w5) metaTy rfl rfl ?_; (intro w6 b6 B6 s6; have b6 := Lib.hid b6; have z6 := z5.go B6; have B06 := B05.trans (B6.mono B05.size)))
          | ((with_reducible refine atWorld w6 ?_); refine wpList_storeRow (w := w6) metaTy rfl (.tmp 11) (.tmp 39) rfl w5.heap.size (mtL M) (mtL Mt.zero) rfl rfl rfl rfl (mtL_one _) b6.out ?_; (intro w7 b7 B7 s7 k7; have z7 := z6.below B7 z5.lt; have B07 := B06.trans (B7.mono B05.size); obtain ⟨y0, y1, y2, y3, y4, y5⟩ := mt_cells b7; have b7 := Lib.hid b7))
          | ((with_reducible refine atWorld w7 ?_); refine wpList_loadRow (w := w7) metaTy rfl (.tmp 11) rfl w5.heap.size 0 (mtL M) rfl rfl (rangeOf b7.out) ?_)
          | (go_at_call 11; refine (zc w7).mono ?_; (rintro e w8 ⟨rfl, B8⟩; have z8 := z7.go B8; have b8 := BlkR.go b7.out B8; have B08 := B07.trans (B8.mono B07.size); have b8 := Lib.hid b8))
          | ((with_reducible refine atWorld w8 ?_); refine wpList_loadRow (w := w8) metaTy rfl (.tmp 11) rfl w5.heap.size 0 (mtL M) rfl rfl (rangeOf b8.out) ?_)
          | ((with_reducible refine atWorld w8 ?_); refine wpList_storeRow (w := w8) metaTy rfl (.tmp 2) (.tmp 50) rfl w.heap.size (mtL M) (mtL Mt.zero) rfl rfl rfl rfl (mtL_one _) z8 ?_; (intro w9 b9 B9 s9 k9)))
        refine bodyPost_ret (w := w9) (results_cell2 Try.results9 _ _ _ _ _ _ rfl rfl (loadRow metaTy (by rfl) b9)) rfl ⟨?_, B08.trans B9⟩
        rw [HE.out.1, HE.out.2]; rfl
      | false =>
        rw [hok] at hgood
        rw [Mt.err_no hok] at zc
        have HE : Mt.readE l = 4 ∧ Mt.readM l = Mt.zero := by simp [Mt.readE, Mt.readM, hgood]
        obtain ⟨M, hMM⟩ : ∃ M, M = Mt.dec l := ⟨_, rfl⟩
        rw [← hMM] at zm zc
        have HE := Lib.hid HE
        have hlen := congrArg (fun n : Nat => (n : Int)) hlen
        clear hgood hok hMM hle
        go_wp2_with (first
          | ((with_reducible refine atWorld wr ?_); refine wpList_loadRow (w := wr) fldTy rfl (.tmp 4) rfl g 0 L rfl hLl (rangeOf hblk) ?_)
          | (go_at_call 25; refine (zm wr).mono ?_; (rintro e w5 ⟨rfl, B5⟩; have z5 := hz.go B5; have B05 := hbel.trans (B5.mono hbel.size)))
          | ((with_reducible refine atWorld w5 ?_); refine wpList_allocRow (w := w5) metaTy rfl rfl ?_; (intro w6 b6 B6 s6; have b6 := Lib.hid b6; have z6 := z5.go B6; have B06 := B05.trans (B6.mono B05.size)))
          | ((with_reducible refine atWorld w6 ?_); refine wpList_storeRow (w := w6) metaTy rfl (.tmp 11) (.tmp 39) rfl w5.heap.size (mtL M) (mtL Mt.zero) rfl rfl rfl rfl (mtL_one _) b6.out ?_; (intro w7 b7 B7 s7 k7; have z7 := z6.below B7 z5.lt; have B07 := B06.trans (B7.mono B05.size); obtain ⟨y0, y1, y2, y3, y4, y5⟩ := mt_cells b7; have b7 := Lib.hid b7))
          | ((with_reducible refine atWorld w7 ?_); refine wpList_loadRow (w := w7) metaTy rfl (.tmp 11) rfl w5.heap.size 0 (mtL M) rfl rfl (rangeOf b7.out) ?_)
          | (go_at_call 11; refine (zc w7).mono ?_; (rintro e w8 ⟨rfl, B8⟩; have z8 := z7.go B8; have b8 := BlkR.go b7.out B8; have B08 := B07.trans (B8.mono B07.size); have b8 := Lib.hid b8))
          | ((with_reducible refine atWorld w8 ?_); refine wpList_loadRow (w := w8) metaTy rfl (.tmp 11) rfl w5.heap.size 0 (mtL M) rfl rfl (rangeOf b8.out) ?_)
          | ((with_reducible refine atWorld w8 ?_); refine wpList_storeRow (w := w8) metaTy rfl (.tmp 2) (.tmp 49) rfl w.heap.size (mtL Mt.zero) (mtL Mt.zero) rfl rfl rfl rfl (mtL_one _) z8 ?_; (intro w9 b9 B9 s9 k9)))
        refine bodyPost_ret (w := w9) (results_cell2 Try.results9 _ _ _ _ _ _ rfl rfl (loadRow metaTy (by rfl) b9)) rfl ⟨?_, B08.trans B9⟩
        rw [HE.out.1, HE.out.2]; rfl
    · have HE := rd_short (l := l) hlen
      obtain ⟨M, hMM⟩ : ∃ M, M = Mt.dec l := ⟨_, rfl⟩
      rw [← hMM] at zm zc
      have HE := Lib.hid HE
      have hlen : ((26 : Int) != (l.length : Int)) = true := by simp; omega
      clear hMM hle
      go_wp2_with (first
        | ((with_reducible refine atWorld wr ?_); refine wpList_loadRow (w := wr) fldTy rfl (.tmp 4) rfl g 0 L rfl hLl (rangeOf hblk) ?_)
        | (go_at_call 25; refine (zm wr).mono ?_; (rintro e w5 ⟨rfl, B5⟩; have z5 := hz.go B5; have B05 := hbel.trans (B5.mono hbel.size)))
        | ((with_reducible refine atWorld w5 ?_); refine wpList_allocRow (w := w5) metaTy rfl rfl ?_; (intro w6 b6 B6 s6; have b6 := Lib.hid b6; have z6 := z5.go B6; have B06 := B05.trans (B6.mono B05.size)))
        | ((with_reducible refine atWorld w6 ?_); refine wpList_storeRow (w := w6) metaTy rfl (.tmp 11) (.tmp 39) rfl w5.heap.size (mtL M) (mtL Mt.zero) rfl rfl rfl rfl (mtL_one _) b6.out ?_; (intro w7 b7 B7 s7 k7; have z7 := z6.below B7 z5.lt; have B07 := B06.trans (B7.mono B05.size); obtain ⟨y0, y1, y2, y3, y4, y5⟩ := mt_cells b7; have b7 := Lib.hid b7))
        | ((with_reducible refine atWorld w7 ?_); refine wpList_loadRow (w := w7) metaTy rfl (.tmp 11) rfl w5.heap.size 0 (mtL M) rfl rfl (rangeOf b7.out) ?_)
        | ((with_reducible refine atWorld w7 ?_); refine wpList_storeRow (w := w7) metaTy rfl (.tmp 2) (.tmp 49) rfl w.heap.size (mtL Mt.zero) (mtL Mt.zero) rfl rfl rfl rfl (mtL_one _) z7 ?_; (intro w9 b9 B9 s9 k9)))
      refine bodyPost_ret (w := w9) (results_cell2 Try.results9 _ _ _ _ _ _ rfl rfl (loadRow metaTy (by rfl) b9)) rfl ⟨?_, B07.trans B9⟩
      rw [HE.out.1, HE.out.2]; rfl
  · omega
end Go.Proofs.Ytebicjblplkdeaa
