/-
  The document's own: Put, of a message that may be. Conditions: the bytes can be read.
-/
import Derived.Test.YtfiijnpabmocdaaMgRefB
import Derived.Test.YtfiijnpabmocdaaMgBackKit
namespace Go.Proofs.Ytfiijnpabmocdaa
open Go.RowKit Mg Fix

theorem refNumberI (A : Option Addr) (l : List UInt8) (n c : Nat) (hn : l.length = n) (hl : l.length ≤ 1000) (x : Int) (s : Nat) (hs : s = 6 ∨ s = 1) (h0 : 0 ≤ x) (hx : x.toNat < 256 ^ s) (w : World) (hr : BytesAt w w.heap.size A l) :
    Calls Try.prog 22 #[.slice A n c, .int .i64 x, .int .i64 (s : Int)] w fun e w' => ∃ A' c', e = .returned (.slice A' (n + s) c') ∧ n + s ≤ c' ∧ OwnB w' w.heap.size (.slice A' (n + s) c') (l ++ dig x.toNat s) ∧ Below w.heap.size w w' := by
  have e : x = (x.toNat : Int) := by omega
  have z := refNumber_any A l n c hn hl x.toNat s hs hx w hr
  rw [← e] at z
  exact z
/-- a field's part that is a number, behind others -/
theorem numPart (q : Nt) (m : M) (hf : Fits (.num q) m) (A : Option Addr) (l : List UInt8) (n c : Nat) (hn : l.length = n) (hl : l.length ≤ 1000) (w : World) (hr : BytesAt w w.heap.size A l) :
    Calls Try.prog 22 #[.slice A n c, .int .i64 (Mg.get m q), .int .i64 (Mg.size q : Int)] w fun e w' => ∃ A' c', e = .returned (.slice A' (n + Mg.size q) c') ∧ n + Mg.size q ≤ c' ∧ OwnB w' w.heap.size (.slice A' (n + Mg.size q) c') (l ++ enc (.num q) m) ∧ Below w.heap.size w w' :=
  refNumberI A l n c hn hl (Mg.get m q) (Mg.size q) (by cases q <;> simp [Mg.size]) hf.1 (most_lt q hf.1 hf.2) w hr
theorem encs_append : ∀ (a b : List Pt) (m : M), encs (a ++ b) m = encs a m ++ encs b m
  | [], b, m => rfl
  | p :: r, b, m => by show enc p m ++ encs (r ++ b) m = (enc p m ++ encs r m) ++ encs b m; rw [encs_append r b m, List.append_assoc]
abbrev hO (m : M) : Obj := .cells #[.int .u8 (m.kind % 256), .int .u8 (m.src % 256)] 5
def head2B (m : M) : List UInt8 := [UInt8.ofNat (m.kind % 256).toNat, UInt8.ofNat (m.src % 256).toNat]

set_option maxRecDepth 100000 in
set_option maxHeartbeats 4000000 in
theorem refPut_yes (m : M) (A : Option Addr) (c : Nat) (w : World) (hr : BytesAt w w.heap.size A m.data) (hb : m.bits < 18446744073709551616) (hfit : ∀ f ∈ fls m.kind, ∀ p ∈ parts f, Fits p m) (zc : ∀ w, BytesAt w w.heap.size A m.data → Calls Try.prog 9 #[mVal m A c] w fun e w' => e = .returned (.int .i64 0) ∧ Below w.heap.size w w') :
    Calls Try.prog 7 #[mVal m A c] w fun e w' => ∃ A' c', e = .returned (.tuple #[.slice A' (head2B m ++ encs ((fls m.kind).flatMap parts) m).length c', .int .i64 0]) ∧ BytesAt w' w'.heap.size A' (head2B m ++ encs ((fls m.kind).flatMap parts) m) ∧ Below w.heap.size w w' := by
  obtain ⟨S, hsz, h5, _, hix0, zf⟩ := refFields_str m.kind
  rw [List.length_map] at hsz h5
  have S0 := Lib.hid (back_at m A c [] none w hr bytes_nil)
  have HIX := Lib.hid hix0
  have HF := Lib.hid hfit
  have HB := Lib.hid hb
  obtain ⟨fs, hfs⟩ : ∃ fs, fs = fls m.kind := ⟨_, rfl⟩
  rw [← hfs] at hsz h5 HIX HF ⊢
  obtain ⟨LL, hLL⟩ : ∃ L, L = head2B m ++ encs (fs.flatMap parts) m := ⟨_, rfl⟩
  have HLL := Lib.hid hLL
  rw [← hLL]
  have zt : ∀ q, Fits (.num q) m → _ := fun q hf => numPart q m hf
  have ZT := Lib.hid zt
  clear hfs hfit hix0 hb hLL zt
  go_enter Try.func7, Try.ntmps7
  go_wp2_with (first
    | (go_at_call 9; refine (zc _ (hr.stepA (mObj m A c))).mono ?_; (rintro e w1 ⟨rfl, X⟩; have B1 := Lib.hid X; obtain ⟨⟨a0, a1, a2, a3, a4, a5, a6, a7, a8, a9, a10, a11⟩, _, _, _⟩ := S0.out w1 B1.out; have B2 := Lib.hid (step_alloc B1.out (hO m)); have C2 := Lib.hid (S0.out (w1.alloc (hO m)) B2.out); obtain ⟨⟨b0, _, _, _, _, _, _, _, _, _, _, _⟩, _, _, _⟩ := C2.out))
    | (go_at_call 21; refine (zf _).mono ?_; (rintro e w2 ⟨rfl, rfl⟩)))
  have hh : OwnB (w1.alloc (hO m)) (w.heap.size + 1) (.slice (some ⟨w1.heap.size, 0, none⟩) 2 2) (head2B m) := by
    have hs := B1.out.size
    simp only [World.size_alloc] at hs
    refine ⟨by simp [cellsOfBytes, head2B], .inr ⟨w1.heap.size, 2, #[.int .u8 (m.kind % 256), .int .u8 (m.src % 256)], by simp [head2B], hs, heap_alloc_new w1 _, by simp [head2B], by decide, by rfl, ?_⟩⟩
    simp [cellsOfBytes, head2B]
    omega
  have HH := Lib.hid hh
  clear hh zc hr b0 a0 a1 a2 a3 a4 a5 a6 a7 a8 a9 a10 a11 X
  go_loopw [4, 6, 7] (fun v i n7 wr => ∃ (j : Nat) (l : List UInt8), j ≤ fs.length ∧ i = .int .i64 (j : Int) ∧ l = head2B m ++ encs ((fs.take j).flatMap parts) m ∧ l.length ≤ 2 + 40 * j ∧ OwnB wr (w.heap.size + 1) v l ∧ Below (w.alloc (mObj m A c)).heap.size (w.alloc (mObj m A c)) wr) (fun _ i _ _ => fs.length - (intOf i).toNat)
  case atStart => exact ⟨0, head2B m, Nat.zero_le _, rfl, by simp [encs], by simp [head2B], HH.out, B2.out⟩
  case round =>
    obtain ⟨j, l, hj, rfl, hl, hll, hown, hB⟩ := hrel
    obtain ⟨Av, cv, rfl, hcv⟩ := hown.form
    obtain ⟨⟨a0, a1, a2, a3, a4, a5, a6, a7, a8, a9, a10, a11⟩, hra, _, hBw⟩ := S0.out wr hB
    by_cases hjn : j < fs.length
    · have hqq : True := trivial
      have hjs : j < S.size := by omega
      have hix := HIX.out j hjs
      obtain ⟨f, hf⟩ : ∃ f, fs[j]? = some f := ⟨_, List.getElem?_eq_getElem hjn⟩
      have hfm : f ∈ fs := List.mem_of_getElem? hf
      have hg : (List.map fch fs).getD j 0 = fch f := by simp [hf]
      rw [hg] at hix
      have hnext : head2B m ++ encs ((fs.take (j + 1)).flatMap parts) m = l ++ encs (parts f) m := by
        rw [List.take_add_one, hf]
        simp only [Option.toList_some, List.flatMap_append, List.flatMap_cons, List.flatMap_nil, List.append_nil]
        rw [encs_append, ← List.append_assoc, ← hl]
      have HN := Lib.hid hnext
      have hfits := HF.out f hfm
      have HW := Lib.hid (And.intro hown (And.intro hB (And.intro hra hBw)))
      obtain ⟨n, hn⟩ : ∃ n, l.length = n := ⟨_, rfl⟩
      have HL := Lib.hid (And.intro hn (And.intro hll hj))
      rw [hn] at hcv ⊢
      have hjf : j < fs.length := hjn
      have hs0 : w.heap.size + 1 ≤ wr.heap.size := by have := hB.size; simpa using this
      have HS := Lib.hid hs0
      clear hl hg hf hfm hnext hll hown hB hra hBw hn hs0
      cases f with
      | term =>
        have hch : ((S[j]'hjs).toNat : Int) = 116 := by rw [hix]; rfl
        have z0 : ∀ w, BytesAt w w.heap.size Av l → Calls Try.prog 22 #[.slice Av n cv, .int .i64 m.term, .int .i64 6] w (fun e w' => ∃ A' c', e = .returned (.slice A' (n + 6) c') ∧ n + 6 ≤ c' ∧ OwnB w' w.heap.size (.slice A' (n + 6) c') (l ++ enc (.num .term) m) ∧ Below w.heap.size w w') := fun w h => ZT.out .term (hfits _ (by simp [parts])) Av l n cv HL.out.1 (by have := HL.out.2; omega) w h
        clear hix hfits
        go_wp2_with (go_at_call 22; (with_reducible refine (z0 _ HW.out.1.bytes).mono ?_); (rintro e w3 ⟨A3, c3, rfl, hc3, ho3, X⟩; have O3 := Lib.hid (ho3.lessM HS.out); have X3 := Lib.hid (step_trans HW.out.2.1 X); clear ho3 X))
        go_roundw
        case rel => exact ⟨j + 1, l ++ encs (parts .term) m, by omega, by go_num, HN.out.symm, by have := HL.out.2.1; rw [List.length_append]; simp [encs, parts, enc, dig_length, Mg.size]; omega, by simpa [encs, parts] using O3.out, X3.out⟩
        case measure => simp [intOf]; omega
      | seq =>
        have hch : ((S[j]'hjs).toNat : Int) = 113 := by rw [hix]; rfl
        have z0 : ∀ w, BytesAt w w.heap.size Av l → Calls Try.prog 22 #[.slice Av n cv, .int .i64 m.seq, .int .i64 6] w (fun e w' => ∃ A' c', e = .returned (.slice A' (n + 6) c') ∧ n + 6 ≤ c' ∧ OwnB w' w.heap.size (.slice A' (n + 6) c') (l ++ enc (.num .seq) m) ∧ Below w.heap.size w w') := fun w h => ZT.out .seq (hfits _ (by simp [parts])) Av l n cv HL.out.1 (by have := HL.out.2; omega) w h
        clear hix hfits
        go_wp2_with (go_at_call 22; (with_reducible refine (z0 _ HW.out.1.bytes).mono ?_); (rintro e w3 ⟨A3, c3, rfl, hc3, ho3, X⟩; have O3 := Lib.hid (ho3.lessM HS.out); have X3 := Lib.hid (step_trans HW.out.2.1 X); clear ho3 X))
        go_roundw
        case rel => exact ⟨j + 1, l ++ encs (parts .seq) m, by omega, by go_num, HN.out.symm, by have := HL.out.2.1; rw [List.length_append]; simp [encs, parts, enc, dig_length, Mg.size]; omega, by simpa [encs, parts] using O3.out, X3.out⟩
        case measure => simp [intOf]; omega
      | stamp =>
        have hch : ((S[j]'hjs).toNat : Int) = 115 := by rw [hix]; rfl
        have z0 : ∀ w, BytesAt w w.heap.size Av l → Calls Try.prog 22 #[.slice Av n cv, .int .i64 m.stamp, .int .i64 6] w (fun e w' => ∃ A' c', e = .returned (.slice A' (n + 6) c') ∧ n + 6 ≤ c' ∧ OwnB w' w.heap.size (.slice A' (n + 6) c') (l ++ enc (.num .stamp) m) ∧ Below w.heap.size w w') := fun w h => ZT.out .stamp (hfits _ (by simp [parts])) Av l n cv HL.out.1 (by have := HL.out.2; omega) w h
        clear hix hfits
        go_wp2_with (go_at_call 22; (with_reducible refine (z0 _ HW.out.1.bytes).mono ?_); (rintro e w3 ⟨A3, c3, rfl, hc3, ho3, X⟩; have O3 := Lib.hid (ho3.lessM HS.out); have X3 := Lib.hid (step_trans HW.out.2.1 X); clear ho3 X))
        go_roundw
        case rel => exact ⟨j + 1, l ++ encs (parts .stamp) m, by omega, by go_num, HN.out.symm, by have := HL.out.2.1; rw [List.length_append]; simp [encs, parts, enc, dig_length, Mg.size]; omega, by simpa [encs, parts] using O3.out, X3.out⟩
        case measure => simp [intOf]; omega
      | block =>
        have hch : ((S[j]'hjs).toNat : Int) = 107 := by rw [hix]; rfl
        have z0 : ∀ w, BytesAt w w.heap.size Av l → Calls Try.prog 22 #[.slice Av n cv, .int .i64 m.block, .int .i64 1] w (fun e w' => ∃ A' c', e = .returned (.slice A' (n + 1) c') ∧ n + 1 ≤ c' ∧ OwnB w' w.heap.size (.slice A' (n + 1) c') (l ++ enc (.num .block) m) ∧ Below w.heap.size w w') := fun w h => ZT.out .block (hfits _ (by simp [parts])) Av l n cv HL.out.1 (by have := HL.out.2; omega) w h
        clear hix hfits
        go_wp2_with (go_at_call 22; (with_reducible refine (z0 _ HW.out.1.bytes).mono ?_); (rintro e w3 ⟨A3, c3, rfl, hc3, ho3, X⟩; have O3 := Lib.hid (ho3.lessM HS.out); have X3 := Lib.hid (step_trans HW.out.2.1 X); clear ho3 X))
        go_roundw
        case rel => exact ⟨j + 1, l ++ encs (parts .block) m, by omega, by go_num, HN.out.symm, by have := HL.out.2.1; rw [List.length_append]; simp [encs, parts, enc, dig_length, Mg.size]; omega, by simpa [encs, parts] using O3.out, X3.out⟩
        case measure => simp [intOf]; omega
      | ok =>
        have hch : ((S[j]'hjs).toNat : Int) = 111 := by rw [hix]; rfl
        cases hok : m.ok with
        | true =>
          rw [hok] at a6
          have z0 : ∀ w, BytesAt w w.heap.size Av l → Calls Try.prog 22 #[.slice Av n cv, .int .i64 1, .int .i64 1] w (fun e w' => ∃ A' c', e = .returned (.slice A' (n + 1) c') ∧ n + 1 ≤ c' ∧ OwnB w' w.heap.size (.slice A' (n + 1) c') (l ++ enc (.num .ok) m) ∧ Below w.heap.size w w') := fun w h => by
            have z := ZT.out .ok (hfits _ (by simp [parts])) Av l n cv HL.out.1 (by have := HL.out.2; omega) w h
            have e : Mg.get m .ok = 1 := by simp [Mg.get, hok]
            rw [e] at z
            exact z
          clear hix hfits hok
          go_wp2_with (go_at_call 22; (with_reducible refine (z0 _ HW.out.1.bytes).mono ?_); (rintro e w3 ⟨A3, c3, rfl, hc3, ho3, X⟩; have O3 := Lib.hid (ho3.lessM HS.out); have X3 := Lib.hid (step_trans HW.out.2.1 X); clear ho3 X))
          go_roundw
          case rel => exact ⟨j + 1, l ++ encs (parts .ok) m, by omega, by go_num, HN.out.symm, by have := HL.out.2.1; rw [List.length_append]; simp [encs, parts, enc, dig_length, Mg.size]; omega, by simpa [encs, parts] using O3.out, X3.out⟩
          case measure => simp [intOf]; omega
        | false =>
          rw [hok] at a6
          have z0 : ∀ w, BytesAt w w.heap.size Av l → Calls Try.prog 22 #[.slice Av n cv, .int .i64 0, .int .i64 1] w (fun e w' => ∃ A' c', e = .returned (.slice A' (n + 1) c') ∧ n + 1 ≤ c' ∧ OwnB w' w.heap.size (.slice A' (n + 1) c') (l ++ enc (.num .ok) m) ∧ Below w.heap.size w w') := fun w h => by
            have z := ZT.out .ok (hfits _ (by simp [parts])) Av l n cv HL.out.1 (by have := HL.out.2; omega) w h
            have e : Mg.get m .ok = 0 := by simp [Mg.get, hok]
            rw [e] at z
            exact z
          clear hix hfits hok
          go_wp2_with (go_at_call 22; (with_reducible refine (z0 _ HW.out.1.bytes).mono ?_); (rintro e w3 ⟨A3, c3, rfl, hc3, ho3, X⟩; have O3 := Lib.hid (ho3.lessM HS.out); have X3 := Lib.hid (step_trans HW.out.2.1 X); clear ho3 X))
          go_roundw
          case rel => exact ⟨j + 1, l ++ encs (parts .ok) m, by omega, by go_num, HN.out.symm, by have := HL.out.2.1; rw [List.length_append]; simp [encs, parts, enc, dig_length, Mg.size]; omega, by simpa [encs, parts] using O3.out, X3.out⟩
          case measure => simp [intOf]; omega
      | recd =>
        have hch : ((S[j]'hjs).toNat : Int) = 114 := by rw [hix]; rfl
        have zn : ∀ (q : Nt), Pt.num q ∈ parts .recd → ∀ (A : Option Addr) (k : List UInt8) (i c : Nat), k.length = i → i ≤ 1000 → ∀ w, BytesAt w w.heap.size A k → Calls Try.prog 22 #[.slice A i c, .int .i64 (Mg.get m q), .int .i64 (Mg.size q : Int)] w (fun e w' => ∃ A' c', e = .returned (.slice A' (i + Mg.size q) c') ∧ i + Mg.size q ≤ c' ∧ OwnB w' w.heap.size (.slice A' (i + Mg.size q) c') (k ++ enc (.num q) m) ∧ Below w.heap.size w w') := fun q hq A k i c hk hi w h => ZT.out q (hfits _ hq) A k i c hk (by omega) w h
        have z1 : ∀ A k i c, k.length = i → i ≤ 1000 → ∀ w, BytesAt w w.heap.size A k → Calls Try.prog 22 #[.slice A i c, .int .i64 m.rt, .int .i64 6] w (fun e w' => ∃ A' c', e = .returned (.slice A' (i + 6) c') ∧ i + 6 ≤ c' ∧ OwnB w' w.heap.size (.slice A' (i + 6) c') (k ++ enc (.num .rt) m) ∧ Below w.heap.size w w') := zn .rt (by simp [parts])
        have z2 : ∀ A k i c, k.length = i → i ≤ 1000 → ∀ w, BytesAt w w.heap.size A k → Calls Try.prog 22 #[.slice A i c, .int .i64 m.rn, .int .i64 6] w (fun e w' => ∃ A' c', e = .returned (.slice A' (i + 6) c') ∧ i + 6 ≤ c' ∧ OwnB w' w.heap.size (.slice A' (i + 6) c') (k ++ enc (.num .rn) m) ∧ Below w.heap.size w w') := zn .rn (by simp [parts])
        have z3 : ∀ A k i c, k.length = i → i ≤ 1000 → ∀ w, BytesAt w w.heap.size A k → Calls Try.prog 22 #[.slice A i c, .int .i64 m.rs, .int .i64 1] w (fun e w' => ∃ A' c', e = .returned (.slice A' (i + 1) c') ∧ i + 1 ≤ c' ∧ OwnB w' w.heap.size (.slice A' (i + 1) c') (k ++ enc (.num .rs) m) ∧ Below w.heap.size w w') := zn .rs (by simp [parts])
        have hen : ∀ q, (enc (.num q) m).length = Mg.size q := fun q => dig_length _ _
        have E1 := Lib.hid (show (l ++ enc (.num .rt) m).length = n + 6 by rw [List.length_append, HL.out.1, hen]; rfl)
        have E2 := Lib.hid (show (l ++ enc (.num .rt) m ++ enc (.num .rn) m).length = n + 6 + 6 by rw [List.length_append, E1.out, hen]; rfl)
        clear hix hfits zn hen
        go_wp2
        have K0 : Below (w.alloc (mObj m A c)).heap.size (w.alloc (mObj m A c)) wr.drew := HW.out.2.1.drew
        have RB := Lib.hid (show BytesAt wr.drew wr.drew.heap.size Av l from HW.out.1.bytes.drew)
        have KK := Lib.hid (fun (w' : World) (Bk : Below (w.alloc (mObj m A c)).heap.size (w.alloc (mObj m A c)) w') => (let h := (S0.out w' Bk).1; And.intro h.2.2.2.2.2.2.2.1 (And.intro h.2.2.2.2.2.2.2.2.1 (And.intro h.2.2.2.2.2.2.2.2.2.1 Bk))))
        go_region_held3 (fun w' => w'.cell? ⟨w.heap.size, 7, none⟩ = some (.int .i64 m.rt) ∧ w'.cell? ⟨w.heap.size, 8, none⟩ = some (.int .i64 m.rn) ∧ w'.cell? ⟨w.heap.size, 9, none⟩ = some (.int .i64 m.rs) ∧ Below (w.alloc (mObj m A c)).heap.size (w.alloc (mObj m A c)) w') (first | assumption | exact KK.out _ K0 | exact KK.out _ K1 | exact KK.out _ K2 | exact KK.out _ K3) (first | (go_at_call 22; first
          | ((with_reducible refine (z1 Av l n cv HL.out.1 (by have := HL.out.2; have := HL.out.1; omega) wr.drew RB.out).mono ?_); (rintro e w3 ⟨A3, c3, rfl, hc3, ho3, X⟩; have O3 := Lib.hid ho3; have X3 := Lib.hid X; have K1 := step_trans K0 X; clear ho3 X))
          | ((with_reducible refine (z2 A3 (l ++ enc (.num .rt) m) (n + 6) c3 E1.out (by have := HL.out.2; have := HL.out.1; omega) w3 O3.out.bytes).mono ?_); (rintro e w4 ⟨A4, c4, rfl, hc4, ho4, X⟩; have O4 := Lib.hid ho4; have K2 := step_trans K1 X; clear ho4 X))
          | ((with_reducible refine (z3 A4 (l ++ enc (.num .rt) m ++ enc (.num .rn) m) (n + 6 + 6) c4 E2.out (by have := HL.out.2; have := HL.out.1; omega) w4 O4.out.bytes).mono ?_); (rintro e w5 ⟨A5, c5, rfl, hc5, ho5, X⟩; have O5 := Lib.hid ho5; have K3 := step_trans K2 X; have S5 := Lib.hid K2.size; clear ho5 X))))
        go_wp2
        go_roundw
        case rel => exact ⟨j + 1, l ++ encs (parts .recd) m, by omega, by go_num, HN.out.symm, by have := HL.out.2.1; rw [List.length_append]; simp [encs, parts, enc, dig_length, Mg.size]; omega, by have h := O5.out.lessM (b := w.heap.size + 1) (by have := S5.out; simpa using this); simpa [encs, parts, List.append_assoc] using h, K3⟩
        case measure => simp [intOf]; omega
      | bits =>
        have hch : ((S[j]'hjs).toNat : Int) = 98 := by rw [hix]; rfl
        have z0 := fun w => refLong_any m.bits HB.out w
        unfold RefPost at z0
        clear hix hfits
        rw [← HL.out.1]
        go_wp2_with (first
          | (go_at_call 23; (with_reducible refine (z0 _).mono ?_); (rintro e w3 ⟨A3, c3, rfl, hc3, ho3, X⟩; have O3 := Lib.hid ho3.bytes; have X3 := Lib.hid (step_trans HW.out.2.1 X); have W3 := HW.out.1.below X; have S3 := Lib.hid (Nat.le_trans HS.out X.size); clear ho3 X))
          | (at_builtin; refine wpList_appendB rfl (.tmp 78) (.tmp 81) 25 rfl rfl (w.heap.size + 1) _ l rfl W3 A3 (dig m.bits 8) 8 c3 w3.heap.size rfl (dig_length _ _) O3.out (by have := HL.out.2; have := HL.out.1; rw [dig_length]; omega) S3.out ?_; (intro v4 w4 ho4 hg4 hat4; have X4 : Below (w.alloc (mObj m A c)).heap.size (w.alloc (mObj m A c)) w4 := X3.out.grown hg4 X3.out.size (fun i hi => by have := (W3.lt i hi).1; simpa using this); have O4 := Lib.hid ho4; clear ho4 hg4 hat4)))
        go_roundw
        case rel => exact ⟨j + 1, l ++ encs (parts .bits) m, by omega, by go_num, HN.out.symm, by have := HL.out.2.1; rw [List.length_append]; simp [encs, parts, enc, dig_length]; omega, by simpa [encs, parts, enc] using O4.out, X4⟩
        case measure => simp [intOf]; omega
      | data =>
        have hch : ((S[j]'hjs).toNat : Int) = 100 := by rw [hix]; rfl
        have h32 : m.data.length = 32 := hfits .data (by simp [parts])
        have W3 : OwnB wr (w.heap.size + 1) (.slice Av l.length cv) l := HW.out.1
        have H32 := Lib.hid h32
        clear hix hfits h32
        rw [← HL.out.1]
        go_wp2_with (at_builtin; refine wpList_appendB rfl (.tmp 85) (.tmp 87) 25 rfl rfl (w.heap.size + 1) _ l rfl W3 A m.data m.data.length c wr.heap.size rfl rfl HW.out.2.2.1 (by have := HL.out.2; have := HL.out.1; have := H32.out; omega) HS.out ?_; (intro v4 w4 ho4 hg4 hat4; have X4 : Below (w.alloc (mObj m A c)).heap.size (w.alloc (mObj m A c)) w4 := HW.out.2.1.grown hg4 HW.out.2.1.size (fun i hi => by have := (W3.lt i hi).1; simpa using this); have O4 := Lib.hid ho4; clear ho4 hg4 hat4))
        go_roundw
        case rel => exact ⟨j + 1, l ++ encs (parts .data) m, by omega, by go_num, HN.out.symm, by have := HL.out.2.1; rw [List.length_append]; simp [encs, parts, enc, H32.out]; omega, by simpa [encs, parts, enc] using O4.out, X4⟩
        case measure => simp [intOf]; omega
    · obtain rfl : j = fs.length := by omega
      rw [List.take_length] at hl
      rw [← HLL.out] at hl
      subst hl
      have HO := Lib.hid (And.intro hown.bytes hBw)
      clear hown hB hra hBw hll
      go_wp2
      go_ret2
      exact ⟨Av, cv, rfl, HO.out.1, HO.out.2⟩
end Go.Proofs.Ytfiijnpabmocdaa
