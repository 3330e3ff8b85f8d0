/-
  The document's answers for fixed (tandemref03): what they return, in the same words as package fixed. Conditions: the bytes can be read.
-/
import Derived.Test.YtfiijnpabmocdaaFx
import Derived.Test.YtfiijnpabmocdaaBa
namespace Go.Proofs.Ytfiijnpabmocdaa
open Go.RowKit Fix

def RefPost (n s : Nat) (w : World) (e : Ending) (w' : World) : Prop :=
  ∃ A c, e = .returned (.slice A s c) ∧ s ≤ c ∧ OwnB w' w.heap.size (.slice A s c) (dig n s) ∧ Below w.heap.size w w'
theorem refBytes_any (n s : Nat) (hn : n < 18446744073709551616) (hs : s ≤ 8) (w : World) :
    Calls Try.prog 33 #[.int .u64 (n : Int), .int .i64 (s : Int)] w (RefPost n s w) := by
  go_enter Try.func33, Try.ntmps33
  go_wp2
  go_loopw [0, 5, 6] (fun m v i wr => ∃ k : Nat, k ≤ s ∧ i = .int .i64 (k : Int) ∧ m = .int .u64 ((n / 256 ^ k : Nat) : Int) ∧ OwnB wr w.heap.size v (dig n k) ∧ Below w.heap.size w wr) (fun _ _ i _ => s - (intOf i).toNat)
  case atStart => exact ⟨0, Nat.zero_le _, rfl, by simp, OwnB.nil_, Below.refl _ _⟩
  case round =>
    obtain ⟨k, hk, rfl, rfl, hown, hbel⟩ := hrel
    obtain ⟨y, hy⟩ : ∃ y, y = n / 256 ^ k := ⟨_, rfl⟩
    have hyn : y < 18446744073709551616 := by have := Nat.div_le_self n (256 ^ k); omega
    rw [← hy]
    by_cases hks : k < s
    · have HY := Lib.hid hy
      clear hy
      have hx : BytesAt (wr.alloc (.cells #[.int .u8 ((y : Int) % 256)] 5)) (wr.heap.size + 1) (some ⟨wr.heap.size, 0, none⟩) [UInt8.ofNat y] := by
        have h := bytes_new wr [UInt8.ofNat y] 5 (0, 0)
        have e : (cellsOfBytes [UInt8.ofNat y]).toArray = #[.int .u8 ((y : Int) % 256)] := by
          simp [cellsOfBytes]
        rwa [e] at h
      have hl := dig_length n k
      go_wp2_with (at_builtin; refine wpList_appendB rfl (.tmp 12) (.tmp 16) 25 rfl rfl w.heap.size _ (dig n k) rfl (hown.alloc _) (some ⟨wr.heap.size, 0, none⟩) [UInt8.ofNat y] 1 1 (wr.heap.size + 1) rfl rfl hx ?c2 ?c3 ?c4; rotate_left 2; (intro v' w' ho hg hat))
      · go_roundw
        case rel =>
          refine ⟨k + 1, by omega, by go_num, ?_, ?_, ?_⟩
          · congr 1
            rw [Nat.pow_succ, ← Nat.div_div_eq_div_mul, ← HY.out]
            omega
          · rw [dig_succ, ← HY.out]; exact ho
          · exact (hbel.alloc hbel.size _).grown hg (by have := hbel.size; simp; omega) (fun j hj => (hown.lt j hj).1)
        case measure => simp [intOf]; omega
      case c2 => simp [hl]; omega
      case c3 => have := hbel.size; simp; omega
    · obtain rfl : k = s := by omega
      obtain ⟨A, c, rfl, hlc⟩ := hown.form
      rw [dig_length] at hlc hown ⊢
      clear hy
      go_wp2
      go_ret
      exact ⟨A, c, rfl, hlc, hown, hbel⟩
theorem refLong_any (n : Nat) (hn : n < 18446744073709551616) (w : World) : Calls Try.prog 23 #[.int .u64 (n : Int)] w (RefPost n 8 w) := by
  go_enter Try.func23, Try.ntmps23
  go_wp2_with (go_at_call 33; refine (refBytes_any n 8 hn (by omega) _).mono ?_; (rintro e w2 ⟨A, c, rfl, hlc, hown, hbel⟩))
  go_ret
  exact ⟨A, c, rfl, hlc, hown, hbel⟩
theorem isz_no (s : Int) (h : isz s = false) : s < 1 ∨ 7 < s := by rw [← Bool.not_eq_true, isz_iff] at h; omega
theorem refPut_any (n s : Int) (w : World) (hn2 : n ≤ 9223372036854775807) : Calls Try.prog 32 #[.int .i64 n, .int .i64 s] w (PutPost n s w) := by
  cases h : isz s with
  | true =>
    have HS := Lib.hid h
    rw [isz_iff] at h
    have g1 : ¬ s < 1 := by omega
    have g2 : ¬ 7 < s := by omega
    by_cases h0 : n < 0
    · have HP := Lib.hid (putBE_range n s HS.out (by rw [← Bool.not_eq_true, fitsB_iff]; omega))
      go_enter Try.func32, Try.ntmps32
      go_wp2
      go_ret2
      exact PutPost.none_ HP.out _
    · obtain ⟨m, rfl⟩ : ∃ m : Nat, n = (m : Int) := ⟨n.toNat, by omega⟩
      obtain ⟨k, rfl⟩ : ∃ k : Nat, s = (k : Int) := ⟨s.toNat, by omega⟩
      have q := shr_fits m k
      cases h2 : fitsB (m : Int) (k : Int) with
      | false =>
        have HP := Lib.hid (putBE_range _ _ HS.out h2)
        rw [h2] at q
        simp only [Bool.not_false] at q
        clear h2
        go_enter Try.func32, Try.ntmps32
        go_wp2
        go_ret2
        exact PutPost.none_ HP.out _
      | true =>
        have HP := Lib.hid (putBE_good _ _ HS.out h2)
        rw [h2] at q
        simp only [Bool.not_true] at q
        clear h2
        go_enter Try.func32, Try.ntmps32
        go_wp2_with (go_at_call 33; refine (refBytes_any m k (by omega) (by omega) _).mono ?_; (rintro e w2 ⟨A, c, rfl, hlc, hown, hbel⟩))
        go_ret2
        obtain ⟨e1, e2⟩ := HP.out
        simp only [Int.toNat_natCast] at e1
        have hl := dig_length m k
        refine ⟨A, c, ?_, ?_, ?_, hbel⟩
        · rw [e1, e2, hl]; rfl
        · rw [e1, hl]; exact hlc
        · rw [e1]; exact hown.bytes
  | false =>
    have HP := Lib.hid (putBE_size n s h)
    rcases isz_no s h with h1 | h1
    · clear h
      go_enter Try.func32, Try.ntmps32
      go_wp2
      go_ret2
      exact PutPost.none_ HP.out _
    · clear h
      have h2 : ¬ s < 1 := by omega
      go_enter Try.func32, Try.ntmps32
      go_wp2
      go_ret2
      exact PutPost.none_ HP.out _

theorem refget_place (A : Option Addr) (l : List UInt8) (c : Nat) (at_ : Int) (s : Nat) (w : World) (h : inR l.length at_ = false) :
    Calls Try.prog 49 #[.slice A l.length c, .int .i64 at_, .int .i64 (s : Int)] w fun e w' => e = .returned (.tuple #[.int .u64 0, .int .i64 0, flt 5 0]) ∧ Below w.heap.size w w' := by
  unfold inR at h
  by_cases h0 : at_ < 0
  · clear h
    go_enter Try.func49, Try.ntmps49
    go_wp2
    refine bodyPost_ret (v := .tuple #[.int .u64 0, .int .i64 0, flt 5 0]) (by simp [results, Try.results49, flt, go_sem]) rfl ⟨rfl, (Below.refl _ _).alloc (Nat.le_refl _) _⟩
  · have h1 : (l.length : Int) < at_ := by simp at h; omega
    clear h
    go_enter Try.func49, Try.ntmps49
    go_wp2
    refine bodyPost_ret (v := .tuple #[.int .u64 0, .int .i64 0, flt 5 0]) (by simp [results, Try.results49, flt, go_sem]) rfl ⟨rfl, (Below.refl _ _).alloc (Nat.le_refl _) _⟩
theorem refget_short (A : Option Addr) (l : List UInt8) (c : Nat) (at_ : Int) (s : Nat) (w : World) (hc : l.length ≤ 140737488351232) (h : inR l.length at_ = true) (h2 : (l.length : Int) - at_ < s) :
    Calls Try.prog 49 #[.slice A l.length c, .int .i64 at_, .int .i64 (s : Int)] w fun e w' => e = .returned (.tuple #[.int .u64 0, .int .i64 0, flt 4 l.length]) ∧ Below w.heap.size w w' := by
  have h0 : 0 ≤ at_ := by simp [inR] at h; omega
  have h1 : at_ ≤ (l.length : Int) := by simp [inR] at h; omega
  have g0 : ¬ at_ < 0 := by omega
  have g1 : ¬ (l.length : Int) < at_ := by omega
  clear h
  go_enter Try.func49, Try.ntmps49
  go_wp2
  refine bodyPost_ret (v := .tuple #[.int .u64 0, .int .i64 0, flt 4 l.length]) (by simp [results, Try.results49, flt, go_sem]) rfl ⟨rfl, (Below.refl _ _).alloc (Nat.le_refl _) _⟩
theorem sum_step (m : List UInt8) (j : Nat) (hj : j < m.length) (hm : m.length ≤ 8) : IntKind.u64.wrap (IntKind.u64.wrap (256 * (le (m.drop (j + 1)) : Int)) + IntKind.u64.wrap ((m.getD j 0).toNat : Int)) = (le (m.drop j) : Int) := by
  have h := le_drop m j hj
  have h1 := le_lt (m.drop j)
  have h2 : 256 ^ (m.drop j).length ≤ 256 ^ 8 := Nat.pow_le_pow_right (by decide) (by rw [List.length_drop]; omega)
  have hx := (m.getD j 0).toNat_lt
  rw [IntKind.wrap_u64, IntKind.wrap_u64, IntKind.wrap_u64]
  omega
theorem refget_good (A : Option Addr) (l : List UInt8) (c : Nat) (a s : Nat) (w : World) (hc : l.length ≤ 140737488351232) (hr : BytesAt w w.heap.size A l) (hs : s ≤ 8) (h : a + s ≤ l.length) :
    Calls Try.prog 49 #[.slice A l.length c, .int .i64 (a : Int), .int .i64 (s : Int)] w fun e w' => e = .returned (.tuple #[.int .u64 (le ((l.drop a).take s) : Int), .int .i64 ((a : Int) + s), flt 0 0]) ∧ Below w.heap.size w w' := by
  have g1 : ¬ (l.length : Int) < (a : Int) := by omega
  have g2 : ¬ (l.length : Int) - (a : Int) < (s : Int) := by omega
  have g3 : (a : Int) ≤ (l.length : Int) := by omega
  have g4 : (s : Int) ≤ (l.length : Int) - (a : Int) := by omega
  obtain ⟨m, hm⟩ : ∃ m, m = (l.drop a).take s := ⟨_, rfl⟩
  have hml : m.length = s := by rw [hm]; simp; omega
  have hmg : ∀ j, j < s → m.getD j 0 = l.getD (a + j) 0 := fun j hj => by rw [hm]; simp [List.getD_eq_getElem?_getD, hj]
  rw [← hm]
  have HM := Lib.hid (And.intro (hr.alloc (Nat.le_refl _) (.cells #[.int .i64 0, .int .i64 0] 38)) (And.intro hml hmg))
  clear hml hm hmg hr
  go_enter Try.func49, Try.ntmps49
  go_wp2
  go_loop [9, 10] (fun r i => ∃ k : Nat, k ≤ s ∧ i = .int .i64 ((k : Int) - 1) ∧ r = .int .u64 (le (m.drop k) : Int)) (fun _ i => ((intOf i) + 1).toNat)
  case atStart =>
    refine ⟨s, Nat.le_refl _, rfl, ?_⟩
    rw [List.drop_eq_nil_of_le (by rw [HM.out.2.1]; exact Nat.le_refl _)]
    rfl
  case round =>
    obtain ⟨k, hk, rfl, rfl⟩ := hrel
    by_cases hks : k = 0
    · subst hks
      rw [List.drop_zero]
      go_wp2
      refine bodyPost_ret (v := .tuple #[.int .u64 (le m : Int), .int .i64 ((a : Int) + s), flt 0 0]) (by simp [results, Try.results49, flt, go_sem]) rfl ⟨rfl, (Below.refl _ _).alloc (Nat.le_refl _) _⟩
    · obtain ⟨j, rfl⟩ : ∃ j, k = j + 1 := ⟨k - 1, by omega⟩
      obtain ⟨hb, hml, hmg⟩ := HM.out
      obtain ⟨ad, rfl, _, hcell⟩ := hb (by rintro rfl; simp at h; omega)
      have hx := hcell (a + j) (by omega)
      have hq := sum_step m j (by omega) (by omega)
      rw [hmg j (by omega), List.getD_eq_getElem?_getD] at hq
      have HQ := Lib.hid hq
      rw [show (((j + 1 : Nat) : Int) - 1) = (j : Int) by omega]
      clear hcell hb hml hmg hq
      go_wp2
      go_round
      case rel => exact ⟨j, by omega, rfl, congrArg _ HQ.out⟩
      case measure => simp [intOf]
theorem refget_any (A : Option Addr) (l : List UInt8) (c : Nat) (at_ : Int) (s : Nat) (w : World) (hc : l.length ≤ 140737488351232) (hr : BytesAt w w.heap.size A l) (hs : s ≤ 8) :
    Calls Try.prog 49 #[.slice A l.length c, .int .i64 at_, .int .i64 (s : Int)] w fun e w' => e = .returned (.tuple #[.int .u64 (getN l at_ s : Int), .int .i64 (getP l.length at_ s), flt (getE l.length at_ s) (getA l.length at_ s)]) ∧ Below w.heap.size w w' := by
  unfold getN getP getE getA
  by_cases h : inR l.length at_ = true
  · by_cases h2 : inN l.length at_ s = true
    · simp only [if_pos h, if_pos h2]
      rw [inN_iff] at h2
      obtain ⟨a, rfl⟩ : ∃ a : Nat, at_ = (a : Int) := ⟨at_.toNat, by omega⟩
      exact refget_good A l c a s w hc hr hs (by omega)
    · simp only [if_pos h, if_neg h2]
      rw [inN_iff] at h2
      exact refget_short A l c at_ s w hc h (by rw [inR_iff] at h; omega)
  · have h2 : ¬ inN l.length at_ s = true := by rw [inN_iff]; rw [inR_iff] at h; omega
    simp only [if_neg h, if_neg h2]
    exact refget_place A l c at_ s w (by simpa using h)
theorem refGet_any (A : Option Addr) (l : List UInt8) (c : Nat) (at_ s : Int) (w : World) (hc : l.length ≤ 140737488351232) (hr : BytesAt w w.heap.size A l) :
    Calls Try.prog 48 #[.slice A l.length c, .int .i64 at_, .int .i64 s] w fun e w' => e = .returned (.tuple #[.int .i64 (getsN l at_ s : Int), .int .i64 (getsP l.length at_ s), flt (getsE l.length at_ s) (getsA l.length at_ s)]) ∧ Below w.heap.size w w' := by
  unfold getsN getsP getsE getsA
  cases h : isz s with
  | true =>
    have HS := Lib.hid h
    rw [isz_iff] at h
    obtain ⟨k, rfl⟩ : ∃ k : Nat, s = (k : Int) := ⟨s.toNat, by omega⟩
    simp only [if_true, Int.toNat_natCast]
    have z := refget_any A l c at_ k (w.alloc (.cells #[.int .i64 0, .int .i64 0] 38)) hc ((hr.alloc (Nat.le_refl _) _).more (by simp)) (by omega)
    have hN : getN l at_ k < 72057594037927936 := Nat.lt_of_lt_of_le (getN_lt l at_ k) (pow_le7 k (by omega))
    obtain ⟨N, hNe⟩ : ∃ x, x = getN l at_ k := ⟨_, rfl⟩
    obtain ⟨P, hPe⟩ : ∃ x, x = getP l.length at_ k := ⟨_, rfl⟩
    obtain ⟨E, hEe⟩ : ∃ x, x = getE l.length at_ k := ⟨_, rfl⟩
    obtain ⟨F, hFe⟩ : ∃ x, x = getA l.length at_ k := ⟨_, rfl⟩
    rw [← hNe] at hN
    rw [← hNe, ← hPe, ← hEe, ← hFe] at z ⊢
    clear hNe hPe hEe hFe hr
    have e1 : IntKind.i64.wrap (N : Int) = (N : Int) := IntWalk.i64_in _ (by omega)
    go_enter Try.func48, Try.ntmps48
    have s1 : ¬ (k : Int) < 1 := by omega
    have s2 : ¬ (7 : Int) < (k : Int) := by omega
    go_wp2_with (go_at_call 49; refine z.mono ?_; (rintro e w2 ⟨rfl, hbel⟩; unfold flt))
    have hb0 := hbel.block w.heap.size (by simp)
    rw [heap_alloc_new] at hb0
    have hlt : w.heap.size < w2.heap.size := by have := hbel.size; simp at this; omega
    have hB3 : Below w.heap.size w (w2.alloc (.cells #[.int .i64 E, .int .i64 F] 38)) := (((Below.refl _ _).alloc (Nat.le_refl _) _).trans (hbel.mono (by simp))).alloc (by omega) _
    have hb1 : (w2.alloc (.cells #[.int .i64 E, .int .i64 F] 38)).heap[w.heap.size]? = some (.cells #[.int .i64 0, .int .i64 0] 38) := (((Below.refl w2.heap.size w2).alloc (Nat.le_refl _) _).block _ hlt).trans hb0
    have hb2 : (w2.alloc (.cells #[.int .i64 E, .int .i64 F] 38)).heap[w2.heap.size]? = some (.cells #[.int .i64 E, .int .i64 F] 38) := heap_alloc_new _ _
    obtain ⟨g, hg⟩ : ∃ g, g = w2.heap.size := ⟨_, rfl⟩
    obtain ⟨w3, hw3⟩ : ∃ x, x = w2.alloc (.cells #[.int .i64 E, .int .i64 F] 38) := ⟨_, rfl⟩
    obtain ⟨q, hq⟩ : ∃ q, q = w.heap.size := ⟨_, rfl⟩
    rw [← hg, ← hw3] at hb2 ⊢
    rw [← hw3, ← hq] at hb1
    rw [← hw3] at hB3
    rw [← hq, ← hg] at hlt
    rw [← hq]
    have c0 : w3.cell? ⟨g, 0, none⟩ = some (.int .i64 E) := by simp [World.cell?, hb2]
    have c1 : w3.cell? ⟨g, 1, none⟩ = some (.int .i64 F) := by simp [World.cell?, hb2]
    have d0 : w3.cell? ⟨q, 0, none⟩ = some (.int .i64 0) := by simp [World.cell?, hb1]
    have d1 : w3.cell? ⟨q, 1, none⟩ = some (.int .i64 0) := by simp [World.cell?, hb1]
    have f0 : w3.frozen? ⟨q, 0, none⟩ = false := by simp [World.frozen?, hb1]
    have f1 : w3.frozen? ⟨q, 1, none⟩ = false := by simp [World.frozen?, hb1]
    have HQ := Lib.hid (And.intro hq hB3)
    clear z hb0 hb1 hb2 hbel hw3 hg hq hB3
    go_region
    go_wp2
    refine bodyPost_ret (v := .tuple #[.int .i64 (N : Int), .int .i64 P, flt E F]) (by simp [results, Try.results48, flt, go_sem, d0, d1]) rfl ⟨rfl, ?_⟩
    obtain ⟨hq, hB3⟩ := HQ.out
    exact ((hB3.setCell (Nat.le_of_eq hq.symm) _).setCell (Nat.le_of_eq hq.symm) _).drew
  | false =>
    simp only [Bool.false_eq_true, if_false]
    rcases isz_no s h with h1 | h1
    · clear h
      go_enter Try.func48, Try.ntmps48
      go_wp2
      refine bodyPost_ret (v := .tuple #[.int .i64 0, .int .i64 0, flt 2 0]) (by simp [results, Try.results48, flt, go_sem]) rfl ⟨rfl, (Below.refl _ _).alloc (Nat.le_refl _) _⟩
    · clear h
      have h2 : ¬ s < 1 := by omega
      go_enter Try.func48, Try.ntmps48
      go_wp2
      refine bodyPost_ret (v := .tuple #[.int .i64 0, .int .i64 0, flt 2 0]) (by simp [results, Try.results48, flt, go_sem]) rfl ⟨rfl, (Below.refl _ _).alloc (Nat.le_refl _) _⟩
theorem refGetLong_any (A : Option Addr) (l : List UInt8) (c : Nat) (at_ : Int) (w : World) (hc : l.length ≤ 140737488351232) (hr : BytesAt w w.heap.size A l) :
    Calls Try.prog 37 #[.slice A l.length c, .int .i64 at_] w fun e w' => e = .returned (.tuple #[.int .u64 (getN l at_ 8 : Int), .int .i64 (getP l.length at_ 8), flt (getE l.length at_ 8) (getA l.length at_ 8)]) ∧ Below w.heap.size w w' := by
  have z := refget_any A l c at_ 8 (w.alloc (.cells #[.int .i64 0, .int .i64 0] 38)) hc ((hr.alloc (Nat.le_refl _) _).more (by simp)) (by omega)
  obtain ⟨N, hNe⟩ : ∃ x, x = getN l at_ 8 := ⟨_, rfl⟩
  obtain ⟨P, hPe⟩ : ∃ x, x = getP l.length at_ 8 := ⟨_, rfl⟩
  obtain ⟨E, hEe⟩ : ∃ x, x = getE l.length at_ 8 := ⟨_, rfl⟩
  obtain ⟨F, hFe⟩ : ∃ x, x = getA l.length at_ 8 := ⟨_, rfl⟩
  rw [← hNe, ← hPe, ← hEe, ← hFe] at z ⊢
  clear hNe hPe hEe hFe hr
  have key : ∀ w2, Below (w.alloc (.cells #[.int .i64 0, .int .i64 0] 38)).heap.size (w.alloc (.cells #[.int .i64 0, .int .i64 0] 38)) w2 →
      (w2.cell? ⟨w.heap.size, 0, none⟩ = some (.int .i64 0) ∧ w2.cell? ⟨w.heap.size, 1, none⟩ = some (.int .i64 0) ∧ w2.frozen? ⟨w.heap.size, 0, none⟩ = false ∧ w2.frozen? ⟨w.heap.size, 1, none⟩ = false) ∧
      Below w.heap.size w ((w2.setCell ⟨w.heap.size, 0, none⟩ (.int .i64 E)).setCell ⟨w.heap.size, 1, none⟩ (.int .i64 F)) := fun w2 hbel => by
    have hb0 := hbel.block w.heap.size (by simp)
    rw [heap_alloc_new] at hb0
    refine ⟨⟨by simp [World.cell?, hb0], by simp [World.cell?, hb0], by simp [World.frozen?, hb0], by simp [World.frozen?, hb0]⟩, ?_⟩
    exact ((((Below.refl _ _).alloc (Nat.le_refl _) _).trans (hbel.mono (by simp))).setCell (Nat.le_refl _) _).setCell (Nat.le_refl _) _
  go_enter Try.func37, Try.ntmps37
  go_wp2_with (go_at_call 49; refine z.mono ?_; (rintro e w2 ⟨rfl, hbel⟩; unfold flt; obtain ⟨⟨d0, d1, f0, f1⟩, hB⟩ := key w2 hbel; clear hbel))
  refine bodyPost_ret (v := .tuple #[.int .u64 (N : Int), .int .i64 P, flt E F]) (by simp [results, Try.results37, flt, go_sem, d0, d1]) rfl ⟨rfl, hB⟩
end Go.Proofs.Ytfiijnpabmocdaa
