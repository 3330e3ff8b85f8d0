/-
  Package frame: join and wrong, each by one contract. Conditions: the table of crc lies as the program's text lays it; the bytes can be read.
-/
import Derived.Test.YtfopjilncfndnaaDoorFrMath
import Derived.Test.YtfopjilncfndnaaDoorFx
import Derived.Test.YtfopjilncfndnaaDoorWhole
import Derived.Test.YtfopjilncfndnaaDoorBa
import Derived.Test.YtfopjilncfndnaaDoorKitCopy
import Derived.WalkMore
namespace Go.Proofs.YtfopjilncfndnaaDoor
open Go.RowKit Fix

/-- a list of lists of bytes in memory -/
def ListsAt (w : World) (G : Nat) (vs : List Value) (ls : List (List UInt8)) : Prop :=
  BlkR 39 w G vs ∧ vs.length = ls.length ∧ ∀ j, j < ls.length → ∃ A c, vs[j]? = some (.slice A (ls.getD j []).length c) ∧ BytesAt w w.heap.size A (ls.getD j [])
theorem flatten_take (ls : List (List UInt8)) (j : Nat) (h : j < ls.length) : (ls.take (j + 1)).flatten = (ls.take j).flatten ++ ls.getD j [] := by
  rw [List.take_succ_eq_append_getElem h, List.flatten_append]
  simp [h]
theorem flatten_take_le (ls : List (List UInt8)) (j : Nat) : ((ls.take j).flatten).length ≤ (ls.flatten).length := by
  conv => rhs; rw [← List.take_append_drop j ls, List.flatten_append, List.length_append]
  omega
def JoinPost (l : List UInt8) (m : Nat) (w : World) (e : Ending) (w' : World) : Prop :=
  ∃ A c, e = .returned (.slice A m c) ∧ c ≤ 9223372036854775807 ∧ OwnZ w' w.heap.size (.slice A m c) l ∧ Below w.heap.size w w'
theorem OwnZ.capM {w : World} {base n c : Nat} {A : Option Addr} {l : List UInt8} (h : OwnZ w base (.slice A n c) l) : c ≤ 9223372036854775807 := by
  rcases h with ⟨hv, _⟩ | ⟨g, c', m, hv, _, _, _, _, _, hm⟩
  · injection hv with e1 e2 e3
    subst e3; omega
  · injection hv with e1 e2 e3
    subst e3
    exact hm
set_option maxRecDepth 100000 in
theorem join_any (G k : Nat) (vs : List Value) (ls : List (List UInt8)) (w : World) (hk : ls.length = k) (hk9 : k ≤ 100) (h : ListsAt w G vs ls) (hsz : (ls.flatten).length ≤ 1000) :
    Calls Tryd.prog 79 #[.slice (some ⟨G, 0, none⟩) k k] w (JoinPost ls.flatten ls.flatten.length w) := by
  obtain ⟨hG, hl, hs⟩ := h
  have HS := Lib.hid (And.intro hs hk)
  clear hs hk hl
  go_enter Tryd.func79, Tryd.ntmps79
  go_wp2
  go_loopw [3, 8] (fun v i wr => ∃ j : Nat, j ≤ k ∧ i = .int .i64 (j : Int) ∧ OwnZ wr w.heap.size v (ls.take j).flatten ∧ Below w.heap.size w wr) (fun _ i _ => k - (intOf i).toNat)
  case atStart => exact ⟨0, Nat.zero_le _, rfl, OwnZ.nil_, Below.refl _ _⟩
  case round =>
    obtain ⟨j, hj, rfl, hown, hbel⟩ := hrel
    by_cases hjn : j < k
    · obtain ⟨A, c, hv, hb⟩ := HS.out.1 j (by rw [HS.out.2]; exact hjn)
      have hcell := (hG.below hbel hG.lt).cell hv
      have hb2 := hb.step hbel
      have hft := flatten_take ls j (by rw [HS.out.2]; exact hjn)
      have hle := flatten_take_le ls (j + 1)
      rw [hft] at hle
      rw [List.length_append] at hle
      have HF := Lib.hid (And.intro hft hle)
      obtain ⟨l, hl0⟩ : ∃ l, l = (ls.take j).flatten := ⟨_, rfl⟩
      obtain ⟨q, hq0⟩ : ∃ q, q = ls.getD j [] := ⟨_, rfl⟩
      rw [← hl0] at hown
      rw [← hq0] at hcell hb2
      have HL := Lib.hid (And.intro hl0 hq0)
      have HZ := Lib.hid (show l.length + q.length ≤ 1000 by rw [hl0, hq0]; omega)
      have HB := Lib.hid hbel
      have HBS := Lib.hid hbel.size
      clear hft hle hl0 hq0 hb hv hbel
      go_wp2_with (at_builtin; refine wpList_appendZ rfl (.tmp 12) (.tmp 13) 39 rfl rfl w.heap.size _ l rfl hown A q q.length c _ rfl rfl hb2 (by have := HZ.out; omega) HBS.out ?_; (intro v2 w2 ho2 hg2; have B2 : Below w.heap.size w w2 := HB.out.grown hg2 HBS.out (fun j hj => (hown.lt j hj).1)))
      go_roundw
      case rel =>
        refine ⟨j + 1, by omega, by go_num, ?_, B2⟩
        rw [HF.out.1, ← HL.out.1, ← HL.out.2]
        exact ho2
      case measure => simp [intOf]; omega
    · obtain rfl : j = k := by omega
      rw [List.take_of_length_le (by rw [HS.out.2]; exact Nat.le_refl _)] at hown
      obtain ⟨A, c, rfl, hc⟩ := hown.form
      have HB := Lib.hid (And.intro hown hbel)
      clear hown hbel
      go_wp2
      go_ret
      exact ⟨A, c, rfl, HB.out.1.capM, HB.out.1, HB.out.2⟩

theorem join_v (G k : Nat) (vs : List Value) (ls : List (List UInt8)) (l : List UInt8) (m : Nat) (w : World) (hk : ls.length = k) (hk9 : k ≤ 100) (h : ListsAt w G vs ls) (hl : ls.flatten = l) (hm : l.length = m) (hsz : m ≤ 1000) :
    Calls Tryd.prog 79 #[.slice (some ⟨G, 0, none⟩) k k] w (JoinPost l m w) := by
  subst hl hm
  exact join_any G k vs ls w hk hk9 h hsz
/-- two blocks for a fault each, later on -/
abbrev fz : Obj := .cells #[.int .i64 0, .int .i64 0] 111
abbrev w2f (w : World) : World := (w.alloc fz).alloc fz
theorem two_at (w w' : World) (B : Below (w2f w).heap.size (w2f w) w') :
    (w'.cell? ⟨w.heap.size, 0, none⟩ = some (.int .i64 0) ∧ w'.cell? ⟨w.heap.size, 1, none⟩ = some (.int .i64 0) ∧ w'.frozen? ⟨w.heap.size, 0, none⟩ = false ∧ w'.frozen? ⟨w.heap.size, 1, none⟩ = false) ∧
    (w'.cell? ⟨w.heap.size + 1, 0, none⟩ = some (.int .i64 0) ∧ w'.cell? ⟨w.heap.size + 1, 1, none⟩ = some (.int .i64 0) ∧ w'.frozen? ⟨w.heap.size + 1, 0, none⟩ = false ∧ w'.frozen? ⟨w.heap.size + 1, 1, none⟩ = false) ∧ Below w.heap.size w w' := by
  have h0 : (w2f w).heap[w.heap.size]? = some fz := ((Below.refl _ _).alloc (Nat.le_refl _) _).block _ (by simp) |>.trans (heap_alloc_new w _)
  have h1 : (w2f w).heap[w.heap.size + 1]? = some fz := by have := heap_alloc_new (w.alloc fz) fz; rwa [show (w.alloc fz).heap.size = w.heap.size + 1 by simp] at this
  have g0 := (B.block w.heap.size (by simp; omega)).trans h0
  have g1 := (B.block (w.heap.size + 1) (by simp)).trans h1
  refine ⟨⟨?_, ?_, ?_, ?_⟩, ⟨?_, ?_, ?_, ?_⟩, (((Below.refl _ w).alloc (Nat.le_refl _) _).alloc (by simp) _).trans (B.mono (by simp; omega))⟩ <;> first | (simp [World.cell?, g0]; done) | (simp [World.cell?, g1]; done) | (simp [World.frozen?, g0]; done) | (simp [World.frozen?, g1]; done)
def WrongPost (l : List UInt8) (w : World) (e : Ending) (w' : World) : Prop := e = .returned (flt (Frm.wrongE l) (Frm.wrongA l)) ∧ Below w.heap.size w w'
theorem wrong_done {l : List UInt8} {w w' : World} {e a : Int} (h : Frm.wrongE l = e ∧ Frm.wrongA l = a) (B : Below w.heap.size w w') : WrongPost l w (.returned (flt e a)) w' := ⟨by rw [h.1, h.2], B⟩
theorem dig4_drop {l : List UInt8} {s : Nat} (h : l.length = s + 9) : (l.drop (s + 5)).take 4 = l.drop (l.length - 4) := by
  rw [show l.length - 4 = s + 5 by omega]
  exact List.take_of_length_le (by rw [List.length_drop]; omega)
theorem cut_head (A : Option Addr) (l : List UInt8) (n c : Nat) (hn : l.length = n) (h9 : 9 ≤ n) (hc : n ≤ c) :
    ∃ B, (∀ W, (Instr.slice 39 (.slice A n c) (some (.int .i64 0)) (some (.int .i64 2)) none).run Tryd.prog W = .ok (.slice B 2 c) W) ∧ ∀ w, BytesAt w w.heap.size A l → (convert 39 9 (.slice B 2 c)).run Tryd.prog w = .ok (.string ⟨(l.take 2).toArray⟩) w := by
  refine ⟨cutA A 0 c, fun W => ?_, fun w h => ?_⟩
  · exact cut_both A n c 0 2 (by omega) W
  · have := bytes_string ((h.drop 0 c (by omega)).take 2) c
    rw [List.drop_zero, List.length_take, Nat.min_eq_left (by omega)] at this
    exact this
theorem cell_two {l : List UInt8} {n : Nat} (hn : l.length = n) (h9 : 9 ≤ n) {ad : Addr} {w : World} (h : BytesAt w w.heap.size (some ad) l) : w.cell? ⟨ad.block, ad.off + 2, none⟩ = some (.int .u8 ((l.getD 2 0).toNat : Int)) := by
  obtain ⟨ad', e, _, hc⟩ := h (by rintro rfl; simp at hn; omega)
  cases e
  exact hc 2 (by omega)
theorem getSize (A : Option Addr) (l : List UInt8) (n c : Nat) (hn : l.length = n) (h9 : 9 ≤ n) (hc : n ≤ c) (h1 : n ≤ 1000) (w : World) (hr : BytesAt w w.heap.size A l) :
    Calls Tryd.prog 68 #[.slice A n c, .int .i64 3, .int .i64 2] w fun e w' => e = .returned (.tuple #[.int .i64 (Frm.size l : Int), .int .i64 5, .agg #[.int .i64 0, .int .i64 0]]) ∧ Below w.heap.size w w' := by
  subst hn
  have z := get_any A l c 3 2 w hc (by omega) hr
  have e1 : isz 2 = true := by decide
  have e2 : inR l.length 3 = true := (inR_iff _ _).2 ⟨by decide, by omega⟩
  have e3 : inN l.length 3 2 = true := (inN_iff _ _ 2).2 ⟨by decide, by omega, by omega⟩
  simp only [getsN, getsP, getsE, getsA, e1, if_true, getN, getP, getE, getA, show (2 : Int).toNat = 2 from rfl, show (3 : Int).toNat = 3 from rfl, show ((2 : Nat) : Int) = 2 from rfl, e2, e3] at z
  exact z
theorem getTold (A : Option Addr) (l : List UInt8) (n c s : Nat) (hn : l.length = n) (hs : n = s + 9) (hc : n ≤ c) (h1 : n ≤ 1000) (w : World) (hr : BytesAt w w.heap.size A l) :
    Calls Tryd.prog 86 #[.slice A n c, .int .i64 (5 + (s : Int))] w fun e w' => e = .returned (.tuple #[.int .u32 (Frm.told l : Int), .int .i64 (9 + (s : Int)), .agg #[.int .i64 0, .int .i64 0]]) ∧ Below w.heap.size w w' := by
  subst hn
  have z := getWord_any A l c (5 + (s : Int)) w hc (by omega) hr
  have e2 : inR l.length (5 + (s : Int)) = true := (inR_iff _ _).2 ⟨by omega, by omega⟩
  have e3 : inN l.length (5 + (s : Int)) 4 = true := (inN_iff _ _ 4).2 ⟨by omega, by omega, by omega⟩
  simp only [getN, getP, getE, getA, show (5 + (s : Int)).toNat = s + 5 by omega, show ((4 : Nat) : Int) = 4 from rfl, e2, e3, if_true, dig4_drop hs, show 5 + (s : Int) + 4 = 9 + (s : Int) by omega] at z
  exact z
theorem rightB (A : Option Addr) (l : List UInt8) (n c s : Nat) (hn : l.length = n) (hs : n = s + 9) (h1 : n ≤ 1000) (y : Bool) (hy : ((Crc.sum (Frm.bare l) : Int) == (Frm.told l : Int)) = y) (w : World) (ht : TabAt w) (hr : BytesAt w w.heap.size A l) :
    Calls Tryd.prog 87 #[.slice A (s + 5) c, .int .u32 (Frm.told l : Int)] w fun e w' => e = .returned (.bool y) ∧ w = w' := by
  subst hn
  have hb : Frm.bare l = l.take (s + 5) := by unfold Frm.bare; rw [show l.length - 4 = s + 5 by omega]
  have z := right_n A (l.take (s + 5)) (s + 5) c (by rw [List.length_take]; omega) w.heap.size (Frm.told l) w ht (by rw [List.length_take]; omega) (hr.take _)
  rw [← hb, hy] at z
  exact z
theorem cutSum (A : Option Addr) (n c s : Nat) (hs : n = s + 9) (hc : n ≤ c) (W : World) : (Instr.slice 39 (.slice A n c) none (some (.int .i64 (5 + (s : Int)))) none).run Tryd.prog W = .ok (.slice A (s + 5) c) W := by
  have := cut_to A n c (s + 5) (by omega) W
  rwa [show ((s + 5 : Nat) : Int) = 5 + (s : Int) by omega] at this
theorem some_addr {A : Option Addr} {l : List UInt8} {n : Nat} (hn : l.length = n) (h9 : 9 ≤ n) {w : World} (hr : BytesAt w w.heap.size A l) : ∃ ad, A = some ad := by
  obtain ⟨ad, e, _⟩ := hr (by rintro rfl; simp at hn; omega)
  exact ⟨ad, e⟩
theorem w2f_below (w : World) : Below w.heap.size w (w2f w) := ((Below.refl _ w).alloc (Nat.le_refl _) _).alloc (by simp) _
set_option maxRecDepth 100000 in
set_option maxHeartbeats 1000000 in
theorem wrong_1 (A : Option Addr) (l : List UInt8) (n c : Nat) (hn : l.length = n) (w : World) (h : n < 9) : Calls Tryd.prog 82 #[.slice A n c] w (WrongPost l w) := by
  have HW := Lib.hid (fun w' B => wrong_done (w := w) (w' := w') (Frm.wrongE_1 (l := l) (by rw [hn]; exact h)) B)
  rw [hn] at HW
  clear hn
  go_enter Tryd.func82, Tryd.ntmps82
  go_wp2
  go_step3
  go_wp2
  go_step3
  go_wp2
  rw [Exit.noGoto_ret]
  refine bodyPost_ret (v := flt 4 n) (by simp [results, Tryd.results82, flt, go_sem]) rfl (HW.out _ ?_)
  exact ((Below.refl _ w).alloc (Nat.le_refl _) _).alloc (by simp) _
set_option maxRecDepth 100000 in
set_option maxHeartbeats 1000000 in
theorem wrong_2 (A : Option Addr) (l : List UInt8) (n c : Nat) (hn : l.length = n) (hc : n ≤ c) (h1 : n ≤ 1000) (w : World) (hr : BytesAt w w.heap.size A l) (h : ¬ n < 9) (h2 : l.take 2 ≠ [84, 68]) : Calls Tryd.prog 82 #[.slice A n c] w (WrongPost l w) := by
  obtain ⟨ad, rfl⟩ := some_addr hn (by omega) hr
  obtain ⟨B, qc, qs⟩ := cut_head (some ad) l n c hn (by omega) hc
  have hr2 := (hr.stepA fz).stepA fz
  replace qs := qs _ hr2
  have HW := Lib.hid (fun w' B => wrong_done (w := w) (w' := w') (Frm.wrongE_2 (l := l) (by rw [hn]; exact h) h2) B)
  obtain ⟨t, hT, hne⟩ : ∃ t, l.take 2 = t ∧ (t == [84, 68]) = false := ⟨_, rfl, by
    rw [beq_eq_false_iff_ne]
    exact h2⟩
  rw [hT] at qs
  clear hn hr hc h2 hT hr2
  go_enter Tryd.func82, Tryd.ntmps82
  go_wp2
  go_step3
  go_wp2
  go_step3
  go_wp2
  rw [Exit.noGoto_ret]
  refine bodyPost_ret (v := flt 220 0) (by simp [results, Tryd.results82, flt, go_sem]) rfl (HW.out _ ?_)
  exact ((Below.refl _ w).alloc (Nat.le_refl _) _).alloc (by simp) _
set_option maxRecDepth 100000 in
set_option maxHeartbeats 1000000 in
theorem wrong_3 (A : Option Addr) (l : List UInt8) (n c : Nat) (hn : l.length = n) (hc : n ≤ c) (h1 : n ≤ 1000) (w : World) (hr : BytesAt w w.heap.size A l) (h : ¬ n < 9) (h2 : l.take 2 = [84, 68]) (h3 : l.getD 2 0 ≠ 1) : Calls Tryd.prog 82 #[.slice A n c] w (WrongPost l w) := by
  obtain ⟨ad, rfl⟩ := some_addr hn (by omega) hr
  obtain ⟨B, qc, qs⟩ := cut_head (some ad) l n c hn (by omega) hc
  have hr2 := (hr.stepA fz).stepA fz
  replace qs := qs _ hr2
  have HW := Lib.hid (fun w' B => wrong_done (w := w) (w' := w') (Frm.wrongE_3 (l := l) (by rw [hn]; exact h) h2 h3) B)
  rw [h2] at qs
  have hx := cell_two hn (by omega) hr2
  obtain ⟨x, hx0, hne⟩ : ∃ x : UInt8, x = l.getD 2 0 ∧ ((x.toNat : Int) != 1) = true := ⟨_, rfl, by
    rw [bne_iff_ne]
    intro e
    exact h3 (UInt8.toNat_inj.1 (by show _ = 1; omega))⟩
  rw [← hx0] at hx
  clear hn hr hc h2 h3 hx0 hr2
  go_enter Tryd.func82, Tryd.ntmps82
  go_wp2
  go_step3
  go_wp2
  go_step3
  go_wp2
  rw [Exit.noGoto_ret]
  refine bodyPost_ret (v := flt 221 2) (by simp [results, Tryd.results82, flt, go_sem]) rfl (HW.out _ ?_)
  exact ((Below.refl _ w).alloc (Nat.le_refl _) _).alloc (by simp) _
set_option maxRecDepth 100000 in
set_option maxHeartbeats 1000000 in
theorem wrong_4 (A : Option Addr) (l : List UInt8) (n c : Nat) (hn : l.length = n) (hc : n ≤ c) (h1 : n ≤ 1000) (w : World) (hr : BytesAt w w.heap.size A l) (h : ¬ n < 9) (h2 : l.take 2 = [84, 68]) (h3 : l.getD 2 0 = 1) (h4 : 200 < Frm.size l) : Calls Tryd.prog 82 #[.slice A n c] w (WrongPost l w) := by
  obtain ⟨ad, rfl⟩ := some_addr hn (by omega) hr
  obtain ⟨B, qc, qs⟩ := cut_head (some ad) l n c hn (by omega) hc
  have hr2 := (hr.stepA fz).stepA fz
  replace qs := qs _ hr2
  rw [h2] at qs
  have hx := cell_two hn (by omega) hr2
  rw [h3] at hx
  have zg := getSize (some ad) l n c hn (by omega) hc h1 _ hr2
  have HW := Lib.hid (fun w' B => wrong_done (w := w) (w' := w') (Frm.wrongE_4 (l := l) (by rw [hn]; exact h) h2 h3 h4) B)
  obtain ⟨sz, hsz⟩ : ∃ x, x = Frm.size l := ⟨_, rfl⟩
  rw [← hsz] at zg h4
  have i4 : (200 : Int) < (sz : Int) := by omega
  clear hn hr hc h2 h3 hr2 hsz h4
  go_enter Tryd.func82, Tryd.ntmps82
  go_wp2
  go_step3
  go_wp2
  go_step3
  go_wp2_with (first | (go_at_call 68; refine zg.mono ?_; (rintro e w3 ⟨rfl, B3⟩; have D3 := Lib.hid (step_alloc B3 fz); obtain ⟨⟨a0, a1, a2, a3⟩, ⟨b0, b1, b2, b3⟩, C3⟩ := two_at w (w3.alloc fz) D3.out; have E3 := Lib.hid C3; clear C3)))
  rw [Exit.noGoto_ret]
  refine bodyPost_ret (v := flt 3 3) (by simp [results, Tryd.results82, flt, go_sem, a0, a1]) rfl (HW.out _ ?_)
  exact (((E3.out.setCell (by simp) _).setCell (by simp) _).setCell (by simp) _).setCell (by simp) _
set_option maxRecDepth 100000 in
set_option maxHeartbeats 1000000 in
theorem wrong_5 (A : Option Addr) (l : List UInt8) (n c : Nat) (hn : l.length = n) (hc : n ≤ c) (h1 : n ≤ 1000) (w : World) (hr : BytesAt w w.heap.size A l) (h : ¬ n < 9) (h2 : l.take 2 = [84, 68]) (h3 : l.getD 2 0 = 1) (h4 : ¬ 200 < Frm.size l) (h5 : l.length ≠ Frm.size l + 9) : Calls Tryd.prog 82 #[.slice A n c] w (WrongPost l w) := by
  obtain ⟨ad, rfl⟩ := some_addr hn (by omega) hr
  obtain ⟨B, qc, qs⟩ := cut_head (some ad) l n c hn (by omega) hc
  have hr2 := (hr.stepA fz).stepA fz
  replace qs := qs _ hr2
  rw [h2] at qs
  have hx := cell_two hn (by omega) hr2
  rw [h3] at hx
  have zg := getSize (some ad) l n c hn (by omega) hc h1 _ hr2
  have HW := Lib.hid (fun w' B => wrong_done (w := w) (w' := w') (Frm.wrongE_5 (l := l) (by rw [hn]; exact h) h2 h3 h4 h5) B)
  obtain ⟨sz, hsz⟩ : ∃ x, x = Frm.size l := ⟨_, rfl⟩
  rw [← hsz] at zg h4 h5
  have i4 : ¬ (200 : Int) < (sz : Int) := by omega
  have e1 : IntKind.i64.wrap (9 + (sz : Int)) = 9 + (sz : Int) := IntWalk.i64_in _ (by omega)
  have i5 : ((n : Int) != 9 + (sz : Int)) = true := by rw [bne_iff_ne]; omega
  clear hn hr hc h2 h3 hr2 hsz h4 h5
  go_enter Tryd.func82, Tryd.ntmps82
  go_wp2
  go_step3
  go_wp2
  go_step3
  go_wp2_with (first | (go_at_call 68; refine zg.mono ?_; (rintro e w3 ⟨rfl, B3⟩; have D3 := Lib.hid (step_alloc B3 fz); obtain ⟨⟨a0, a1, a2, a3⟩, ⟨b0, b1, b2, b3⟩, C3⟩ := two_at w (w3.alloc fz) D3.out; have E3 := Lib.hid C3; clear C3)))
  rw [Exit.noGoto_ret]
  refine bodyPost_ret (v := flt 4 3) (by simp [results, Tryd.results82, flt, go_sem, a0, a1]) rfl (HW.out _ ?_)
  exact (((E3.out.setCell (by simp) _).setCell (by simp) _).setCell (by simp) _).setCell (by simp) _
set_option maxRecDepth 100000 in
set_option maxHeartbeats 1000000 in
theorem wrong_6 (A : Option Addr) (l : List UInt8) (n c : Nat) (hn : l.length = n) (hc : n ≤ c) (h1 : n ≤ 1000) (w : World) (ht : TabAt w) (hr : BytesAt w w.heap.size A l) (h : ¬ n < 9) (h2 : l.take 2 = [84, 68]) (h3 : l.getD 2 0 = 1) (h4 : ¬ 200 < Frm.size l) (h5 : l.length = Frm.size l + 9) (h6 : Crc.sum (Frm.bare l) ≠ Frm.told l) : Calls Tryd.prog 82 #[.slice A n c] w (WrongPost l w) := by
  obtain ⟨ad, rfl⟩ := some_addr hn (by omega) hr
  obtain ⟨B, qc, qs⟩ := cut_head (some ad) l n c hn (by omega) hc
  have hr2 := (hr.stepA fz).stepA fz
  replace qs := qs _ hr2
  rw [h2] at qs
  have hx := cell_two hn (by omega) hr2
  rw [h3] at hx
  have zg := getSize (some ad) l n c hn (by omega) hc h1 _ hr2
  have HW := Lib.hid (fun w' B => wrong_done (w := w) (w' := w') (Frm.wrongE_6 (l := l) (by rw [hn]; exact h) h2 h3 h4 h5 h6) B)
  have zw := fun w hr => getTold (some ad) l n c (Frm.size l) hn (by omega) hc h1 w hr
  have zr := fun w ht hr => rightB (some ad) l n c (Frm.size l) hn (by omega) h1 false (by rw [beq_eq_false_iff_ne]; omega) w ht hr
  have zs := fun W => cutSum (some ad) n c (Frm.size l) (by omega) hc W
  rw [show ((Frm.size l + 5 : Nat) : Int) = 5 + (Frm.size l : Int) by omega] at HW
  obtain ⟨sz, hsz⟩ : ∃ x, x = Frm.size l := ⟨_, rfl⟩
  rw [← hsz] at zg h4 h5 zw zr zs HW
  have i4 : ¬ (200 : Int) < (sz : Int) := by omega
  have e1 : IntKind.i64.wrap (9 + (sz : Int)) = 9 + (sz : Int) := IntWalk.i64_in _ (by omega)
  have e2 : IntKind.i64.wrap (5 + (sz : Int)) = 5 + (sz : Int) := IntWalk.i64_in _ (by omega)
  have i5 : ((n : Int) != 9 + (sz : Int)) = false := by rw [bne_eq_false_iff_eq]; omega
  have HR := Lib.hid hr2
  clear hn hr hc h2 h3 hr2 hsz h4 h5 h6
  go_enter Tryd.func82, Tryd.ntmps82
  go_wp2
  go_step3
  go_wp2
  go_step3
  go_wp2_with (first
    | (go_at_call 68; refine zg.mono ?_; (rintro e w3 ⟨rfl, B3⟩; have D3 := Lib.hid (step_alloc B3 fz); obtain ⟨⟨a0, a1, a2, a3⟩, ⟨b0, b1, b2, b3⟩, C3⟩ := two_at w (w3.alloc fz) D3.out; have E3 := Lib.hid C3; clear C3; have R3 := Lib.hid (HR.out.step D3.out)))
    | (go_at_call 86; refine (zw _ R3.out).mono ?_; (rintro e w4 ⟨rfl, B4⟩; have D4 := Lib.hid (step_alloc (step_trans D3.out B4) fz); obtain ⟨⟨a0, a1, a2, a3⟩, ⟨b0, b1, b2, b3⟩, C4⟩ := two_at w (w4.alloc fz) D4.out; have E4 := Lib.hid C4; have R4 := Lib.hid (R3.out.step (step_alloc B4 fz)); have T4 := Lib.hid (ht.below E4.out (Nat.le_refl _)); clear C4))
    | (go_at_call 87; refine (zr _ T4.out R4.out).mono ?_; (rintro e w5 ⟨rfl, rfl⟩)))
  rw [Exit.noGoto_ret]
  refine bodyPost_ret (v := flt 11 (5 + (sz : Int))) (by simp [results, Tryd.results82, flt, go_sem, a0, a1]) rfl (HW.out _ ?_)
  exact (((E4.out.setCell (by simp) _).setCell (by simp) _).setCell (by simp) _).setCell (by simp) _
set_option maxRecDepth 100000 in
set_option maxHeartbeats 1000000 in
theorem wrong_7 (A : Option Addr) (l : List UInt8) (n c : Nat) (hn : l.length = n) (hc : n ≤ c) (h1 : n ≤ 1000) (w : World) (ht : TabAt w) (hr : BytesAt w w.heap.size A l) (h : ¬ n < 9) (h2 : l.take 2 = [84, 68]) (h3 : l.getD 2 0 = 1) (h4 : ¬ 200 < Frm.size l) (h5 : l.length = Frm.size l + 9) (h6 : Crc.sum (Frm.bare l) = Frm.told l) : Calls Tryd.prog 82 #[.slice A n c] w (WrongPost l w) := by
  obtain ⟨ad, rfl⟩ := some_addr hn (by omega) hr
  obtain ⟨B, qc, qs⟩ := cut_head (some ad) l n c hn (by omega) hc
  have hr2 := (hr.stepA fz).stepA fz
  replace qs := qs _ hr2
  rw [h2] at qs
  have hx := cell_two hn (by omega) hr2
  rw [h3] at hx
  have zg := getSize (some ad) l n c hn (by omega) hc h1 _ hr2
  have HW := Lib.hid (fun w' B => wrong_done (w := w) (w' := w') (Frm.wrongE_7 (l := l) (by rw [hn]; exact h) h2 h3 h4 h5 h6) B)
  have zw := fun w hr => getTold (some ad) l n c (Frm.size l) hn (by omega) hc h1 w hr
  have zr := fun w ht hr => rightB (some ad) l n c (Frm.size l) hn (by omega) h1 true (by rw [beq_iff_eq]; omega) w ht hr
  have zs := fun W => cutSum (some ad) n c (Frm.size l) (by omega) hc W
  obtain ⟨sz, hsz⟩ : ∃ x, x = Frm.size l := ⟨_, rfl⟩
  rw [← hsz] at zg h4 h5 zw zr zs
  have i4 : ¬ (200 : Int) < (sz : Int) := by omega
  have e1 : IntKind.i64.wrap (9 + (sz : Int)) = 9 + (sz : Int) := IntWalk.i64_in _ (by omega)
  have e2 : IntKind.i64.wrap (5 + (sz : Int)) = 5 + (sz : Int) := IntWalk.i64_in _ (by omega)
  have i5 : ((n : Int) != 9 + (sz : Int)) = false := by rw [bne_eq_false_iff_eq]; omega
  have HR := Lib.hid hr2
  clear hn hr hc h2 h3 hr2 hsz h4 h5 h6
  go_enter Tryd.func82, Tryd.ntmps82
  go_wp2
  go_step3
  go_wp2
  go_step3
  go_wp2_with (first
    | (go_at_call 68; refine zg.mono ?_; (rintro e w3 ⟨rfl, B3⟩; have D3 := Lib.hid (step_alloc B3 fz); obtain ⟨⟨a0, a1, a2, a3⟩, ⟨b0, b1, b2, b3⟩, C3⟩ := two_at w (w3.alloc fz) D3.out; have E3 := Lib.hid C3; clear C3; have R3 := Lib.hid (HR.out.step D3.out)))
    | (go_at_call 86; refine (zw _ R3.out).mono ?_; (rintro e w4 ⟨rfl, B4⟩; have D4 := Lib.hid (step_alloc (step_trans D3.out B4) fz); obtain ⟨⟨a0, a1, a2, a3⟩, ⟨b0, b1, b2, b3⟩, C4⟩ := two_at w (w4.alloc fz) D4.out; have E4 := Lib.hid C4; have R4 := Lib.hid (R3.out.step (step_alloc B4 fz)); have T4 := Lib.hid (ht.below E4.out (Nat.le_refl _)); clear C4))
    | (go_at_call 87; refine (zr _ T4.out R4.out).mono ?_; (rintro e w5 ⟨rfl, rfl⟩)))
  rw [Exit.noGoto_ret]
  refine bodyPost_ret (v := flt 0 0) (by simp [results, Tryd.results82, flt, go_sem, a0, a1]) rfl (HW.out _ ?_)
  exact (E4.out.setCell (by simp) _).setCell (by simp) _
theorem wrong_any (A : Option Addr) (l : List UInt8) (n c : Nat) (hn : l.length = n) (hc : n ≤ c) (h1 : n ≤ 1000) (w : World) (ht : TabAt w) (hr : BytesAt w w.heap.size A l) : Calls Tryd.prog 82 #[.slice A n c] w (WrongPost l w) := by
  by_cases g1 : n < 9
  · exact wrong_1 A l n c hn w g1
  by_cases g2 : l.take 2 = [84, 68]
  case neg => exact wrong_2 A l n c hn hc h1 w hr g1 g2
  by_cases g3 : l.getD 2 0 = 1
  case neg => exact wrong_3 A l n c hn hc h1 w hr g1 g2 g3
  by_cases g4 : 200 < Frm.size l
  · exact wrong_4 A l n c hn hc h1 w hr g1 g2 g3 g4
  by_cases g5 : l.length = Frm.size l + 9
  case neg => exact wrong_5 A l n c hn hc h1 w hr g1 g2 g3 g4 g5
  by_cases g6 : Crc.sum (Frm.bare l) = Frm.told l
  · exact wrong_7 A l n c hn hc h1 w ht hr g1 g2 g3 g4 g5 g6
  · exact wrong_6 A l n c hn hc h1 w ht hr g1 g2 g3 g4 g5 g6
end Go.Proofs.YtfopjilncfndnaaDoor
