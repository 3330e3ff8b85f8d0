/-
  Package frame: Put and Get, each by one contract. Conditions: the table of crc lies as the program's text lays it; the bytes can be read.
-/
import Derived.Test.YtfopjilncfndnaaDoorCloneB
import Derived.Test.YtfopjilncfndnaaDoorFrWrong
import Derived.Lib.SmallJoins
namespace Go.Proofs.YtfopjilncfndnaaDoor
open Go.RowKit Fix

theorem lists_new (w : World) (vs : List Value) (ls : List (List UInt8)) (hl : vs.length = ls.length) (h : ∀ j, j < ls.length → ∃ A c, vs[j]? = some (.slice A (ls.getD j []).length c) ∧ BytesAt w w.heap.size A (ls.getD j [])) :
    ListsAt (w.alloc (.cells vs.toArray 39)) w.heap.size vs ls :=
  ⟨BlkR.new w vs _, hl, fun j hj => by
    obtain ⟨A, c, h1, h2⟩ := h j hj
    exact ⟨A, c, h1, h2.stepA _⟩⟩
abbrev head_vs (g : Nat) (A1 : Option Addr) (c1 : Nat) (P : Option Addr) (n c : Nat) : List Value := [.slice (some ⟨g, 0, none⟩) 2 2, .slice (some ⟨g + 1, 0, none⟩) 1 1, .slice A1 2 c1, .slice P n c]
abbrev head_w (w1 : World) : World := (w1.alloc (.cells #[.int .u8 84, .int .u8 68] 5 (2, 3))).alloc (.cells #[.int .u8 1] 5)
theorem head_below (w1 : World) : Below w1.heap.size w1 (head_w w1) := step_alloc (step_alloc (Below.refl _ w1) _) _
theorem head_lists (w1 : World) (A1 : Option Addr) (c1 : Nat) (P : Option Addr) (p : List UInt8) (n c : Nat) (hn : p.length = n) (h1 : BytesAt w1 w1.heap.size A1 (dig n 2)) (h2 : BytesAt w1 w1.heap.size P p) :
    ListsAt ((head_w w1).alloc (.cells (head_vs w1.heap.size A1 c1 P n c).toArray 39)) (w1.heap.size + 1 + 1) (head_vs w1.heap.size A1 c1 P n c) [[84, 68], [1], dig n 2, p] := by
  have e : (head_w w1).heap.size = w1.heap.size + 1 + 1 := by simp [head_w]
  have hb := head_below w1
  have b0 : BytesAt (head_w w1) (head_w w1).heap.size (some ⟨w1.heap.size, 0, none⟩) [84, 68] := by
    have := (bytes_new w1 [84, 68] 5 (2, 3)).alloc (by simp) (.cells #[.int .u8 1] 5)
    exact this.more (by rw [e]; omega)
  have b1 : BytesAt (head_w w1) (head_w w1).heap.size (some ⟨w1.heap.size + 1, 0, none⟩) [1] := by
    have := bytes_new (w1.alloc (.cells #[.int .u8 84, .int .u8 68] 5 (2, 3))) [1] 5 (0, 0)
    rw [show (w1.alloc (.cells #[.int .u8 84, .int .u8 68] 5 (2, 3))).heap.size = w1.heap.size + 1 by simp] at this
    exact this.more (by rw [e]; omega)
  rw [← e]
  refine lists_new _ _ _ rfl fun j hj => ?_
  have hd := dig_length n 2
  rcases j with _ | _ | _ | _ | j
  · exact ⟨_, _, rfl, b0⟩
  · exact ⟨_, _, rfl, b1⟩
  · exact ⟨A1, c1, by show some _ = some _; rw [show ([[84, 68], [1], dig n 2, p] : List (List UInt8)).getD 2 [] = dig n 2 from rfl, hd], h1.step hb⟩
  · exact ⟨P, c, by show some _ = some _; rw [show ([[84, 68], [1], dig n 2, p] : List (List UInt8)).getD 3 [] = p from rfl, hn], h2.step hb⟩
  · exact absurd hj (by simp)
abbrev two_vs (A : Option Addr) (n c : Nat) (B : Option Addr) (m d : Nat) : List Value := [.slice A n c, .slice B m d]
theorem two_lists (w : World) (A : Option Addr) (l : List UInt8) (n c : Nat) (hn : l.length = n) (B : Option Addr) (k : List UInt8) (m d : Nat) (hm : k.length = m) (h1 : BytesAt w w.heap.size A l) (h2 : BytesAt w w.heap.size B k) :
    ListsAt (w.alloc (.cells (two_vs A n c B m d).toArray 39)) w.heap.size (two_vs A n c B m d) [l, k] := by
  refine lists_new _ _ _ rfl fun j hj => ?_
  subst hn hm
  rcases j with _ | _ | j
  · exact ⟨A, c, rfl, h1⟩
  · exact ⟨B, d, rfl, h2⟩
  · exact absurd hj (by simp)
def FrPutPost (p : List UInt8) (w : World) (e : Ending) (w' : World) : Prop :=
  ∃ A c, e = .returned (.tuple #[.slice A (Frm.putB p).length c, .int .i64 (Frm.putE p)]) ∧ c ≤ 9223372036854775807 ∧ OwnZ w' w.heap.size (.slice A (Frm.putB p).length c) (Frm.putB p) ∧ Below w.heap.size w w'
theorem frput_long (P : Option Addr) (p : List UInt8) (n c : Nat) (hn : p.length = n) (w : World) (h : 200 < n) : Calls Tryd.prog 66 #[.slice P n c] w (FrPutPost p w) := by
  have e1 : Frm.putB p = [] := by unfold Frm.putB; rw [if_neg (by omega)]
  have e2 : Frm.putE p = 3 := by unfold Frm.putE; rw [if_neg (by omega)]
  have HP := Lib.hid (show FrPutPost p w (.returned (.tuple #[.slice none 0 0, .int .i64 3])) w from ⟨none, 0, by rw [e1, e2]; rfl, by decide, by rw [e1]; exact OwnZ.nil_, Below.refl _ _⟩)
  have i1 : (200 : Int) < (n : Int) := by omega
  clear hn h e1 e2
  go_enter Tryd.func66, Tryd.ntmps66
  go_wp2
  go_ret2
  exact HP.out
set_option maxRecDepth 100000 in
set_option maxHeartbeats 1000000 in
theorem frput_good (P : Option Addr) (p : List UInt8) (n c : Nat) (hn : p.length = n) (w : World) (ht : TabAt w) (hr : BytesAt w w.heap.size P p) (h : n ≤ 200) : Calls Tryd.prog 66 #[.slice P n c] w (FrPutPost p w) := by
  have e1 : Frm.putB p = Frm.enc p := by unfold Frm.putB; rw [if_pos (by omega)]
  have e2 : Frm.putE p = 0 := by unfold Frm.putE; rw [if_pos (by omega)]
  have zp := put_any (n : Int) 2 w (by omega)
  have p1 := putBE_good (n : Int) 2 (by decide) (by rw [fitsB_iff]; exact ⟨by omega, by show (n : Int) < 65536; omega⟩)
  unfold PutPost at zp
  rw [p1.1, p1.2, Int.toNat_natCast, show (2 : Int).toNat = 2 from rfl, dig_length] at zp
  have hbody : ([[84, 68], [1], dig n 2, p] : List (List UInt8)).flatten = Frm.body p := by
    simp only [List.flatten_cons, List.flatten_nil, List.append_nil, Frm.body, Frm.head, hn, List.append_assoc]
    rfl
  have hbl : (Frm.body p).length = n + 5 := by rw [Frm.body_length, hn]
  have zj : ∀ w1 A1 c1, BytesAt w1 w1.heap.size A1 (dig n 2) → BytesAt w1 w1.heap.size P p → _ := fun w1 A1 c1 a1 a2 => join_v (w1.heap.size + 1 + 1) 4 _ _ (Frm.body p) (n + 5) ((head_w w1).alloc (.cells (head_vs w1.heap.size A1 c1 P n c).toArray 39)) rfl (by decide) (head_lists w1 A1 c1 P p n c hn a1 a2) hbody hbl (by omega)
  have zs := fun w1 A1 c1 t1 a1 => sum_n A1 (Frm.body p) (n + 5) c1 hbl w1.heap.size w1 t1 (by rw [hbl]; omega) a1
  have zw := fun w1 => word_any (Crc.sum (Frm.body p)) (Crc.sum_lt _) w1
  unfold LayPost at zw
  have henc : ([Frm.body p, dig (Crc.sum (Frm.body p)) 4] : List (List UInt8)).flatten = Frm.enc p := by simp [Frm.enc]
  have zk : ∀ w1 A1 c1 B d, BytesAt w1 w1.heap.size A1 (Frm.body p) → BytesAt w1 w1.heap.size B (dig (Crc.sum (Frm.body p)) 4) → _ := fun w1 A1 c1 B d a1 a2 => join_v w1.heap.size 2 _ _ (Frm.enc p) (n + 9) (w1.alloc (.cells (two_vs A1 (n + 5) c1 B 4 d).toArray 39)) rfl (by decide) (two_lists w1 A1 (Frm.body p) (n + 5) c1 hbl B _ 4 d (dig_length _ _) a1 a2) henc (by rw [Frm.enc_length, hn]) (by omega)
  unfold JoinPost at zj zk
  have HE := Lib.hid (And.intro e1 (And.intro e2 (show (Frm.enc p).length = n + 9 by rw [Frm.enc_length, hn])))
  have kc := fun (w : World) (C : Array Value) (n c g : Nat) (hg : g = w.heap.size) => Go.Joins.run_convert_bytes_const_at (P := Tryd.prog) w 39 5 C n c g hg Tryd.underlying39 Tryd.underlying5
  have i1 : ¬ (200 : Int) < (n : Int) := by omega
  obtain ⟨b, hb⟩ : ∃ b, b = Frm.body p := ⟨_, rfl⟩
  rw [← hb] at zj zs zw zk
  obtain ⟨x, hx⟩ : ∃ x, x = Frm.enc p := ⟨_, rfl⟩
  rw [← hx] at zk HE
  clear e1 e2 p1 hbody hbl henc hb hn hx h
  go_enter Tryd.func66, Tryd.ntmps66
  go_wp2_with (first
    | (go_at_call 64; refine zp.mono ?_; (rintro e w1 ⟨A1, c1, rfl, hc1, b1, B1⟩; have r1 := hr.step B1; have t1 := ht.below B1 (Nat.le_refl _)))
    | (go_at_call 79; first
      | ((with_reducible refine (zj w1 A1 c1 b1 r1).mono ?_); (rintro e w2 ⟨A2, c2, rfl, hc2, o2, B2⟩; have C2 := step_trans (step_alloc (head_below w1) _) B2; have t2 := t1.below C2 (Nat.le_refl _)))
      | ((with_reducible refine (zk w3 A2 c2 _ _ b3 bw).mono ?_); (rintro e w4 ⟨A4, c4, rfl, hc4, o4, B4⟩; have C4 := step_trans (step_trans (step_trans B1 C2) (step_alloc B3 _)) B4)))
    | (go_at_call 81; (with_reducible refine (zs w2 A2 c2 t2 o2.own.bytes).mono ?_); (rintro e w5 ⟨rfl, rfl⟩))
    | (go_at_call 80; (with_reducible refine (zw w2).mono ?_); (rintro e w3 ⟨g3, rfl, hg3, k3, B3⟩; have b3 := o2.own.bytes.step B3; have bw : BytesAt w3 w3.heap.size (some ⟨g3, 0, none⟩) (dig (Crc.sum b) 4) := k3.at_)))
  go_ret2
  refine ⟨A4, c4, by rw [HE.out.1, HE.out.2.1, HE.out.2.2]; rfl, hc4, ?_, C4⟩
  rw [HE.out.1, HE.out.2.2]
  exact o4.less (by have := B1.size; have := C2.size; have := B3.size; simp; omega)
theorem frput_any (P : Option Addr) (p : List UInt8) (n c : Nat) (hn : p.length = n) (w : World) (ht : TabAt w) (hr : BytesAt w w.heap.size P p) : Calls Tryd.prog 66 #[.slice P n c] w (FrPutPost p w) := by
  by_cases h : 200 < n
  · exact frput_long P p n c hn w h
  · exact frput_good P p n c hn w ht hr (by omega)
def FrGetPost (l : List UInt8) (w : World) (e : Ending) (w' : World) : Prop :=
  ∃ A c, e = .returned (.tuple #[.slice A (Frm.getB l).length c, flt (Frm.wrongE l) (Frm.wrongA l)]) ∧ c ≤ 9223372036854775807 ∧ Whole w' w.heap.size A c (Frm.getB l) ∧ Below w.heap.size w w'
/-- the result's block, and the fault's, behind the look -/
theorem get_at (w w2 : World) (B : Below (w.alloc fz).heap.size (w.alloc fz) w2) (e a : Int) (w' : World) (B' : Below (w2.alloc (.cells #[.int .i64 e, .int .i64 a] 111)).heap.size (w2.alloc (.cells #[.int .i64 e, .int .i64 a] 111)) w') :
    (w'.cell? ⟨w2.heap.size, 0, none⟩ = some (.int .i64 e) ∧ w'.cell? ⟨w2.heap.size, 1, none⟩ = some (.int .i64 a)) ∧
    (w'.cell? ⟨w.heap.size, 0, none⟩ = some (.int .i64 0) ∧ w'.cell? ⟨w.heap.size, 1, none⟩ = some (.int .i64 0) ∧ w'.frozen? ⟨w.heap.size, 0, none⟩ = false ∧ w'.frozen? ⟨w.heap.size, 1, none⟩ = false) ∧ Below w.heap.size w w' := by
  have h0 : (w.alloc fz).heap[w.heap.size]? = some fz := heap_alloc_new w _
  have hs : w.heap.size < w2.heap.size := by have := B.size; simp at this; omega
  have h1 := (B.block w.heap.size (by simp)).trans h0
  have h2 : (w2.alloc (.cells #[.int .i64 e, .int .i64 a] 111)).heap[w.heap.size]? = some fz := (((Below.refl w2.heap.size w2).alloc (Nat.le_refl _) _).block _ hs).trans h1
  have g0 := (B'.block w.heap.size (by simp; omega)).trans h2
  have g1 := (B'.block w2.heap.size (by simp)).trans (heap_alloc_new w2 _)
  have BB : Below w.heap.size w w' := ((((Below.refl _ w).alloc (Nat.le_refl _) fz).trans (B.mono (by simp))).alloc (by omega) _).trans (B'.mono (by simp; omega))
  refine ⟨⟨?_, ?_⟩, ⟨?_, ?_, ?_, ?_⟩, BB⟩ <;> first | (simp [World.cell?, g0]; done) | (simp [World.cell?, g1]; done) | (simp [World.frozen?, g0]; done)
set_option maxRecDepth 100000 in
set_option maxHeartbeats 1000000 in
theorem frget_bad (A : Option Addr) (l : List UInt8) (n c : Nat) (hn : l.length = n) (hc : n ≤ c) (h1 : n ≤ 1000) (w : World) (ht : TabAt w) (hr : BytesAt w w.heap.size A l) (h : Frm.wrongE l ≠ 0) : Calls Tryd.prog 67 #[.slice A n c] w (FrGetPost l w) := by
  have z := wrong_any A l n c hn hc h1 (w.alloc fz) (ht.alloc _) (hr.stepA fz)
  unfold WrongPost flt at z
  have eb : Frm.getB l = [] := by unfold Frm.getB; rw [if_neg h]
  have HP := Lib.hid (fun (w' : World) (B : Below w.heap.size w w') => show FrGetPost l w (.returned (.tuple #[.slice none 0 0, flt (Frm.wrongE l) (Frm.wrongA l)])) w' from ⟨none, 0, by rw [eb]; rfl, by decide, by rw [eb]; exact Whole.none_, B⟩)
  obtain ⟨e, he⟩ : ∃ e, e = Frm.wrongE l := ⟨_, rfl⟩
  obtain ⟨a, ha⟩ : ∃ a, a = Frm.wrongA l := ⟨_, rfl⟩
  rw [← he, ← ha] at z HP
  rw [← he] at h
  have hne : (e != 0) = true := by simpa using h
  clear he ha h hn hc h1 ht hr eb
  go_enter Tryd.func67, Tryd.ntmps67
  go_wp2_with (go_at_call 82; refine z.mono ?_; (rintro e w2 ⟨rfl, B2⟩; obtain ⟨⟨c0, c1⟩, ⟨d0, d1, f0, f1⟩, BB⟩ := get_at w w2 B2 e a _ (Below.refl _ _)))
  obtain ⟨g, hg⟩ : ∃ g, g = w2.heap.size := ⟨_, rfl⟩
  obtain ⟨w3, hw3⟩ : ∃ x, x = w2.alloc (.cells #[.int .i64 e, .int .i64 a] 111) := ⟨_, rfl⟩
  obtain ⟨q, hq⟩ : ∃ q, q = w.heap.size := ⟨_, rfl⟩
  rw [← hw3] at c0 c1 d0 d1 f0 f1 BB ⊢
  rw [← hg] at c0 c1 ⊢
  rw [← hq] at d0 d1 f0 f1 ⊢
  have HQ := Lib.hid (And.intro hq BB)
  clear hq hw3 hg BB B2 z
  go_region
  go_wp2
  refine bodyPost_ret (v := .tuple #[.slice none 0 0, flt e a]) (by simp [results, Tryd.results67, flt, go_sem, d0, d1]) rfl (HP.out _ ?_)
  obtain ⟨hq, BB⟩ := HQ.out
  exact ((BB.setCell (Nat.le_of_eq hq.symm) _).setCell (Nat.le_of_eq hq.symm) _).drew
theorem cut_pay (ad : Addr) (n c : Nat) (h9 : 9 ≤ n) (hc : n ≤ c) (W : World) : (Instr.slice 39 (.slice (some ad) n c) (some (.int .i64 5)) (some (.int .i64 ((n : Int) - 4))) none).run Tryd.prog W = .ok (.slice (some (ad.add 5)) (n - 9) (c - 5)) W := by
  have := cut_both (some ad) n c 5 (n - 9) (by omega) W
  rwa [show cutA (some ad) 5 c = some (ad.add 5) by unfold cutA; rw [if_neg (by omega)]; rfl, show ((5 : Nat) : Int) = 5 from rfl, show (5 : Int) + ((n - 9 : Nat) : Int) = (n : Int) - 4 by omega] at this
theorem pay_at {w : World} {ad : Addr} {l : List UInt8} (n c : Nat) (hn : l.length = n) (h9 : 9 ≤ n) (hc : n ≤ c) (h : BytesAt w w.heap.size (some ad) l) : BytesAt w w.heap.size (some (ad.add 5)) (Frm.pay l) := by
  have := (h.drop 5 c (by omega)).take (l.length - 9)
  rwa [show cutA (some ad) 5 c = some (ad.add 5) by unfold cutA; rw [if_neg (by omega)]; rfl] at this
set_option maxRecDepth 100000 in
set_option maxHeartbeats 1000000 in
theorem frget_good (A : Option Addr) (l : List UInt8) (n c : Nat) (hn : l.length = n) (hc : n ≤ c) (h1 : n ≤ 1000) (w : World) (ht : TabAt w) (hr : BytesAt w w.heap.size A l) (h : Frm.wrongE l = 0) : Calls Tryd.prog 67 #[.slice A n c] w (FrGetPost l w) := by
  have h9 : 9 ≤ n := by have := (Frm.right_inv h).1; omega
  obtain ⟨ad, rfl⟩ := some_addr hn h9 hr
  have z := wrong_any (some ad) l n c hn hc h1 (w.alloc fz) (ht.alloc _) (hr.stepA fz)
  unfold WrongPost flt at z
  rw [h, Frm.right_A h] at z
  have eb : Frm.getB l = Frm.pay l := by unfold Frm.getB; rw [if_pos h]
  have hk : (Frm.pay l).length = n - 9 := by unfold Frm.pay; rw [List.length_take, List.length_drop]; omega
  have HP := Lib.hid (fun (A : Option Addr) (c : Nat) (w' : World) (hc : c ≤ 9223372036854775807) (hW : Whole w' w.heap.size A c (Frm.pay l)) (B : Below w.heap.size w w') => show FrGetPost l w (.returned (.tuple #[.slice A (n - 9) c, flt 0 0])) w' from ⟨A, c, by rw [eb, hk, h, Frm.right_A h], hc, by rw [eb]; exact hW, B⟩)
  have qc := fun W => cut_pay ad n c h9 hc W
  have zc := fun w hr => clone_any (Frm.pay l) (ad.add 5) (n - 9) (c - 5) hk (by omega) w (pay_at n c hn h9 hc hr)
  unfold ClonePost at zc
  have e1 : IntKind.i64.wrap ((n : Int) - 4) = (n : Int) - 4 := IntWalk.i64_in _ (by omega)
  have HR := Lib.hid (hr.stepA fz)
  obtain ⟨k, hk0⟩ : ∃ k, k = n - 9 := ⟨_, rfl⟩
  obtain ⟨p, hp0⟩ : ∃ p, p = Frm.pay l := ⟨_, rfl⟩
  rw [← hk0] at qc zc HP
  rw [← hp0] at zc HP
  clear hk0 hp0 hk eb h hn hc h1 ht hr
  go_enter Tryd.func67, Tryd.ntmps67
  go_wp2_with (first
    | (go_at_call 82; refine z.mono ?_; (rintro e w2 ⟨rfl, B2⟩; obtain ⟨⟨c0, c1⟩, _, _⟩ := get_at w w2 B2 0 0 _ (Below.refl _ _); have G2 := Lib.hid (get_at w w2 B2 0 0); have R2 := Lib.hid ((HR.out.step B2).stepA (.cells #[.int .i64 0, .int .i64 0] 111))))
    | (go_at_call 35; refine (zc _ R2.out).mono ?_; (rintro e w3 ⟨A3, c3, rfl, hc3, o3, B3⟩; obtain ⟨_, ⟨d0, d1, f0, f1⟩, BB⟩ := G2.out w3 B3; have HB := Lib.hid (And.intro o3 (And.intro BB B2.size)); clear BB o3)))
  refine bodyPost_ret (v := .tuple #[.slice A3 k c3, flt 0 0]) (by simp [results, Tryd.results67, flt, go_sem, d0, d1]) rfl (HP.out A3 c3 _ hc3 ?_ ((HB.out.2.1.setCell (Nat.le_refl _) _).setCell (Nat.le_refl _) _))
  obtain ⟨o3, BB, hs⟩ := HB.out
  have hs1 : w.heap.size < w2.heap.size := by simp at hs; omega
  have hF : Frame (fun x => x = w.heap.size) w3 ((w3.setCell ⟨w.heap.size, 0, none⟩ (.int .i64 0)).setCell ⟨w.heap.size, 1, none⟩ (.int .i64 0)) := ((Frame.refl (fun x => x = w.heap.size) w3).setAt ⟨w.heap.size, 0, none⟩ _ rfl).setAt ⟨w.heap.size, 1, none⟩ _ rfl
  exact (o3.frame hF (fun x hx => by rw [hx]; simp; omega)).less (by simp; omega)
theorem frget_any (A : Option Addr) (l : List UInt8) (n c : Nat) (hn : l.length = n) (hc : n ≤ c) (h1 : n ≤ 1000) (w : World) (ht : TabAt w) (hr : BytesAt w w.heap.size A l) : Calls Tryd.prog 67 #[.slice A n c] w (FrGetPost l w) := by
  by_cases h : Frm.wrongE l = 0
  · exact frget_good A l n c hn hc h1 w ht hr h
  · exact frget_bad A l n c hn hc h1 w ht hr h
end Go.Proofs.YtfopjilncfndnaaDoor
