/-
  The document's answers for meta (tandemref06): what they return, in the same words as package meta. Conditions: the bytes can be read.
-/
import Derived.Test.YtebicjblplkdeaaGreatDoorMa
import Derived.Test.YtebicjblplkdeaaGreatDoorFixRef
import Derived.Deep.RegionHeld3
namespace Go.Proofs.YtebicjblplkdeaaGreatDoor
open Go.RowKit Fix

theorem number_any (n : Int) (w : World) : Calls Tryz.prog 73 #[.int .i64 n] w fun e w' => e = .returned (.bool (Mt.num n)) ∧ w = w' := by
  obtain ⟨q, hq⟩ : ∃ q, q = Mt.num n := ⟨_, rfl⟩
  have HQ := Lib.hid ((Bool.eq_iff_iff.1 hq).trans (Mt.num_iff n))
  rw [← hq]
  clear hq
  go_enter Tryz.func73, Tryz.ntmps73
  go_wp2
  all_goals (go_ret; refine ⟨?_, rfl⟩; show Ending.returned (Value.bool _) = _; congr 2; rw [Bool.eq_iff_iff, HQ.out]; simp [*]; try omega)
theorem refRecord_any (a b c : Int) (w : World) : Calls Tryz.prog 74 #[.agg #[.int .i64 a, .int .i64 b, .int .i64 c]] w fun e w' => e = .returned (.bool (Mt.recB a b c)) ∧ Below w.heap.size w w' := by
  obtain ⟨q, hq⟩ : ∃ q, q = Mt.recB a b c := ⟨_, rfl⟩
  have hB : ∀ o, Below w.heap.size w (w.alloc o) := fun o => (Below.refl _ _).alloc (Nat.le_refl _) o
  have za := fun w => number_any a w
  have zb := fun w => number_any b w
  rw [← hq]
  unfold Mt.recB at hq
  generalize Mt.num a = x at za hq
  generalize Mt.num b = y at zb hq
  have HQ := Lib.hid hq
  clear hq
  go_enter Tryz.func74, Tryz.ntmps74
  go_wp2_with (go_at_call 73; first
    | ((with_reducible refine (za _).mono ?_); (rintro e w1 ⟨rfl, rfl⟩))
    | ((with_reducible refine (zb _).mono ?_); (rintro e w1 ⟨rfl, rfl⟩)))
  all_goals (go_ret; refine ⟨?_, hB _⟩; show Ending.returned (Value.bool _) = _; congr 2; rw [HQ.out]; simp [*]; try omega)
theorem boxHS (m : Mt) (w : World) : Hid (∀ w2, Below (w.alloc (.cells (mtL m).toArray 39)).heap.size (w.alloc (.cells (mtL m).toArray 39)) w2 → (w2.cell? ⟨w.heap.size, 0, none⟩ = some (.int .i64 m.t) ∧ w2.cell? ⟨w.heap.size, 1, none⟩ = some (.int .i64 m.v) ∧ w2.cell? ⟨w.heap.size, 2, none⟩ = some (.int .i64 m.rt) ∧ w2.cell? ⟨w.heap.size, 3, none⟩ = some (.int .i64 m.rn) ∧ w2.cell? ⟨w.heap.size, 4, none⟩ = some (.int .i64 m.rs) ∧ w2.cell? ⟨w.heap.size, 5, none⟩ = some (.int .i64 m.b)) ∧ Below w.heap.size w w2) := Lib.hid fun w2 h => by
  have h2 : Below (w.heap.size + 1) (w.alloc (.cells (mtL m).toArray 39)) w2 := by simpa using h
  exact ⟨(boxM m w).out w2 h2, below_box h2⟩
theorem refCheck_any (m : Mt) (w : World) : Calls Tryz.prog 50 #[.agg (mtL m).toArray] w fun e w' => e = .returned (.int .i64 m.err) ∧ Below w.heap.size w w' := by
  obtain ⟨q, hq⟩ : ∃ q, q = m.err := ⟨_, rfl⟩
  have za := fun w => number_any m.t w
  have zb := fun w => number_any m.b w
  have zr := fun w => refRecord_any m.rt m.rn m.rs w
  have S0 := boxHS m w
  rw [← hq]
  unfold Mt.err Mt.ok at hq
  generalize Mt.num m.t = x at za hq
  generalize Mt.num m.b = y at zb hq
  generalize Mt.recB m.rt m.rn m.rs = z at zr hq
  have HQ := Lib.hid hq
  clear hq
  unfold mtL
  go_enter Tryz.func50, Tryz.ntmps50
  go_wp2_with (first
    | (go_at_call 73; first
      | ((with_reducible refine (za _).mono ?_); (rintro e w1 ⟨rfl, rfl⟩))
      | ((with_reducible refine (zb _).mono ?_); (rintro e w1 ⟨rfl, rfl⟩)))
    | (go_at_call 74; ((with_reducible refine (zr _).mono ?_); (rintro e w1 ⟨rfl, B1⟩; obtain ⟨⟨y0, y1, y2, y3, y4, y5⟩, BB⟩ := S0.out w1 B1))))
  all_goals (go_ret; refine ⟨?_, by first | exact BB | exact (Below.refl _ _).alloc (Nat.le_refl _) _⟩; show Ending.returned (Value.int .i64 _) = _; congr 2; rw [HQ.out]; simp [*]; try omega)
/-- the numbers put, the first k of them -/
def pb (xs ss : List Int) (k : Nat) : List UInt8 := ((List.range k).map fun i => putB (xs.getD i 0) (ss.getD i 0)).flatten
theorem pb_succ (xs ss : List Int) (k : Nat) : pb xs ss (k + 1) = pb xs ss k ++ putB (xs.getD k 0) (ss.getD k 0) := by
  simp [pb, List.range_succ]
theorem putB_length (n s : Int) : (putB n s).length ≤ 7 := by
  unfold putB
  split
  · rename_i h
    have := (isz_iff s).1 h
    split
    · rw [dig_length]; omega
    · simp
  · simp
theorem pb_length (xs ss : List Int) : ∀ k, (pb xs ss k).length ≤ 7 * k
  | 0 => by simp [pb]
  | k + 1 => by
    rw [pb_succ, List.length_append]
    have := pb_length xs ss k
    have := putB_length (xs.getD k 0) (ss.getD k 0)
    omega
theorem pb_enc (m : Mt) (h : m.ok = true) : pb [m.t, m.v + 1, m.rt, m.rn, m.rs, m.b] [6, 1, 6, 6, 1, 6] 6 = m.enc := by
  have hok := (Mt.ok_iff m).1 h
  obtain ⟨h1, h2, h3, h4, h5, h6⟩ := hok
  rw [pb_succ, pb_succ, pb_succ, pb_succ, pb_succ, pb_succ]
  show ((((([] ++ putB m.t 6) ++ putB (m.v + 1) 1) ++ putB m.rt 6) ++ putB m.rn 6) ++ putB m.rs 1) ++ putB m.b 6 = m.enc
  rw [(put6 _ h1).1, (put1 _ (by omega)).1, (put6 _ h3).1, (put6 _ h4).1, (put1 _ h5).1, (put6 _ h6).1]
  rfl
def PutsPost (xs ss : List Int) (w : World) (e : Ending) (w' : World) : Prop :=
  ∃ A c, e = .returned (.slice A (pb xs ss 6).length c) ∧ (pb xs ss 6).length ≤ c ∧ OwnB w' w.heap.size (.slice A (pb xs ss 6).length c) (pb xs ss 6) ∧ Below w.heap.size w w'
set_option maxHeartbeats 1000000 in
theorem refPuts_any (xs ss : List Int) (hx : xs.length = 6) (hs : ss.length = 6) (hm : ∀ x ∈ xs, x ≤ 9223372036854775807) (g1 g2 : Nat) (w : World) (b1 : BlkR 3 w g1 (iv xs)) (b2 : BlkR 3 w g2 (iv ss)) :
    Calls Tryz.prog 51 #[.slice (some ⟨g1, 0, none⟩) 6 6, .slice (some ⟨g2, 0, none⟩) 6 6] w (PutsPost xs ss w) := by
  unfold PutsPost
  go_enter Tryz.func51, Tryz.ntmps51
  go_wp2
  go_loopw [5, 6] (fun v i wr => ∃ k : Nat, k ≤ 6 ∧ i = .int .i64 (k : Int) ∧ OwnB wr w.heap.size v (pb xs ss k) ∧ Below w.heap.size w wr) (fun _ i _ => 6 - (intOf i).toNat)
  case atStart => exact ⟨0, Nat.zero_le _, rfl, OwnB.nil_, Below.refl _ _⟩
  case round =>
    obtain ⟨k, hk, rfl, hown, hbel⟩ := hrel
    by_cases hk6 : k < 6
    · have c1 := (b1.go hbel).cell (iv_get xs k (by omega))
      have c2 := (b2.go hbel).cell (iv_get ss k (by omega))
      have hn : xs.getD k 0 ≤ 9223372036854775807 := by
        rw [List.getD_eq_getElem?_getD, List.getElem?_eq_getElem (by omega)]
        exact hm _ (List.getElem_mem _)
      have hl := pb_length xs ss k
      have hl2 := putB_length (xs.getD k 0) (ss.getD k 0)
      have hps := pb_succ xs ss k
      obtain ⟨x, hxx⟩ : ∃ x, x = xs.getD k 0 := ⟨_, rfl⟩
      obtain ⟨s, hss⟩ : ∃ s, s = ss.getD k 0 := ⟨_, rfl⟩
      rw [← hxx] at c1 hn hl2 hps
      rw [← hss] at c2 hl2 hps
      obtain ⟨L, hL⟩ : ∃ L, L = pb xs ss k := ⟨_, rfl⟩
      rw [← hL] at hown hl hps
      have hps := Lib.hid hps
      have zp := fun w => refPut_any x s w hn
      unfold PutPost at zp
      clear hxx hss hL
      go_wp2
      go_region_held3 (fun w' => w'.cell? ⟨g1, k, none⟩ = some (.int .i64 x) ∧ w'.cell? ⟨g2, k, none⟩ = some (.int .i64 s)) (first | assumption | exact ⟨c1, c2⟩ | exact ⟨d1, d2⟩) (first
        | (go_at_call 60; refine (zp _).mono ?_; (rintro e w2 ⟨A2, c2', rfl, hc2, o2, B2⟩; have B2 := undrew B2; have d1 : w2.cell? ⟨g1, k, none⟩ = some (.int .i64 x) := (B2.cell (b1.go hbel).lt).trans c1; have d2 : w2.cell? ⟨g2, k, none⟩ = some (.int .i64 s) := (B2.cell (b2.go hbel).lt).trans c2)))
      have ho2 := hown.below B2
      have B02 := hbel.trans (B2.mono hbel.size)
      go_wp2_with (at_builtin; refine wpList_appendB rfl (.tmp 27) (.tmp 28) 32 rfl rfl w.heap.size _ L rfl ho2 A2 (putB x s) (putB x s).length c2' w2.heap.size rfl rfl o2 (by omega) B02.size ?_; (intro v' w' ho hg hat; have B06 := B02.grown hg B02.size (fun j hj => (ho2.lt j hj).1)))
      go_roundw
      case rel => exact ⟨k + 1, by omega, by go_num, by rw [hps.out]; exact ho, B06⟩
      case measure => simp [intOf]; omega
    · obtain rfl : k = 6 := by omega
      obtain ⟨A, c, rfl, hlc⟩ := hown.form
      go_wp2
      go_ret
      exact ⟨A, c, rfl, hlc, hown, hbel⟩
/-- two slices of numbers, as the document's answer builds them -/
def sl6 (a b c d e f : Int) : Obj := .cells #[.int .i64 a, .int .i64 b, .int .i64 c, .int .i64 d, .int .i64 e, .int .i64 f] 3
def MtRb (m : Mt) (w : World) (e : Ending) (w' : World) : Prop :=
  ∃ A c, e = .returned (.tuple #[.slice A m.bytes.length c, .int .i64 m.err]) ∧ m.bytes.length ≤ c ∧ OwnB w' w.heap.size (.slice A m.bytes.length c) m.bytes ∧ Below w.heap.size w w'
theorem refBytes6_any (m : Mt) (w : World) : Calls Tryz.prog 21 #[.agg (mtL m).toArray] w (MtRb m w) := by
  have zc := fun w => refCheck_any m w
  have S0 := boxHS m w
  unfold MtRb
  cases hk : m.ok with
  | false =>
    rw [Mt.err_no hk] at zc ⊢
    rw [show m.bytes = [] by unfold Mt.bytes; rw [hk]; rfl]
    clear hk
    unfold mtL at zc ⊢
    go_enter Tryz.func21, Tryz.ntmps21
    go_wp2_with (first
      | (go_at_call 50; refine (zc _).mono ?_; (rintro e w2 ⟨rfl, B2⟩; have BB := (S0.out w2 B2).2)))
    go_ret2
    exact ⟨none, 0, rfl, Nat.zero_le _, OwnB.nil_, BB⟩
  | true =>
    have e1 : IntKind.i64.wrap (m.v + 1) = m.v + 1 := by
      have := (Mt.ok_iff m).1 hk
      exact IntWalk.i64_in _ (by omega)
    rw [Mt.err_ok hk] at zc ⊢
    rw [show m.bytes = m.enc by unfold Mt.bytes; rw [hk]; rfl]
    have zp : ∀ w2 : World, Calls Tryz.prog 51 #[.slice (some ⟨w2.heap.size, 0, none⟩) 6 6, .slice (some ⟨w2.heap.size + 1, 0, none⟩) 6 6] ((w2.alloc (sl6 m.t (m.v + 1) m.rt m.rn m.rs m.b)).alloc (sl6 6 1 6 6 1 6)) (fun e w' => ∃ A c, e = .returned (.slice A 26 c) ∧ 26 ≤ c ∧ OwnB w' w2.heap.size (.slice A 26 c) m.enc ∧ Below w2.heap.size w2 w') := fun w2 => by
      have b1 := (BlkR.new w2 (iv [m.t, m.v + 1, m.rt, m.rn, m.rs, m.b]) 3).go ((Below.refl _ _).alloc (Nat.le_refl _) (sl6 6 1 6 6 1 6))
      have b2 := BlkR.new (w2.alloc (sl6 m.t (m.v + 1) m.rt m.rn m.rs m.b)) (iv [6, 1, 6, 6, 1, 6]) 3
      rw [World.size_alloc] at b2
      have hok := (Mt.ok_iff m).1 hk
      have z := refPuts_any [m.t, m.v + 1, m.rt, m.rn, m.rs, m.b] [6, 1, 6, 6, 1, 6] rfl rfl (by simp; omega) w2.heap.size (w2.heap.size + 1) _ b1 b2
      refine z.mono fun e w' => ?_
      unfold PutsPost
      rw [pb_enc m hk, Mt.enc_length]
      rintro ⟨A, c, rfl, h1, h2, h3⟩
      have B0 : Below w2.heap.size w2 ((w2.alloc (sl6 m.t (m.v + 1) m.rt m.rn m.rs m.b)).alloc (sl6 6 1 6 6 1 6)) := ((Below.refl _ _).alloc (Nat.le_refl _) _).alloc (by simp) _
      refine ⟨A, c, rfl, h1, ?_, B0.trans (h3.mono B0.size)⟩
      refine ⟨h2.1, ?_⟩
      rcases h2.2 with h | ⟨g, cap, cur, q1, q2, q3⟩
      · exact .inl h
      · exact .inr ⟨g, cap, cur, q1, Nat.le_trans B0.size q2, q3⟩
    unfold sl6 at zp
    clear hk
    unfold mtL at zc ⊢
    go_enter Tryz.func21, Tryz.ntmps21
    go_wp2_with (first
      | (go_at_call 50; refine (zc _).mono ?_; (rintro e w2 ⟨rfl, B2⟩; obtain ⟨⟨y0, y1, y2, y3, y4, y5⟩, BB⟩ := S0.out w2 B2))
      | (go_at_call 51; refine (zp w2).mono ?_; (rintro e w3 ⟨A, c, rfl, hc, ho, B3⟩)))
    go_ret2
    have hl := m.enc_length
    rw [hl]
    refine ⟨A, c, rfl, hc, ?_, BB.trans (B3.mono BB.size)⟩
    refine ⟨ho.1, ?_⟩
    rcases ho.2 with h | ⟨g, cap, cur, q1, q2, q3⟩
    · exact .inl h
    · exact .inr ⟨g, cap, cur, q1, Nat.le_trans BB.size q2, q3⟩

end Go.Proofs.YtebicjblplkdeaaGreatDoor
