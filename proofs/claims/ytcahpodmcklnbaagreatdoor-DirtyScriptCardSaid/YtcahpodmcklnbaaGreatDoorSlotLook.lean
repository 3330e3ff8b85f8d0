/-
  tandemref05.look, over the document's own disk. Conditions: none.
-/
import Derived.Test.YtcahpodmcklnbaaGreatDoorSlotRead
import Derived.Test.YtcahpodmcklnbaaGreatDoorMi
namespace Go.Proofs.YtcahpodmcklnbaaGreatDoor
open Go.RowKit Fix

def twoV (ni : Int) (tn : Nat) (A : Option Addr) (tl c : Nat) (nb : Bool) : Value := .agg #[.int .i64 ni, .int .i64 (tn : Int), .slice A tl c, .bool nb]
def LkPost (ni : Int) (tn : Nat) (tb : List UInt8) (nb : Bool) (x : Int) (w : World) (e : Ending) (w' : World) : Prop :=
  ∃ A c, e = .returned (.tuple #[twoV ni tn A tb.length c nb, .int .i64 x]) ∧ tb.length ≤ c ∧ BytesAt w' w'.heap.size A tb ∧ (∀ ad, A = some ad → tb ≠ [] → w.heap.size ≤ ad.block) ∧ Below w.heap.size w w'
theorem readB_len (S : DS) (h : S.Ok) (i : Int) (he : S.readE i = 0) : (S.readB i).length = 64 := by
  unfold DS.readE at he
  unfold DS.readB
  split at he
  · cases he
  · rename_i ho
    split at he
    · cases he
    · rename_i ht
      rw [if_neg ho, if_neg ht]
      have hi := (S.there_iff i).1 (by simpa using ht)
      unfold DS.last
      cases hl : S.loose i.toNat with
      | none => exact h.firm _ (by omega)
      | some b => exact (h.loose _ _ hl).2
set_option maxRecDepth 100000 in
set_option maxHeartbeats 4000000 in
theorem mLook_no (w : World) (b : Nat) (F : Nat → Prop) (S : DS) (at_ : Int) (h : Mir w b F S) (h1 : -9223372036854775808 ≤ at_) (h2 : at_ ≤ 1000000) (hx : Slot.lookE S at_ ≠ 0) :
    Calls Tryz.prog 34 #[.pointer (some ⟨b, 0, none⟩), .int .i64 at_] w (LkPost 0 0 [] false (Slot.lookE S at_) w) := by
  obtain ⟨x, hxe⟩ : ∃ x, x = Slot.lookE S at_ := ⟨_, rfl⟩
  rw [← hxe] at hx ⊢
  have B1 : Below w.heap.size w (w.alloc (.cells #[.int .i64 0, .int .i64 0, .slice none 0 0, .bool false] 91)) := (Below.refl _ _).alloc (Nat.le_refl _) _
  have b1 : BlkR 91 (w.alloc (.cells #[.int .i64 0, .int .i64 0, .slice none 0 0, .bool false] 91)) w.heap.size [.int .i64 0, .int .i64 0, .slice none 0 0, .bool false] := BlkR.new w _ _
  have hm1 := h.step B1
  have hw : IntKind.i64.wrap (at_ + 1) = at_ + 1 := IntWalk.i64_in _ (by omega)
  have kc : ∀ w2, Below (w.alloc (.cells #[.int .i64 0, .int .i64 0, .slice none 0 0, .bool false] 91)).heap.size (w.alloc (.cells #[.int .i64 0, .int .i64 0, .slice none 0 0, .bool false] 91)) w2 →
      (w2.cell? ⟨w.heap.size, 0, none⟩ = some (.int .i64 0) ∧ w2.cell? ⟨w.heap.size, 1, none⟩ = some (.int .i64 0) ∧ w2.cell? ⟨w.heap.size, 2, none⟩ = some (.slice none 0 0) ∧ w2.cell? ⟨w.heap.size, 3, none⟩ = some (.bool false)) ∧
      (w2.frozen? ⟨w.heap.size, 0, none⟩ = false ∧ w2.frozen? ⟨w.heap.size, 1, none⟩ = false ∧ w2.frozen? ⟨w.heap.size, 2, none⟩ = false ∧ w2.frozen? ⟨w.heap.size, 3, none⟩ = false) := fun w2 hB => by
    have b2 := BlkR.step b1 hB
    exact ⟨⟨b2.cell rfl, b2.cell rfl, b2.cell rfl, b2.cell rfl⟩, b2.frozen 0, b2.frozen 1, b2.frozen 2, b2.frozen 3⟩
  replace kc := Lib.hid kc
  replace b1 := Lib.hid b1
  by_cases he : S.readE at_ = 0
  · have hxe2 : x = S.readE (at_ + 1) := by rw [hxe]; unfold Slot.lookE; rw [if_pos he]
    have hne : (x != 0) = true := by simpa using hx
    have z1 := mRead _ b F S at_ hm1
    rw [he] at z1
    have z2 := fun w2 h2 => mRead w2 b F S (at_ + 1) h2
    rw [← hxe2] at z2
    have HM := Lib.hid hm1
    clear h hm1 hx hxe hxe2 he
    go_enter Tryz.func34, Tryz.ntmps34
    go_wp2_with (go_at_call 49; first
      | ((with_reducible refine (z2 w2 hm2.out).mono ?_); (rintro e w3 ⟨A3, c3, rfl, ho3, B3⟩; clear ho3; obtain ⟨⟨k0, k1, k2, k3⟩, f0, f1, f2, f3⟩ := kc.out w3 (step_trans B2 B3)))
      | (refine z1.mono ?_; (rintro e w2 ⟨A2, c2, rfl, ho2, B2⟩; clear ho2; have hm2 := Lib.hid (HM.out.step B2))))
    refine bodyPost_ret (v := .tuple #[twoV 0 0 none 0 0 false, .int .i64 x]) (by simp [results, Tryz.results34, twoV, go_sem, k0, k1, k2, k3]) rfl ⟨none, 0, rfl, Nat.le_refl _, bytes_nil, (fun ad e => by cases e), ?_⟩
    exact ((((step_trans B1 (step_trans B2 B3)).setCell (p := ⟨w.heap.size, 0, none⟩) (Nat.le_refl _) _).setCell (p := ⟨w.heap.size, 1, none⟩) (Nat.le_refl _) _).setCell (p := ⟨w.heap.size, 2, none⟩) (Nat.le_refl _) _).setCell (p := ⟨w.heap.size, 3, none⟩) (Nat.le_refl _) _
  · have hxe2 : x = S.readE at_ := by rw [hxe]; unfold Slot.lookE; rw [if_neg he]
    have hne : (x != 0) = true := by simpa using hx
    have z1 := mRead _ b F S at_ hm1
    rw [← hxe2] at z1
    clear h hm1 hx hxe hxe2 he
    go_enter Tryz.func34, Tryz.ntmps34
    go_wp2_with (go_at_call 49; refine z1.mono ?_; (rintro e w3 ⟨A2, c2, rfl, ho2, B2⟩; clear ho2; obtain ⟨⟨k0, k1, k2, k3⟩, f0, f1, f2, f3⟩ := kc.out w3 B2))
    refine bodyPost_ret (v := .tuple #[twoV 0 0 none 0 0 false, .int .i64 x]) (by simp [results, Tryz.results34, twoV, go_sem, k0, k1, k2, k3]) rfl ⟨none, 0, rfl, Nat.le_refl _, bytes_nil, (fun ad e => by cases e), ?_⟩
    exact ((((step_trans B1 B2).setCell (p := ⟨w.heap.size, 0, none⟩) (Nat.le_refl _) _).setCell (p := ⟨w.heap.size, 1, none⟩) (Nat.le_refl _) _).setCell (p := ⟨w.heap.size, 2, none⟩) (Nat.le_refl _) _).setCell (p := ⟨w.heap.size, 3, none⟩) (Nat.le_refl _) _
set_option maxRecDepth 100000 in
theorem res_two (tmps : Array Value) (w : World) (g : Nat) (v0 v1 v2 v3 v5 : Value) (h4 : tmps.getD 4 undef = .pointer (some ⟨g, 0, none⟩)) (h5 : tmps.getD 5 undef = v5) (hb : BlkR 91 w g [v0, v1, v2, v3]) :
    Sem.run Tryz.prog (results Tryz.f34 tmps) w = .ok (.tuple #[.agg #[v0, v1, v2, v3], v5]) w := by
  have k0 := hb.cell (k := 0) rfl
  have k1 := hb.cell (k := 1) rfl
  have k2 := hb.cell (k := 2) rfl
  have k3 := hb.cell (k := 3) rfl
  have h4' : tmps[4]?.getD undef = .pointer (some ⟨g, 0, none⟩) := by simpa using h4
  have h5' : tmps[5]?.getD undef = v5 := by simpa using h5
  simp [results, Tryz.results34, h4', h5', go_sem, k0, k1, k2, k3]
theorem Frame.setC {F : Nat → Prop} {a w : World} (h : Frame F a w) (p : Addr) (v : Value) (hp : F p.block) : Frame F a (w.setCell p v) :=
  h.trans (G := fun j => j = p.block) ⟨rfl, rfl, rfl, Nat.le_of_eq (by simp [World.setCell]), fun j _ hj => Below.heap_setCell w p v j hj⟩ (fun j hj => .inl (by rw [show j = p.block from hj]; exact hp))
theorem look_fin {w w6 W : World} {g1 : Nat} {A : Option Addr} {tb : List UInt8} (hFr : Frame (fun j => j = w.heap.size ∨ j = g1) w6 W) (h1 : w.heap.size < g1) (r6 : BytesAt w6 w6.heap.size A tb) (nw : ∀ ad, A = some ad → tb ≠ [] → g1 < ad.block) (hB : Below w.heap.size w w6) :
    BytesAt W W.heap.size A tb ∧ (∀ ad, A = some ad → tb ≠ [] → w.heap.size ≤ ad.block) ∧ Below w.heap.size w W := by
  refine ⟨fun hne => ?_, fun ad e hne => by have := nw ad e hne; omega, hB.trans (hFr.below (fun j hj => by omega) hB.size)⟩
  exact hFr.bytes r6 (fun ad e => by have := nw ad e hne; omega) hne
theorem four_set {E : TypeId} {w : World} {g : Nat} {u0 u1 u2 u3 : Value} (h : BlkR E w g [u0, u1, u2, u3]) (v0 v1 v2 v3 : Value) : BlkR E ((((w.setCell ⟨g, 0, none⟩ v0).setCell ⟨g, 1, none⟩ v1).setCell ⟨g, 2, none⟩ v2).setCell ⟨g, 3, none⟩ v3) g [v0, v1, v2, v3] :=
  (((h.set_ 0 v0).set_ 1 v1).set_ 2 v2).set_ 3 v3
abbrev tw5 (w : World) (g n : Nat) (A : Option Addr) (r c : Nat) : World := ((((w.setCell ⟨g, 3, none⟩ (.bool false)).setCell ⟨g, 0, none⟩ (.int .i64 0)).setCell ⟨g, 1, none⟩ (.int .i64 (n : Int))).setCell ⟨g, 2, none⟩ (.slice A r c)).setCell ⟨g, 3, none⟩ (.bool false)
abbrev tw9 (w : World) (g n : Nat) (A : Option Addr) (r c n2 : Nat) (A2 : Option Addr) (r2 c2 : Nat) : World := ((((tw5 w g n A r c).setCell ⟨g, 0, none⟩ (.int .i64 1)).setCell ⟨g, 1, none⟩ (.int .i64 (n2 : Int))).setCell ⟨g, 2, none⟩ (.slice A2 r2 c2)).setCell ⟨g, 3, none⟩ (.bool false)
theorem twice_facts {w : World} {g g1 : Nat} {u0 u1 u2 u3 : Value} (b6 : BlkR 91 w g1 [u0, u1, u2, u3]) (bg : BlkR 91 w g [.int .i64 0, .int .i64 0, .slice none 0 0, .bool false]) (hne : g ≠ g1) (n : Nat) (A : Option Addr) (r c n2 : Nat) (A2 : Option Addr) (r2 c2 : Nat) :
    ((tw5 w g1 n A r c).cell? ⟨g1, 0, none⟩ = some (.int .i64 0) ∧ (tw5 w g1 n A r c).cell? ⟨g1, 1, none⟩ = some (.int .i64 (n : Int)) ∧ (tw5 w g1 n A r c).cell? ⟨g1, 2, none⟩ = some (.slice A r c) ∧ (tw5 w g1 n A r c).cell? ⟨g1, 3, none⟩ = some (.bool false)) ∧
    ((tw5 w g1 n A r c).frozen? ⟨g1, 0, none⟩ = false ∧ (tw5 w g1 n A r c).frozen? ⟨g1, 1, none⟩ = false ∧ (tw5 w g1 n A r c).frozen? ⟨g1, 2, none⟩ = false ∧ (tw5 w g1 n A r c).frozen? ⟨g1, 3, none⟩ = false) ∧
    ((tw9 w g1 n A r c n2 A2 r2 c2).cell? ⟨g1, 0, none⟩ = some (.int .i64 1) ∧ (tw9 w g1 n A r c n2 A2 r2 c2).cell? ⟨g1, 1, none⟩ = some (.int .i64 (n2 : Int)) ∧ (tw9 w g1 n A r c n2 A2 r2 c2).cell? ⟨g1, 2, none⟩ = some (.slice A2 r2 c2) ∧ (tw9 w g1 n A r c n2 A2 r2 c2).cell? ⟨g1, 3, none⟩ = some (.bool false)) ∧
    ((tw9 w g1 n A r c n2 A2 r2 c2).cell? ⟨g, 0, none⟩ = some (.int .i64 0) ∧ (tw9 w g1 n A r c n2 A2 r2 c2).cell? ⟨g, 1, none⟩ = some (.int .i64 0) ∧ (tw9 w g1 n A r c n2 A2 r2 c2).cell? ⟨g, 2, none⟩ = some (.slice none 0 0) ∧ (tw9 w g1 n A r c n2 A2 r2 c2).cell? ⟨g, 3, none⟩ = some (.bool false)) ∧
    ((tw9 w g1 n A r c n2 A2 r2 c2).frozen? ⟨g, 0, none⟩ = false ∧ (tw9 w g1 n A r c n2 A2 r2 c2).frozen? ⟨g, 1, none⟩ = false ∧ (tw9 w g1 n A r c n2 A2 r2 c2).frozen? ⟨g, 2, none⟩ = false ∧ (tw9 w g1 n A r c n2 A2 r2 c2).frozen? ⟨g, 3, none⟩ = false) := by
  have b5 : BlkR 91 (tw5 w g1 n A r c) g1 [.int .i64 0, .int .i64 (n : Int), .slice A r c, .bool false] := four_set (u0 := u0) (u1 := u1) (u2 := u2) (u3 := .bool false) (b6.set_ 3 (.bool false)) _ _ _ _
  have b9 : BlkR 91 (tw9 w g1 n A r c n2 A2 r2 c2) g1 [.int .i64 1, .int .i64 (n2 : Int), .slice A2 r2 c2, .bool false] := four_set b5 _ _ _ _
  have bg9 : BlkR 91 (tw9 w g1 n A r c n2 A2 r2 c2) g [.int .i64 0, .int .i64 0, .slice none 0 0, .bool false] := by
    unfold tw9 tw5
    repeat' (first | refine BlkR.other ?_ _ _ ?_ | exact bg | exact hne)
  exact ⟨⟨b5.cell rfl, b5.cell rfl, b5.cell rfl, b5.cell rfl⟩, ⟨b5.frozen 0, b5.frozen 1, b5.frozen 2, b5.frozen 3⟩, ⟨b9.cell rfl, b9.cell rfl, b9.cell rfl, b9.cell rfl⟩, ⟨bg9.cell rfl, bg9.cell rfl, bg9.cell rfl, bg9.cell rfl⟩, bg9.frozen 0, bg9.frozen 1, bg9.frozen 2, bg9.frozen 3⟩
/-- a sector as it is told: the three ways -/
theorem slot_way (a : List UInt8) (ha : a.length = 64) : (Slot.readE a = 6 ∨ Slot.readE a = 0 ∨ Slot.readE a = 11) ∧ Slot.right a = decide (Slot.readE a = 0) ∧ decide (a = Slot.nots) = decide (Slot.readE a = 6) := by
  rcases Slot.tri a ha with ⟨e1, e2, e3⟩ | ⟨e1, e2, e3⟩ | ⟨e1, e2, e3⟩
  · exact ⟨.inl e1, by rw [e2, e1]; rfl, by rw [e1, decide_eq_true e3]; rfl⟩
  · exact ⟨.inr (.inl e1), by rw [e2, e1]; rfl, by rw [e1, decide_eq_false e3]; rfl⟩
  · exact ⟨.inr (.inr e1), by rw [e2, e1]; rfl, by rw [e1, decide_eq_false e3]; rfl⟩
theorem OwnB.cap {w : World} {base n c : Nat} {A : Option Addr} {l : List UInt8} (h : OwnB w base (.slice A n c) l) : l.length ≤ c := by
  obtain ⟨_, _, hv, hle⟩ := h.form
  injection hv with _ _ e
  omega
theorem two_below (w : World) (x0 x1 x2 x3 : Value) : Below w.heap.size w (w.alloc (.cells #[x0, x1, x2, x3] 91)) := (Below.refl _ _).alloc (Nat.le_refl _) _
set_option maxRecDepth 100000 in
set_option maxHeartbeats 8000000 in
theorem mLook_yes (w : World) (b : Nat) (F : Nat → Prop) (S : DS) (at_ : Int) (h : Mir w b F S) (h1 : -9223372036854775808 ≤ at_) (h2 : at_ ≤ 1000000) (hx : Slot.lookE S at_ = 0) :
    Calls Tryz.prog 34 #[.pointer (some ⟨b, 0, none⟩), .int .i64 at_] w (LkPost (Slot.newestI (S.readB at_) (S.readB (at_ + 1))) (Slot.topN (S.readB at_) (S.readB (at_ + 1))) (Slot.topB (S.readB at_) (S.readB (at_ + 1))) (Slot.noneB (S.readB at_) (S.readB (at_ + 1))) 0 w) := by
  have he1 : S.readE at_ = 0 := by
    unfold Slot.lookE at hx
    split at hx
    · assumption
    · assumption
  have he2 : S.readE (at_ + 1) = 0 := by
    unfold Slot.lookE at hx
    rwa [if_pos he1] at hx
  have la := readB_len S h.ok at_ he1
  have lb := readB_len S h.ok (at_ + 1) he2
  have B1 := two_below w (.int .i64 0) (.int .i64 0) (.slice none 0 0) (.bool false)
  have b1 : BlkR 91 (w.alloc (.cells #[.int .i64 0, .int .i64 0, .slice none 0 0, .bool false] 91)) w.heap.size [.int .i64 0, .int .i64 0, .slice none 0 0, .bool false] := BlkR.new w _ _
  have hm1 := h.step B1
  have hw : IntKind.i64.wrap (at_ + 1) = at_ + 1 := IntWalk.i64_in _ (by omega)
  have z1 := mRead _ b F S at_ hm1
  have z2 := fun w2 h2 => mRead w2 b F S (at_ + 1) h2
  rw [he1, la] at z1
  rw [he2, lb] at z2
  clear hx he1 he2 h
  obtain ⟨a, hae⟩ : ∃ a, a = S.readB at_ := ⟨_, rfl⟩
  obtain ⟨a2, hae2⟩ : ∃ a, a = S.readB (at_ + 1) := ⟨_, rfl⟩
  rw [← hae] at z1 la ⊢
  rw [← hae2] at z2 lb ⊢
  clear hae hae2
  obtain ⟨wa, ra, na⟩ := slot_way a la
  obtain ⟨wb, rb, nb⟩ := slot_way a2 lb
  have zr := fun A (l : List UInt8) c (hl : l.length = 64) (hc : 64 ≤ c) w1 h => refRead5_any A l 64 c hl hc w1 h
  obtain ⟨n, hn⟩ : ∃ n, n = Slot.readN a := ⟨_, rfl⟩
  obtain ⟨n2, hn2⟩ : ∃ n, n = Slot.readN a2 := ⟨_, rfl⟩
  obtain ⟨rc, hrc⟩ : ∃ n, n = Slot.readB a := ⟨_, rfl⟩
  obtain ⟨rc2, hrc2⟩ : ∃ n, n = Slot.readB a2 := ⟨_, rfl⟩
  obtain ⟨ga, hga⟩ : ∃ n, n = Slot.readE a := ⟨_, rfl⟩
  obtain ⟨gb, hgb⟩ : ∃ n, n = Slot.readE a2 := ⟨_, rfl⟩
  have zra : ∀ A c, 64 ≤ c → ∀ w1, BytesAt w1 w1.heap.size A a → Calls Tryz.prog 66 #[.slice A 64 c] w1 fun e w' => ∃ A' c', e = .returned (.tuple #[.int .i64 (n : Int), .slice A' rc.length c', .int .i64 ga]) ∧ rc.length ≤ c' ∧ BytesAt w' w'.heap.size A' rc ∧ (∀ ad, A' = some ad → rc ≠ [] → w1.heap.size ≤ ad.block) ∧ Below w1.heap.size w1 w' := fun A c hc w1 h => by
    have := zr A a c la hc w1 h
    unfold SrPost at this
    rwa [← hn, ← hrc, ← hga] at this
  have zrb : ∀ A c, 64 ≤ c → ∀ w1, BytesAt w1 w1.heap.size A a2 → Calls Tryz.prog 66 #[.slice A 64 c] w1 fun e w' => ∃ A' c', e = .returned (.tuple #[.int .i64 (n2 : Int), .slice A' rc2.length c', .int .i64 gb]) ∧ rc2.length ≤ c' ∧ BytesAt w' w'.heap.size A' rc2 ∧ (∀ ad, A' = some ad → rc2 ≠ [] → w1.heap.size ≤ ad.block) ∧ Below w1.heap.size w1 w' := fun A c hc w1 h => by
    have := zr A a2 c lb hc w1 h
    unfold SrPost at this
    rwa [← hn2, ← hrc2, ← hgb] at this
  clear zr
  -- what it tells, in the numbers
  have hni : Slot.newestI a a2 = if gb = 0 ∧ (ga ≠ 0 ∨ n < n2) then 1 else if ga = 0 then 0 else -1 := by
    unfold Slot.newestI Slot.second
    rw [ra, rb, ← hga, ← hgb, hn, hn2]
    unfold Slot.readN
    rw [ra, rb, ← hga, ← hgb]
    by_cases x1 : ga = 0 <;> by_cases x2 : gb = 0 <;> simp [x1, x2]
  have htn : Slot.topN a a2 = if gb = 0 ∧ (ga ≠ 0 ∨ n < n2) then n2 else n := by
    unfold Slot.topN Slot.second
    rw [ra, rb, ← hga, ← hgb, hn, hn2]
    unfold Slot.readN
    rw [ra, rb, ← hga, ← hgb]
    by_cases x1 : ga = 0 <;> by_cases x2 : gb = 0 <;> simp [x1, x2]
  have htb : Slot.topB a a2 = if gb = 0 ∧ (ga ≠ 0 ∨ n < n2) then rc2 else rc := by
    unfold Slot.topB Slot.second
    rw [ra, rb, ← hga, ← hgb, hn, hn2, hrc, hrc2]
    unfold Slot.readN Slot.readB
    rw [ra, rb, ← hga, ← hgb]
    by_cases x1 : ga = 0 <;> by_cases x2 : gb = 0 <;> simp [x1, x2]
  have hno : Slot.noneB a a2 = (decide (ga = 6) && decide (gb = 6)) := by
    unfold Slot.noneB
    rw [na, nb, ← hga, ← hgb]
  have hn0 : ga ≠ 0 → n = 0 ∧ rc = [] := fun h => by
    rw [hn, hrc]; unfold Slot.readN Slot.readB; rw [ra, ← hga]; simp [h]
  rw [← hga] at wa
  rw [← hgb] at wb
  clear ra rb na nb hn hn2 hrc hrc2 hga hgb
  have kc : ∀ w2 : World, Below (w.alloc (.cells #[.int .i64 0, .int .i64 0, .slice none 0 0, .bool false] 91)).heap.size (w.alloc (.cells #[.int .i64 0, .int .i64 0, .slice none 0 0, .bool false] 91)) w2 →
      (w2.cell? ⟨w.heap.size, 0, none⟩ = some (.int .i64 0) ∧ w2.cell? ⟨w.heap.size, 1, none⟩ = some (.int .i64 0) ∧ w2.cell? ⟨w.heap.size, 2, none⟩ = some (.slice none 0 0) ∧ w2.cell? ⟨w.heap.size, 3, none⟩ = some (.bool false)) ∧
      (w2.frozen? ⟨w.heap.size, 0, none⟩ = false ∧ w2.frozen? ⟨w.heap.size, 1, none⟩ = false ∧ w2.frozen? ⟨w.heap.size, 2, none⟩ = false ∧ w2.frozen? ⟨w.heap.size, 3, none⟩ = false) ∧ w.heap.size < w2.heap.size := fun w2 hB => by
    have b2 := BlkR.step b1 hB
    exact ⟨⟨b2.cell rfl, b2.cell rfl, b2.cell rfl, b2.cell rfl⟩, ⟨b2.frozen 0, b2.frozen 1, b2.frozen 2, b2.frozen 3⟩, b2.lt⟩
  have kd : ∀ w3 w6 : World, Below (w3.alloc (.cells #[.int .i64 (-1), .int .i64 0, .slice none 0 0, .bool false] 91)).heap.size (w3.alloc (.cells #[.int .i64 (-1), .int .i64 0, .slice none 0 0, .bool false] 91)) w6 →
      (w6.cell? ⟨w3.heap.size, 0, none⟩ = some (.int .i64 (-1)) ∧ w6.cell? ⟨w3.heap.size, 1, none⟩ = some (.int .i64 0) ∧ w6.cell? ⟨w3.heap.size, 2, none⟩ = some (.slice none 0 0) ∧ w6.cell? ⟨w3.heap.size, 3, none⟩ = some (.bool false)) ∧
      (w6.frozen? ⟨w3.heap.size, 0, none⟩ = false ∧ w6.frozen? ⟨w3.heap.size, 1, none⟩ = false ∧ w6.frozen? ⟨w3.heap.size, 2, none⟩ = false ∧ w6.frozen? ⟨w3.heap.size, 3, none⟩ = false) ∧ BlkR 91 w6 w3.heap.size [.int .i64 (-1), .int .i64 0, .slice none 0 0, .bool false] := fun w3 w6 hB => by
    have b2 := BlkR.step (BlkR.new w3 [.int .i64 (-1), .int .i64 0, .slice none 0 0, .bool false] 91) hB
    exact ⟨⟨b2.cell rfl, b2.cell rfl, b2.cell rfl, b2.cell rfl⟩, ⟨b2.frozen 0, b2.frozen 1, b2.frozen 2, b2.frozen 3⟩, b2⟩
  replace kc := Lib.hid kc
  replace kd := Lib.hid kd
  replace b1 := Lib.hid b1
  have HM := Lib.hid hm1
  have HL := Lib.hid (And.intro la lb)
  have HN := Lib.hid hn0
  clear hm1 la lb hn0
  rcases wa with rfl | rfl | rfl <;> rcases wb with rfl | rfl | rfl
  · obtain ⟨rfl, rfl⟩ := HN.out (by decide)
    simp at hni htn htb hno
    rw [hni, htn, htb, hno]
    clear hni htn htb hno
    go_enter Tryz.func34, Tryz.ntmps34
    go_wp2_with (first
      | (go_at_call 49; first
        | ((with_reducible refine (z2 w2 hm2.out).mono ?_); (rintro e w3 ⟨A3, c3, rfl, ho3, B3⟩; have r3 := ho3.bytes; have hc3 := ho3.cap; rw [HL.out.2] at hc3; have r23 := r2.step B3; have B23 := step_trans B2 B3; have N4 := two_below w3 (.int .i64 (-1)) (.int .i64 0) (.slice none 0 0) (.bool false); have r24 := r23.step N4; have r34 := r3.step N4; clear ho3))
        | (refine z1.mono ?_; (rintro e w2 ⟨A2, c2, rfl, ho2, B2⟩; have r2 := ho2.bytes; have hc2 := ho2.cap; rw [HL.out.1] at hc2; have hm2 := Lib.hid (HM.out.step B2); clear ho2)))
      | (go_at_call 66; first
        | ((with_reducible refine (zrb A3 c3 hc3 w5 r35).mono ?_); (rintro e w6 ⟨A6, c6, rfl, hc6, r6, n6, B6⟩; have r56 := r5.step B6; have B46 := step_trans B5 B6; obtain ⟨⟨k0, k1, k2, k3⟩, ⟨f0, f1, f2, f3⟩, kb⟩ := kd.out w3 w6 B46; have BB := step_trans B23 (step_trans N4 B46); obtain ⟨⟨m0, m1, m2, m3⟩, ⟨i0, i1, i2, i3⟩, _⟩ := kc.out w6 BB; have hlt := (kc.out w3 B23).2.2; have hs4 : w3.heap.size < (w3.alloc (.cells #[.int .i64 (-1), .int .i64 0, .slice none 0 0, .bool false] 91)).heap.size := (by simp); have hs5 := B5.size; have hne : ¬ w3.heap.size = w.heap.size := (by omega); have hne2 : ¬ w.heap.size = w3.heap.size := (by omega); have HB := Lib.hid (step_trans B1 BB); have HG := Lib.hid (b1.out.step BB); have kb := Lib.hid kb))
        | (refine (zra A2 c2 hc2 _ r24).mono ?_; (rintro e w5 ⟨A5, c5, rfl, hc5, r5, n5, B5⟩; have r35 := r34.step B5))))
    refine bodyPost_ret (res_two _ _ w.heap.size _ _ _ _ _ rfl rfl (four_set (u0 := .int .i64 0) (u1 := .int .i64 0) (u2 := .slice none 0 0) (u3 := .bool false) ?_ _ _ _ _)) rfl ⟨none, 0, rfl, Nat.le_refl _, look_fin (g1 := w3.heap.size) ?_ hlt bytes_nil (fun ad e => by cases e) HB.out⟩
    · repeat' (first | refine BlkR.other ?_ _ _ ?_ | exact HG.out | exact hne2)
    · repeat' (first | refine Frame.setC ?_ _ _ ?_ | exact Frame.refl _ _ | exact .inr rfl | exact .inl rfl)
  · simp at hni htn htb hno
    rw [hni, htn, htb, hno]
    clear hni htn htb hno
    go_enter Tryz.func34, Tryz.ntmps34
    go_wp2_with (first
      | (go_at_call 49; first
        | ((with_reducible refine (z2 w2 hm2.out).mono ?_); (rintro e w3 ⟨A3, c3, rfl, ho3, B3⟩; have r3 := ho3.bytes; have hc3 := ho3.cap; rw [HL.out.2] at hc3; have r23 := r2.step B3; have B23 := step_trans B2 B3; have N4 := two_below w3 (.int .i64 (-1)) (.int .i64 0) (.slice none 0 0) (.bool false); have r24 := r23.step N4; have r34 := r3.step N4; clear ho3))
        | (refine z1.mono ?_; (rintro e w2 ⟨A2, c2, rfl, ho2, B2⟩; have r2 := ho2.bytes; have hc2 := ho2.cap; rw [HL.out.1] at hc2; have hm2 := Lib.hid (HM.out.step B2); clear ho2)))
      | (go_at_call 66; first
        | ((with_reducible refine (zrb A3 c3 hc3 w5 r35).mono ?_); (rintro e w6 ⟨A6, c6, rfl, hc6, r6, n6, B6⟩; have r56 := r5.step B6; have B46 := step_trans B5 B6; obtain ⟨⟨k0, k1, k2, k3⟩, ⟨f0, f1, f2, f3⟩, kb⟩ := kd.out w3 w6 B46; have BB := step_trans B23 (step_trans N4 B46); obtain ⟨⟨m0, m1, m2, m3⟩, ⟨i0, i1, i2, i3⟩, _⟩ := kc.out w6 BB; have hlt := (kc.out w3 B23).2.2; have hs4 : w3.heap.size < (w3.alloc (.cells #[.int .i64 (-1), .int .i64 0, .slice none 0 0, .bool false] 91)).heap.size := (by simp); have hs5 := B5.size; have hne : ¬ w3.heap.size = w.heap.size := (by omega); have hne2 : ¬ w.heap.size = w3.heap.size := (by omega); have HB := Lib.hid (step_trans B1 BB); have HG := Lib.hid (b1.out.step BB); have kb := Lib.hid kb))
        | (refine (zra A2 c2 hc2 _ r24).mono ?_; (rintro e w5 ⟨A5, c5, rfl, hc5, r5, n5, B5⟩; have r35 := r34.step B5))))
    refine bodyPost_ret (res_two _ _ w.heap.size _ _ _ _ _ rfl rfl (four_set (u0 := .int .i64 0) (u1 := .int .i64 0) (u2 := .slice none 0 0) (u3 := .bool false) ?_ _ _ _ _)) rfl ⟨A6, c6, rfl, hc6, look_fin (g1 := w3.heap.size) ?_ hlt r6 (fun ad e h => Nat.lt_of_lt_of_le hs4 (Nat.le_trans hs5 (n6 ad e h))) HB.out⟩
    · repeat' (first | refine BlkR.other ?_ _ _ ?_ | exact HG.out | exact hne2)
    · repeat' (first | refine Frame.setC ?_ _ _ ?_ | exact Frame.refl _ _ | exact .inr rfl | exact .inl rfl)
  · obtain ⟨rfl, rfl⟩ := HN.out (by decide)
    simp at hni htn htb hno
    rw [hni, htn, htb, hno]
    clear hni htn htb hno
    go_enter Tryz.func34, Tryz.ntmps34
    go_wp2_with (first
      | (go_at_call 49; first
        | ((with_reducible refine (z2 w2 hm2.out).mono ?_); (rintro e w3 ⟨A3, c3, rfl, ho3, B3⟩; have r3 := ho3.bytes; have hc3 := ho3.cap; rw [HL.out.2] at hc3; have r23 := r2.step B3; have B23 := step_trans B2 B3; have N4 := two_below w3 (.int .i64 (-1)) (.int .i64 0) (.slice none 0 0) (.bool false); have r24 := r23.step N4; have r34 := r3.step N4; clear ho3))
        | (refine z1.mono ?_; (rintro e w2 ⟨A2, c2, rfl, ho2, B2⟩; have r2 := ho2.bytes; have hc2 := ho2.cap; rw [HL.out.1] at hc2; have hm2 := Lib.hid (HM.out.step B2); clear ho2)))
      | (go_at_call 66; first
        | ((with_reducible refine (zrb A3 c3 hc3 w5 r35).mono ?_); (rintro e w6 ⟨A6, c6, rfl, hc6, r6, n6, B6⟩; have r56 := r5.step B6; have B46 := step_trans B5 B6; obtain ⟨⟨k0, k1, k2, k3⟩, ⟨f0, f1, f2, f3⟩, kb⟩ := kd.out w3 w6 B46; have BB := step_trans B23 (step_trans N4 B46); obtain ⟨⟨m0, m1, m2, m3⟩, ⟨i0, i1, i2, i3⟩, _⟩ := kc.out w6 BB; have hlt := (kc.out w3 B23).2.2; have hs4 : w3.heap.size < (w3.alloc (.cells #[.int .i64 (-1), .int .i64 0, .slice none 0 0, .bool false] 91)).heap.size := (by simp); have hs5 := B5.size; have hne : ¬ w3.heap.size = w.heap.size := (by omega); have hne2 : ¬ w.heap.size = w3.heap.size := (by omega); have HB := Lib.hid (step_trans B1 BB); have HG := Lib.hid (b1.out.step BB); have kb := Lib.hid kb))
        | (refine (zra A2 c2 hc2 _ r24).mono ?_; (rintro e w5 ⟨A5, c5, rfl, hc5, r5, n5, B5⟩; have r35 := r34.step B5))))
    refine bodyPost_ret (res_two _ _ w.heap.size _ _ _ _ _ rfl rfl (four_set (u0 := .int .i64 0) (u1 := .int .i64 0) (u2 := .slice none 0 0) (u3 := .bool false) ?_ _ _ _ _)) rfl ⟨none, 0, rfl, Nat.le_refl _, look_fin (g1 := w3.heap.size) ?_ hlt bytes_nil (fun ad e => by cases e) HB.out⟩
    · repeat' (first | refine BlkR.other ?_ _ _ ?_ | exact HG.out | exact hne2)
    · repeat' (first | refine Frame.setC ?_ _ _ ?_ | exact Frame.refl _ _ | exact .inr rfl | exact .inl rfl)
  · simp at hni htn htb hno
    rw [hni, htn, htb, hno]
    clear hni htn htb hno
    go_enter Tryz.func34, Tryz.ntmps34
    go_wp2_with (first
      | (go_at_call 49; first
        | ((with_reducible refine (z2 w2 hm2.out).mono ?_); (rintro e w3 ⟨A3, c3, rfl, ho3, B3⟩; have r3 := ho3.bytes; have hc3 := ho3.cap; rw [HL.out.2] at hc3; have r23 := r2.step B3; have B23 := step_trans B2 B3; have N4 := two_below w3 (.int .i64 (-1)) (.int .i64 0) (.slice none 0 0) (.bool false); have r24 := r23.step N4; have r34 := r3.step N4; clear ho3))
        | (refine z1.mono ?_; (rintro e w2 ⟨A2, c2, rfl, ho2, B2⟩; have r2 := ho2.bytes; have hc2 := ho2.cap; rw [HL.out.1] at hc2; have hm2 := Lib.hid (HM.out.step B2); clear ho2)))
      | (go_at_call 66; first
        | ((with_reducible refine (zrb A3 c3 hc3 w5 r35).mono ?_); (rintro e w6 ⟨A6, c6, rfl, hc6, r6, n6, B6⟩; have r56 := r5.step B6; have B46 := step_trans B5 B6; obtain ⟨⟨k0, k1, k2, k3⟩, ⟨f0, f1, f2, f3⟩, kb⟩ := kd.out w3 w6 B46; have BB := step_trans B23 (step_trans N4 B46); obtain ⟨⟨m0, m1, m2, m3⟩, ⟨i0, i1, i2, i3⟩, _⟩ := kc.out w6 BB; have hlt := (kc.out w3 B23).2.2; have hs4 : w3.heap.size < (w3.alloc (.cells #[.int .i64 (-1), .int .i64 0, .slice none 0 0, .bool false] 91)).heap.size := (by simp); have hs5 := B5.size; have hne : ¬ w3.heap.size = w.heap.size := (by omega); have hne2 : ¬ w.heap.size = w3.heap.size := (by omega); have HB := Lib.hid (step_trans B1 BB); have HG := Lib.hid (b1.out.step BB); have kb := Lib.hid kb))
        | (refine (zra A2 c2 hc2 _ r24).mono ?_; (rintro e w5 ⟨A5, c5, rfl, hc5, r5, n5, B5⟩; have r35 := r34.step B5))))
    refine bodyPost_ret (res_two _ _ w.heap.size _ _ _ _ _ rfl rfl (four_set (u0 := .int .i64 0) (u1 := .int .i64 0) (u2 := .slice none 0 0) (u3 := .bool false) ?_ _ _ _ _)) rfl ⟨A5, c5, rfl, hc5, look_fin (g1 := w3.heap.size) ?_ hlt r56 (fun ad e h => Nat.lt_of_lt_of_le hs4 (n5 ad e h)) HB.out⟩
    · repeat' (first | refine BlkR.other ?_ _ _ ?_ | exact HG.out | exact hne2)
    · repeat' (first | refine Frame.setC ?_ _ _ ?_ | exact Frame.refl _ _ | exact .inr rfl | exact .inl rfl)
  · by_cases hlt' : (n : Int) < (n2 : Int)
    · have hq : n < n2 := by omega
      simp [hq] at hni htn htb hno
      rw [hni, htn, htb, hno]
      clear hni htn htb hno
      go_enter Tryz.func34, Tryz.ntmps34
      go_wp2_with (first
        | (go_at_call 49; first
          | ((with_reducible refine (z2 w2 hm2.out).mono ?_); (rintro e w3 ⟨A3, c3, rfl, ho3, B3⟩; have r3 := ho3.bytes; have hc3 := ho3.cap; rw [HL.out.2] at hc3; have r23 := r2.step B3; have B23 := step_trans B2 B3; have N4 := two_below w3 (.int .i64 (-1)) (.int .i64 0) (.slice none 0 0) (.bool false); have r24 := r23.step N4; have r34 := r3.step N4; clear ho3))
          | (refine z1.mono ?_; (rintro e w2 ⟨A2, c2, rfl, ho2, B2⟩; have r2 := ho2.bytes; have hc2 := ho2.cap; rw [HL.out.1] at hc2; have hm2 := Lib.hid (HM.out.step B2); clear ho2)))
        | (go_at_call 66; first
          | ((with_reducible refine (zrb A3 c3 hc3 w5 r35).mono ?_); (rintro e w6 ⟨A6, c6, rfl, hc6, r6, n6, B6⟩; have r56 := r5.step B6; have B46 := step_trans B5 B6; obtain ⟨⟨k0, k1, k2, k3⟩, ⟨f0, f1, f2, f3⟩, kb⟩ := kd.out w3 w6 B46; have BB := step_trans B23 (step_trans N4 B46); obtain ⟨⟨m0, m1, m2, m3⟩, ⟨i0, i1, i2, i3⟩, _⟩ := kc.out w6 BB; have hlt := (kc.out w3 B23).2.2; have hs4 : w3.heap.size < (w3.alloc (.cells #[.int .i64 (-1), .int .i64 0, .slice none 0 0, .bool false] 91)).heap.size := (by simp); have hs5 := B5.size; have hne : ¬ w3.heap.size = w.heap.size := (by omega); have hne2 : ¬ w.heap.size = w3.heap.size := (by omega); have HB := Lib.hid (step_trans B1 BB); have HG := Lib.hid (b1.out.step BB); obtain ⟨⟨t0, t1, t2, t3⟩, ⟨t4, t5, t6, t7⟩, ⟨t8, t9, t10, t11⟩, ⟨t12, t13, t14, t15⟩, t16, t17, t18, t19⟩ := twice_facts kb HG.out hne2 n A5 rc.length c5 n2 A6 rc2.length c6; have kb := Lib.hid kb))
          | (refine (zra A2 c2 hc2 _ r24).mono ?_; (rintro e w5 ⟨A5, c5, rfl, hc5, r5, n5, B5⟩; have r35 := r34.step B5))))
      refine bodyPost_ret (res_two _ _ w.heap.size _ _ _ _ _ rfl rfl (four_set (u0 := .int .i64 0) (u1 := .int .i64 0) (u2 := .slice none 0 0) (u3 := .bool false) ?_ _ _ _ _)) rfl ⟨A6, c6, rfl, hc6, look_fin (g1 := w3.heap.size) ?_ hlt r6 (fun ad e h => Nat.lt_of_lt_of_le hs4 (Nat.le_trans hs5 (n6 ad e h))) HB.out⟩
      · repeat' (first | refine BlkR.other ?_ _ _ ?_ | exact HG.out | exact hne2)
      · repeat' (first | refine Frame.setC ?_ _ _ ?_ | exact Frame.refl _ _ | exact .inr rfl | exact .inl rfl)
    · have hq : ¬ n < n2 := by omega
      simp [hq] at hni htn htb hno
      rw [hni, htn, htb, hno]
      clear hni htn htb hno
      go_enter Tryz.func34, Tryz.ntmps34
      go_wp2_with (first
        | (go_at_call 49; first
          | ((with_reducible refine (z2 w2 hm2.out).mono ?_); (rintro e w3 ⟨A3, c3, rfl, ho3, B3⟩; have r3 := ho3.bytes; have hc3 := ho3.cap; rw [HL.out.2] at hc3; have r23 := r2.step B3; have B23 := step_trans B2 B3; have N4 := two_below w3 (.int .i64 (-1)) (.int .i64 0) (.slice none 0 0) (.bool false); have r24 := r23.step N4; have r34 := r3.step N4; clear ho3))
          | (refine z1.mono ?_; (rintro e w2 ⟨A2, c2, rfl, ho2, B2⟩; have r2 := ho2.bytes; have hc2 := ho2.cap; rw [HL.out.1] at hc2; have hm2 := Lib.hid (HM.out.step B2); clear ho2)))
        | (go_at_call 66; first
          | ((with_reducible refine (zrb A3 c3 hc3 w5 r35).mono ?_); (rintro e w6 ⟨A6, c6, rfl, hc6, r6, n6, B6⟩; have r56 := r5.step B6; have B46 := step_trans B5 B6; obtain ⟨⟨k0, k1, k2, k3⟩, ⟨f0, f1, f2, f3⟩, kb⟩ := kd.out w3 w6 B46; have BB := step_trans B23 (step_trans N4 B46); obtain ⟨⟨m0, m1, m2, m3⟩, ⟨i0, i1, i2, i3⟩, _⟩ := kc.out w6 BB; have hlt := (kc.out w3 B23).2.2; have hs4 : w3.heap.size < (w3.alloc (.cells #[.int .i64 (-1), .int .i64 0, .slice none 0 0, .bool false] 91)).heap.size := (by simp); have hs5 := B5.size; have hne : ¬ w3.heap.size = w.heap.size := (by omega); have hne2 : ¬ w.heap.size = w3.heap.size := (by omega); have HB := Lib.hid (step_trans B1 BB); have HG := Lib.hid (b1.out.step BB); have kb := Lib.hid kb))
          | (refine (zra A2 c2 hc2 _ r24).mono ?_; (rintro e w5 ⟨A5, c5, rfl, hc5, r5, n5, B5⟩; have r35 := r34.step B5))))
      refine bodyPost_ret (res_two _ _ w.heap.size _ _ _ _ _ rfl rfl (four_set (u0 := .int .i64 0) (u1 := .int .i64 0) (u2 := .slice none 0 0) (u3 := .bool false) ?_ _ _ _ _)) rfl ⟨A5, c5, rfl, hc5, look_fin (g1 := w3.heap.size) ?_ hlt r56 (fun ad e h => Nat.lt_of_lt_of_le hs4 (n5 ad e h)) HB.out⟩
      · repeat' (first | refine BlkR.other ?_ _ _ ?_ | exact HG.out | exact hne2)
      · repeat' (first | refine Frame.setC ?_ _ _ ?_ | exact Frame.refl _ _ | exact .inr rfl | exact .inl rfl)
  · simp at hni htn htb hno
    rw [hni, htn, htb, hno]
    clear hni htn htb hno
    go_enter Tryz.func34, Tryz.ntmps34
    go_wp2_with (first
      | (go_at_call 49; first
        | ((with_reducible refine (z2 w2 hm2.out).mono ?_); (rintro e w3 ⟨A3, c3, rfl, ho3, B3⟩; have r3 := ho3.bytes; have hc3 := ho3.cap; rw [HL.out.2] at hc3; have r23 := r2.step B3; have B23 := step_trans B2 B3; have N4 := two_below w3 (.int .i64 (-1)) (.int .i64 0) (.slice none 0 0) (.bool false); have r24 := r23.step N4; have r34 := r3.step N4; clear ho3))
        | (refine z1.mono ?_; (rintro e w2 ⟨A2, c2, rfl, ho2, B2⟩; have r2 := ho2.bytes; have hc2 := ho2.cap; rw [HL.out.1] at hc2; have hm2 := Lib.hid (HM.out.step B2); clear ho2)))
      | (go_at_call 66; first
        | ((with_reducible refine (zrb A3 c3 hc3 w5 r35).mono ?_); (rintro e w6 ⟨A6, c6, rfl, hc6, r6, n6, B6⟩; have r56 := r5.step B6; have B46 := step_trans B5 B6; obtain ⟨⟨k0, k1, k2, k3⟩, ⟨f0, f1, f2, f3⟩, kb⟩ := kd.out w3 w6 B46; have BB := step_trans B23 (step_trans N4 B46); obtain ⟨⟨m0, m1, m2, m3⟩, ⟨i0, i1, i2, i3⟩, _⟩ := kc.out w6 BB; have hlt := (kc.out w3 B23).2.2; have hs4 : w3.heap.size < (w3.alloc (.cells #[.int .i64 (-1), .int .i64 0, .slice none 0 0, .bool false] 91)).heap.size := (by simp); have hs5 := B5.size; have hne : ¬ w3.heap.size = w.heap.size := (by omega); have hne2 : ¬ w.heap.size = w3.heap.size := (by omega); have HB := Lib.hid (step_trans B1 BB); have HG := Lib.hid (b1.out.step BB); have kb := Lib.hid kb))
        | (refine (zra A2 c2 hc2 _ r24).mono ?_; (rintro e w5 ⟨A5, c5, rfl, hc5, r5, n5, B5⟩; have r35 := r34.step B5))))
    refine bodyPost_ret (res_two _ _ w.heap.size _ _ _ _ _ rfl rfl (four_set (u0 := .int .i64 0) (u1 := .int .i64 0) (u2 := .slice none 0 0) (u3 := .bool false) ?_ _ _ _ _)) rfl ⟨A5, c5, rfl, hc5, look_fin (g1 := w3.heap.size) ?_ hlt r56 (fun ad e h => Nat.lt_of_lt_of_le hs4 (n5 ad e h)) HB.out⟩
    · repeat' (first | refine BlkR.other ?_ _ _ ?_ | exact HG.out | exact hne2)
    · repeat' (first | refine Frame.setC ?_ _ _ ?_ | exact Frame.refl _ _ | exact .inr rfl | exact .inl rfl)
  · obtain ⟨rfl, rfl⟩ := HN.out (by decide)
    simp at hni htn htb hno
    rw [hni, htn, htb, hno]
    clear hni htn htb hno
    go_enter Tryz.func34, Tryz.ntmps34
    go_wp2_with (first
      | (go_at_call 49; first
        | ((with_reducible refine (z2 w2 hm2.out).mono ?_); (rintro e w3 ⟨A3, c3, rfl, ho3, B3⟩; have r3 := ho3.bytes; have hc3 := ho3.cap; rw [HL.out.2] at hc3; have r23 := r2.step B3; have B23 := step_trans B2 B3; have N4 := two_below w3 (.int .i64 (-1)) (.int .i64 0) (.slice none 0 0) (.bool false); have r24 := r23.step N4; have r34 := r3.step N4; clear ho3))
        | (refine z1.mono ?_; (rintro e w2 ⟨A2, c2, rfl, ho2, B2⟩; have r2 := ho2.bytes; have hc2 := ho2.cap; rw [HL.out.1] at hc2; have hm2 := Lib.hid (HM.out.step B2); clear ho2)))
      | (go_at_call 66; first
        | ((with_reducible refine (zrb A3 c3 hc3 w5 r35).mono ?_); (rintro e w6 ⟨A6, c6, rfl, hc6, r6, n6, B6⟩; have r56 := r5.step B6; have B46 := step_trans B5 B6; obtain ⟨⟨k0, k1, k2, k3⟩, ⟨f0, f1, f2, f3⟩, kb⟩ := kd.out w3 w6 B46; have BB := step_trans B23 (step_trans N4 B46); obtain ⟨⟨m0, m1, m2, m3⟩, ⟨i0, i1, i2, i3⟩, _⟩ := kc.out w6 BB; have hlt := (kc.out w3 B23).2.2; have hs4 : w3.heap.size < (w3.alloc (.cells #[.int .i64 (-1), .int .i64 0, .slice none 0 0, .bool false] 91)).heap.size := (by simp); have hs5 := B5.size; have hne : ¬ w3.heap.size = w.heap.size := (by omega); have hne2 : ¬ w.heap.size = w3.heap.size := (by omega); have HB := Lib.hid (step_trans B1 BB); have HG := Lib.hid (b1.out.step BB); have kb := Lib.hid kb))
        | (refine (zra A2 c2 hc2 _ r24).mono ?_; (rintro e w5 ⟨A5, c5, rfl, hc5, r5, n5, B5⟩; have r35 := r34.step B5))))
    refine bodyPost_ret (res_two _ _ w.heap.size _ _ _ _ _ rfl rfl (four_set (u0 := .int .i64 0) (u1 := .int .i64 0) (u2 := .slice none 0 0) (u3 := .bool false) ?_ _ _ _ _)) rfl ⟨none, 0, rfl, Nat.le_refl _, look_fin (g1 := w3.heap.size) ?_ hlt bytes_nil (fun ad e => by cases e) HB.out⟩
    · repeat' (first | refine BlkR.other ?_ _ _ ?_ | exact HG.out | exact hne2)
    · repeat' (first | refine Frame.setC ?_ _ _ ?_ | exact Frame.refl _ _ | exact .inr rfl | exact .inl rfl)
  · simp at hni htn htb hno
    rw [hni, htn, htb, hno]
    clear hni htn htb hno
    go_enter Tryz.func34, Tryz.ntmps34
    go_wp2_with (first
      | (go_at_call 49; first
        | ((with_reducible refine (z2 w2 hm2.out).mono ?_); (rintro e w3 ⟨A3, c3, rfl, ho3, B3⟩; have r3 := ho3.bytes; have hc3 := ho3.cap; rw [HL.out.2] at hc3; have r23 := r2.step B3; have B23 := step_trans B2 B3; have N4 := two_below w3 (.int .i64 (-1)) (.int .i64 0) (.slice none 0 0) (.bool false); have r24 := r23.step N4; have r34 := r3.step N4; clear ho3))
        | (refine z1.mono ?_; (rintro e w2 ⟨A2, c2, rfl, ho2, B2⟩; have r2 := ho2.bytes; have hc2 := ho2.cap; rw [HL.out.1] at hc2; have hm2 := Lib.hid (HM.out.step B2); clear ho2)))
      | (go_at_call 66; first
        | ((with_reducible refine (zrb A3 c3 hc3 w5 r35).mono ?_); (rintro e w6 ⟨A6, c6, rfl, hc6, r6, n6, B6⟩; have r56 := r5.step B6; have B46 := step_trans B5 B6; obtain ⟨⟨k0, k1, k2, k3⟩, ⟨f0, f1, f2, f3⟩, kb⟩ := kd.out w3 w6 B46; have BB := step_trans B23 (step_trans N4 B46); obtain ⟨⟨m0, m1, m2, m3⟩, ⟨i0, i1, i2, i3⟩, _⟩ := kc.out w6 BB; have hlt := (kc.out w3 B23).2.2; have hs4 : w3.heap.size < (w3.alloc (.cells #[.int .i64 (-1), .int .i64 0, .slice none 0 0, .bool false] 91)).heap.size := (by simp); have hs5 := B5.size; have hne : ¬ w3.heap.size = w.heap.size := (by omega); have hne2 : ¬ w.heap.size = w3.heap.size := (by omega); have HB := Lib.hid (step_trans B1 BB); have HG := Lib.hid (b1.out.step BB); have kb := Lib.hid kb))
        | (refine (zra A2 c2 hc2 _ r24).mono ?_; (rintro e w5 ⟨A5, c5, rfl, hc5, r5, n5, B5⟩; have r35 := r34.step B5))))
    refine bodyPost_ret (res_two _ _ w.heap.size _ _ _ _ _ rfl rfl (four_set (u0 := .int .i64 0) (u1 := .int .i64 0) (u2 := .slice none 0 0) (u3 := .bool false) ?_ _ _ _ _)) rfl ⟨A6, c6, rfl, hc6, look_fin (g1 := w3.heap.size) ?_ hlt r6 (fun ad e h => Nat.lt_of_lt_of_le hs4 (Nat.le_trans hs5 (n6 ad e h))) HB.out⟩
    · repeat' (first | refine BlkR.other ?_ _ _ ?_ | exact HG.out | exact hne2)
    · repeat' (first | refine Frame.setC ?_ _ _ ?_ | exact Frame.refl _ _ | exact .inr rfl | exact .inl rfl)
  · obtain ⟨rfl, rfl⟩ := HN.out (by decide)
    simp at hni htn htb hno
    rw [hni, htn, htb, hno]
    clear hni htn htb hno
    go_enter Tryz.func34, Tryz.ntmps34
    go_wp2_with (first
      | (go_at_call 49; first
        | ((with_reducible refine (z2 w2 hm2.out).mono ?_); (rintro e w3 ⟨A3, c3, rfl, ho3, B3⟩; have r3 := ho3.bytes; have hc3 := ho3.cap; rw [HL.out.2] at hc3; have r23 := r2.step B3; have B23 := step_trans B2 B3; have N4 := two_below w3 (.int .i64 (-1)) (.int .i64 0) (.slice none 0 0) (.bool false); have r24 := r23.step N4; have r34 := r3.step N4; clear ho3))
        | (refine z1.mono ?_; (rintro e w2 ⟨A2, c2, rfl, ho2, B2⟩; have r2 := ho2.bytes; have hc2 := ho2.cap; rw [HL.out.1] at hc2; have hm2 := Lib.hid (HM.out.step B2); clear ho2)))
      | (go_at_call 66; first
        | ((with_reducible refine (zrb A3 c3 hc3 w5 r35).mono ?_); (rintro e w6 ⟨A6, c6, rfl, hc6, r6, n6, B6⟩; have r56 := r5.step B6; have B46 := step_trans B5 B6; obtain ⟨⟨k0, k1, k2, k3⟩, ⟨f0, f1, f2, f3⟩, kb⟩ := kd.out w3 w6 B46; have BB := step_trans B23 (step_trans N4 B46); obtain ⟨⟨m0, m1, m2, m3⟩, ⟨i0, i1, i2, i3⟩, _⟩ := kc.out w6 BB; have hlt := (kc.out w3 B23).2.2; have hs4 : w3.heap.size < (w3.alloc (.cells #[.int .i64 (-1), .int .i64 0, .slice none 0 0, .bool false] 91)).heap.size := (by simp); have hs5 := B5.size; have hne : ¬ w3.heap.size = w.heap.size := (by omega); have hne2 : ¬ w.heap.size = w3.heap.size := (by omega); have HB := Lib.hid (step_trans B1 BB); have HG := Lib.hid (b1.out.step BB); have kb := Lib.hid kb))
        | (refine (zra A2 c2 hc2 _ r24).mono ?_; (rintro e w5 ⟨A5, c5, rfl, hc5, r5, n5, B5⟩; have r35 := r34.step B5))))
    refine bodyPost_ret (res_two _ _ w.heap.size _ _ _ _ _ rfl rfl (four_set (u0 := .int .i64 0) (u1 := .int .i64 0) (u2 := .slice none 0 0) (u3 := .bool false) ?_ _ _ _ _)) rfl ⟨none, 0, rfl, Nat.le_refl _, look_fin (g1 := w3.heap.size) ?_ hlt bytes_nil (fun ad e => by cases e) HB.out⟩
    · repeat' (first | refine BlkR.other ?_ _ _ ?_ | exact HG.out | exact hne2)
    · repeat' (first | refine Frame.setC ?_ _ _ ?_ | exact Frame.refl _ _ | exact .inr rfl | exact .inl rfl)
end Go.Proofs.YtcahpodmcklnbaaGreatDoor
