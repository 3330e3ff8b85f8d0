/-
  A session's ring: place, put. Conditions: the ring lies within a block.
-/
import Derived.Test.YtfopjilncfndnaaDoorRegTail
import Derived.Test.YtfopjilncfndnaaDoorSsMem
namespace Go.Proofs.YtfopjilncfndnaaDoor
open Go.RowKit Fix

set_option maxRecDepth 100000 in
theorem place_any (g o f k : Nat) (w : World) (hf : w.cell? ⟨g, o + 32, none⟩ = some (.int .i64 (f : Int))) (h1 : f < 16) (h2 : k ≤ 16) :
    Calls Tryd.prog 44 #[.pointer (some ⟨g, o, none⟩), .int .i64 (k : Int)] w fun e w' => e = .returned (.int .i64 (((f + k) % 16 : Nat) : Int)) ∧ w' = w := by
  have e1 : IntKind.i64.wrap ((f : Int) + (k : Int)) = (f : Int) + (k : Int) := IntWalk.i64_in _ (by omega)
  have e2 : ((f : Int) + (k : Int)).tmod 16 = (((f + k) % 16 : Nat) : Int) := by
    rw [Int.tmod_eq_emod_of_nonneg (by omega)]; omega
  have e3 : IntKind.i64.wrap (((f + k) % 16 : Nat) : Int) = (((f + k) % 16 : Nat) : Int) := IntWalk.i64_in _ (by omega)
  go_enter Tryd.func44, Tryd.ntmps44
  go_wp2
  go_ret
  exact ⟨rfl, rfl⟩
theorem RgAt.first {E : TypeId} {F : Nat → Prop} {w : World} {g o : Nat} {pre post its : List Value} {f : Nat} {l : List (Nat × List UInt8)} (h : RgAt E F w g o pre post its f l) : w.cell? ⟨g, o + 32, none⟩ = some (.int .i64 (f : Int)) := by
  refine h.blk.cell ?_
  have := h.its.len
  have := h.off
  rw [List.append_assoc, List.getElem?_append_right (by omega), rgL, List.append_assoc, List.getElem?_append_right (by omega), show o + 32 - pre.length - its.length = 0 by omega]
  rfl
theorem RgAt.count {E : TypeId} {F : Nat → Prop} {w : World} {g o : Nat} {pre post its : List Value} {f : Nat} {l : List (Nat × List UInt8)} (h : RgAt E F w g o pre post its f l) : w.cell? ⟨g, o + 33, none⟩ = some (.int .i64 (l.length : Int)) := by
  refine h.blk.cell ?_
  have := h.its.len
  have := h.off
  rw [List.append_assoc, List.getElem?_append_right (by omega), rgL, List.append_assoc, List.getElem?_append_right (by omega), show o + 33 - pre.length - its.length = 1 by omega]
  rfl
theorem RgAt.item {E : TypeId} {F : Nat → Prop} {w : World} {g o : Nat} {pre post its : List Value} {f : Nat} {l : List (Nat × List UInt8)} (h : RgAt E F w g o pre post its f l) {j : Nat} {v : Value} (hv : its[j]? = some v) : w.cell? ⟨g, o + j, none⟩ = some v := by
  refine h.blk.cell ?_
  have := h.off
  have hj := (List.getElem?_eq_some_iff.1 hv).1
  rw [List.append_assoc, List.getElem?_append_right (by omega), rgL, List.append_assoc, List.getElem?_append_left (by omega), show o + j - pre.length = j by omega]
  exact hv
theorem RgAt.there {E : TypeId} {F : Nat → Prop} {w : World} {g o : Nat} {pre post its : List Value} {f : Nat} {l : List (Nat × List UInt8)} (h : RgAt E F w g o pre post its f l) (k : Nat) (hk : k < 16) : w.there g (o + k * 2) 2 := fun j hj => by
  have hl := h.its.len
  refine ⟨?_, h.blk.frozen _⟩
  rw [show o + k * 2 + j = o + (2 * k + j) by omega, h.item (List.getElem?_eq_getElem (by omega : 2 * k + j < its.length))]
  rfl
theorem RgAt.step {E : TypeId} {F : Nat → Prop} {w w' : World} {g o : Nat} {pre post its : List Value} {f : Nat} {l : List (Nat × List UInt8)} (h : RgAt E F w g o pre post its f l) (hF : ∀ k, F k → k < w.heap.size) (hb : Below w.heap.size w w') : RgAt E F w' g o pre post its f l :=
  ⟨BlkR.below h.blk hb h.blk.lt, h.off, h.its.keep hb.size fun k hk => hb.block k (hF k hk), h.in_⟩
theorem rg_store {E : TypeId} {w : World} {g o : Nat} {pre post its : List Value} {f n k : Nat} {a b : Value} (h : BlkR E w g (pre ++ rgL its f n ++ post)) (ho : pre.length = o) (hl : its.length = 32) (hk : k < 16) :
    BlkR E (w.setCells g (o + k * 2) [a, b]) g (pre ++ rgL (setM its k a b) f n ++ post) := by
  have h2 := setCells_at [a, b] w (o + k * 2) _ h (by simp [rgL]; omega)
  have e : (pre ++ rgL its f n ++ post).take (o + k * 2) ++ [a, b] ++ (pre ++ rgL its f n ++ post).drop (o + k * 2 + [a, b].length) = pre ++ rgL (setM its k a b) f n ++ post := by
    subst ho
    unfold rgL setM
    rw [List.append_assoc pre, List.append_assoc its, List.take_append, List.take_of_length_le (by omega), List.take_append_of_le_length (by omega), List.drop_append, List.drop_of_length_le (by simp; omega), List.nil_append, List.drop_append_of_le_length (by simp; omega)]
    simp only [List.append_assoc, show pre.length + k * 2 - pre.length = 2 * k by omega, show pre.length + k * 2 + [a, b].length - pre.length = 2 * k + 2 by simp; omega]
  rw [← e]
  exact h2
theorem rg_count {E : TypeId} {w : World} {g o : Nat} {pre post its : List Value} {f n n' : Nat} (h : BlkR E w g (pre ++ rgL its f n ++ post)) (ho : pre.length = o) (hl : its.length = 32) : BlkR E (w.setCell ⟨g, o + 33, none⟩ (.int .i64 (n' : Int))) g (pre ++ rgL its f n' ++ post) := by
  have h2 := h.set_ (o + 33) (.int .i64 (n' : Int))
  have e : (pre ++ rgL its f n ++ post).set (o + 33) (.int .i64 (n' : Int)) = pre ++ rgL its f n' ++ post := by
    subst ho
    unfold rgL
    rw [List.append_assoc, List.append_assoc, List.append_assoc, List.append_assoc, List.set_append_right _ _ (by omega), List.set_append_right _ _ (by omega), show pre.length + 33 - pre.length - its.length = 1 by omega]
    rfl
  rw [← e]
  exact h2
theorem rg_first {E : TypeId} {w : World} {g o : Nat} {pre post its : List Value} {f f' n : Nat} (h : BlkR E w g (pre ++ rgL its f n ++ post)) (ho : pre.length = o) (hl : its.length = 32) : BlkR E (w.setCell ⟨g, o + 32, none⟩ (.int .i64 (f' : Int))) g (pre ++ rgL its f' n ++ post) := by
  have h2 := h.set_ (o + 32) (.int .i64 (f' : Int))
  have e : (pre ++ rgL its f n ++ post).set (o + 32) (.int .i64 (f' : Int)) = pre ++ rgL its f' n ++ post := by
    subst ho
    unfold rgL
    rw [List.append_assoc, List.append_assoc, List.append_assoc, List.append_assoc, List.set_append_right _ _ (by omega), List.set_append_right _ _ (by omega), show pre.length + 32 - pre.length - its.length = 0 by omega]
    rfl
  rw [← e]
  exact h2
theorem rg_c32 {E : TypeId} {w : World} {g o : Nat} {pre post its : List Value} {f n : Nat} (h : BlkR E w g (pre ++ rgL its f n ++ post)) (ho : pre.length = o) (hl : its.length = 32) : w.cell? ⟨g, o + 32, none⟩ = some (.int .i64 (f : Int)) := by
  refine h.cell ?_
  rw [List.append_assoc, List.getElem?_append_right (by omega), rgL, List.append_assoc, List.getElem?_append_right (by omega), show o + 32 - pre.length - its.length = 0 by omega]
  rfl
theorem rg_c33 {E : TypeId} {w : World} {g o : Nat} {pre post its : List Value} {f n : Nat} (h : BlkR E w g (pre ++ rgL its f n ++ post)) (ho : pre.length = o) (hl : its.length = 32) : w.cell? ⟨g, o + 33, none⟩ = some (.int .i64 (n : Int)) := by
  refine h.cell ?_
  rw [List.append_assoc, List.getElem?_append_right (by omega), rgL, List.append_assoc, List.getElem?_append_right (by omega), show o + 33 - pre.length - its.length = 1 by omega]
  rfl
theorem push_len (l : List (Nat × List UInt8)) (m : Nat × List UInt8) (h : l.length ≤ 16) : (Ss.push l m).length = if l.length < 16 then l.length + 1 else 16 := by
  unfold Ss.push
  split
  · simp
  · simp; omega
set_option maxRecDepth 100000 in
set_option maxHeartbeats 1000000 in
theorem put_go (E : TypeId) (F : Nat → Prop) (g o : Nat) (pre post its : List Value) (f : Nat) (l : List (Nat × List UInt8)) (m : Nat × List UInt8) (v : Value) (w : World) (h : RgAt E F w g o pre post its f l) (hv : PayAt F w v m.2) (hF : ∀ k, F k → k < w.heap.size) :
    Calls Tryd.prog 36 #[.pointer (some ⟨g, o, none⟩), .agg #[.int .i64 (m.1 : Int), v]] w fun e w' => e = .returned (.tuple #[]) ∧ (∃ its' f', RgAt E F w' g o pre post its' f' (Ss.push l m)) ∧ Frame (fun k => k = g) w w' := by
  have y0 := h.first
  have y1 := h.count
  have hm := h.its.many
  have h16 := h.its.f16
  obtain ⟨n, hn⟩ : ∃ n, n = l.length := ⟨_, rfl⟩
  rw [← hn] at y1 hm
  obtain ⟨k, hk⟩ : ∃ k, k = (f + n) % 16 := ⟨_, rfl⟩
  have zp := place_any g o f n
  rw [← hk] at zp
  obtain ⟨w1, hw1⟩ : ∃ w1, w1 = w.alloc (.cells #[.int .i64 (m.1 : Int), v] 55) := ⟨_, rfl⟩
  have B1 : Below w.heap.size w w1 := by rw [hw1]; exact (Below.refl _ _).alloc (Nat.le_refl _) _
  have R1 := h.step hF B1
  have x0 := R1.first
  have x1 := R1.count
  rw [← hn] at x1
  have m0 : w1.cell? ⟨w.heap.size, 0, none⟩ = some (.int .i64 (m.1 : Int)) := by rw [hw1]; simp
  have m1 : w1.cell? ⟨w.heap.size, 1, none⟩ = some v := by rw [hw1]; simp
  have hkl : (k : Int) < 16 := by omega
  have HN := Lib.hid (And.intro hn hk)
  obtain ⟨wd, hwd⟩ : ∃ wd, wd = { w1 with drawn := w1.drawn + 1 } := ⟨_, rfl⟩
  have D1 : Below w.heap.size w wd := by rw [hwd]; exact B1.drew
  have R2 := h.step hF D1
  have z0 := R2.first
  have z1 := R2.count
  rw [← hn] at z1
  have n0 : wd.cell? ⟨w.heap.size, 0, none⟩ = some (.int .i64 (m.1 : Int)) := by rw [hwd]; exact m0
  have n1 : wd.cell? ⟨w.heap.size, 1, none⟩ = some v := by rw [hwd]; exact m1
  clear y0 y1 R1 hn hk x0 x1 m0 m1 B1
  go_enter Tryd.func36, Tryd.ntmps36
  go_wp2
  rw [← hw1]
  refine region_tail 11 (by kernel_rfl) (by kernel_rfl) wd hwd ?_
  clear hw1 hwd
  simp only [List.take_succ_cons, List.take_zero, List.drop_succ_cons, List.drop_zero]
  repeat still_step
  still_call (zp _ z0 h16 hm)
  repeat still_step
  refine wpStill_nil ?_
  obtain ⟨hn, hk⟩ := HN.out
  have T1 : BlkR E (wd.setCells g (o + k * 2) [.int .i64 (m.1 : Int), v]) g (pre ++ rgL (setM its k (.int .i64 (m.1 : Int)) v) f n ++ post) := rg_store (by have := R2.blk; rwa [← hn] at this) R2.off R2.its.len (by omega)
  have hI := h.its.put m v hv
  rw [← hn, ← hk] at hI
  have hlen := push_len l m h.its.many
  rw [← hn] at hlen
  obtain ⟨s1, s2, s3, s4⟩ := setCells_frame [.int .i64 (m.1 : Int), v] wd g (o + k * 2)
  have fr : Frame (fun j => j = g) w (wd.setCells g (o + k * 2) [.int .i64 (m.1 : Int), v]) := (Frame.of_below (F := fun j => j = g) D1).trans ⟨s1, s2, s3, Nat.le_of_eq s4.symm, fun j hj hne => setCells_keep _ _ _ _ _ hne⟩ fun j e => .inl e
  have hone : v.oneCell' = true := by obtain ⟨A, c, e, _⟩ := hv; rw [e]; rfl
  refine wpList_store_mid rfl 55 (.tmp 14) (.tmp 11) rfl g (o + k * 2) #[.int .i64 (m.1 : Int), v] rfl rfl (R2.there k (by omega)) (by kernel_rfl) (all_oneCell_toArray (cs := [.int .i64 (m.1 : Int), v]) fun x hx => by simp only [List.mem_cons, List.not_mem_nil, or_false] at hx; exact hx.elim (fun e => e ▸ rfl) fun e => e ▸ hone) ?_
  rw [show (#[Value.int .i64 (m.1 : Int), v] : Array Value).toList = [.int .i64 (m.1 : Int), v] from rfl]
  obtain ⟨ws, hws⟩ : ∃ ws, ws = wd.setCells g (o + k * 2) [.int .i64 (m.1 : Int), v] := ⟨_, rfl⟩
  rw [← hws] at T1 fr ⊢
  have a0 := rg_c32 T1 R2.off (setM_length _ _ _ _ R2.its.len (by omega))
  have a1 := rg_c33 T1 R2.off (setM_length _ _ _ _ R2.its.len (by omega))
  have a2 := T1.frozen (o + 32)
  have a3 := T1.frozen (o + 33)
  have FIN : ∀ w' f', BlkR E w' g (pre ++ rgL (setM its k (.int .i64 (m.1 : Int)) v) f' (Ss.push l m).length ++ post) → f' = (if n < 16 then f else (f + 1) % 16) → Frame (fun j => j = g) ws w' → ((∃ its' f', RgAt E F w' g o pre post its' f' (Ss.push l m)) ∧ Frame (fun k => k = g) w w') := fun w' f' hb hf fr2 => by
    subst hf
    have fr3 := fr.trans fr2 fun j e => .inl e
    exact ⟨⟨_, _, hb, h.off, hI.keep fr3.size fun j hj => fr3.block j (hF j hj) fun e => h.in_ (e ▸ hj), h.in_⟩, fr3⟩
  replace FIN := Lib.hid FIN
  have HX := Lib.hid (And.intro T1 (And.intro R2.off (And.intro (setM_length its k (.int .i64 (m.1 : Int)) v R2.its.len (by omega)) hlen)))
  clear T1 hI hlen s1 s2 s3 s4 fr hws hone hn hk R2 D1 z0 z1 n0 n1 h hv hF
  by_cases hc : n < 16
  · have q1 : IntKind.i64.wrap ((n : Int) + 1) = ((n + 1 : Nat) : Int) := by rw [IntWalk.i64_in _ (by omega)]; omega
    have i1 : (n : Int) < 16 := by omega
    go_wp2
    go_end0
    obtain ⟨T1, t2, t3, t4⟩ := HX.out
    rw [show (n : Int) + 1 = ((n + 1 : Nat) : Int) by omega]
    exact ⟨rfl, FIN.out _ f (by rw [t4, if_pos hc]; exact rg_count T1 t2 t3) (by rw [if_pos hc]) ((Frame.refl _ _).setAt _ _ rfl)⟩
  · have i1 : ¬ (n : Int) < 16 := by omega
    have zq := place_any g o f 1 ws a0 h16 (by decide)
    have q2 : (((f + 1) % 16 : Nat) : Int) = ((f : Int) + 1) % 16 := by omega
    have q3 : n = 16 := by omega
    replace q3 := Lib.hid q3
    clear hc hm zp hkl HN
    go_wp2
    go_end0
    obtain ⟨T1, t2, t3, t4⟩ := HX.out
    have q3 := q3.out
    rw [← q2]
    exact ⟨rfl, FIN.out _ ((f + 1) % 16) (by rw [t4, if_neg (by omega)]; rw [q3] at T1; exact rg_first T1 t2 t3) (by rw [if_neg (by omega)]) ((Frame.refl _ _).setAt _ _ rfl)⟩
end Go.Proofs.YtfopjilncfndnaaDoor
