/-
  What stands in the loops of SessionRoad. Conditions: none.
-/
import Derived.Test.YtfopjilncfndnaaDoorSsRoadM
namespace Go.Proofs.YtfopjilncfndnaaDoor
open Go.RowKit Fix

set_option maxRecDepth 100000 in
theorem elBl : Elem Tryd.prog 80 4 (.bool false) 1 := ⟨Tryd.underlying80, ⟨_, rfl, by kernel_rfl, by kernel_rfl, by kernel_rfl⟩, rfl, rfl⟩
def rdC (n : Nat) (C : Nat → Bool) : List Value := (List.range n).map fun k => .bool (C k)
theorem rdC_get {n k : Nat} (C : Nat → Bool) (h : k < n) : (rdC n C)[k]? = some (.bool (C k)) := by simp [rdC, h]
theorem rdC_set (n k : Nat) (C : Nat → Bool) : (rdC n C).set k (.bool true) = rdC n (upd C k) := by
  refine List.ext_getElem? fun j => ?_
  by_cases h : k = j
  · subst h
    by_cases hk : k < n
    · rw [List.getElem?_set_self (by simp [rdC]; exact hk), rdC_get _ hk]; simp [upd]
    · rw [List.getElem?_eq_none (by simp [rdC]; omega), List.getElem?_eq_none (by simp [rdC]; omega)]
  · rw [List.getElem?_set_ne h]
    unfold rdC
    simp only [List.getElem?_map]
    by_cases hj : j < n
    · simp [hj, upd, Ne.symm h]
    · rw [List.getElem?_eq_none (by simp; omega)]; rfl
theorem rdC_none (n : Nat) : rdC n (fun _ => false) = List.replicate n (.bool false) := by
  refine List.ext_getElem? fun j => ?_
  by_cases hj : j < n
  · simp [rdC, hj]
  · rw [List.getElem?_eq_none (by simp [rdC]; omega), List.getElem?_eq_none (by simp; omega)]
/-- how many came -/
def rdN (n : Nat) (C : Nat → Bool) : Nat := ((List.range n).filter C).length
theorem rdN_zero (n : Nat) : rdN n (fun _ => false) = 0 := by simp [rdN]
theorem rdN_all {n : Nat} {C : Nat → Bool} (h : ∀ k, k < n → C k = true) : rdN n C = n := by
  unfold rdN
  rw [List.filter_eq_self.2 (fun k hk => h k (by simpa using hk))]
  simp
theorem rdN_le (n : Nat) (C : Nat → Bool) : rdN n C ≤ n := by
  unfold rdN
  exact Nat.le_trans (List.length_filter_le _ _) (by simp)
theorem rdN_upd : ∀ (n k : Nat) (C : Nat → Bool), k < n → C k = false → rdN n (upd C k) = rdN n C + 1
  | 0, _, _, h, _ => by omega
  | n + 1, k, C, h, hC => by
    unfold rdN
    simp only [List.range_succ, List.filter_append, List.length_append]
    by_cases e : k = n
    · subst e
      have e1 : (List.range k).filter (upd C k) = (List.range k).filter C := List.filter_congr fun j hj => by
        have : j < k := by simpa using hj
        unfold upd
        rw [if_neg (by omega)]
      rw [e1]
      have e2 : upd C k k = true := by simp [upd]
      simp [e2, hC]
    · have ih := rdN_upd n k C (by omega) hC
      unfold rdN at ih
      rw [ih]
      have e2 : upd C k n = C n := by unfold upd; rw [if_neg (by omega)]
      have e3 : List.filter (upd C k) [n] = List.filter C [n] := List.filter_congr fun j hj => by
        have : j = n := by simpa using hj
        rw [this, e2]
      rw [e3]
      omega
theorem upd_same {C : Nat → Bool} {k : Nat} (h : C k = true) : upd C k = C := by
  funext m
  unfold upd
  split
  · rename_i e; rw [e, h]
  · rfl
/-- both sessions, and which came -/
structure Ro (w0 w : World) (a b g n i : Nat) (ms : List RowM) (C : Nat → Bool) : Prop where
  bt : Bt w0 w a b (Ra ms i) (Rb C) (fun j => j = g)
  blk : BlkR 4 w g (rdC n C)
section
variable {w0 w w' : World} {a b g n i : Nat} {ms : List RowM} {C : Nat → Bool}
theorem Ro.far (h : Ro w0 w a b g n i ms C) : g < w.heap.size ∧ w0.heap.size ≤ g ∧ g ≠ a ∧ g ≠ b := by
  obtain ⟨Fa, Fb, sa, sb, T, h1, h2, h3⟩ := h.bt
  obtain ⟨x1, x2, x3, x4, _⟩ := h3 g rfl
  exact ⟨x1, x2, x3, x4⟩
theorem Ro.step (h : Ro w0 w a b g n i ms C) (B : Below w.heap.size w w') : Ro w0 w' a b g n i ms C := ⟨h.bt.step B, h.blk.below B h.blk.lt⟩
theorem Ro.fr (h : Ro w0 w a b g n i ms C) : Below w0.heap.size w0 w := h.bt.fr
theorem Ro.low (h : Ro w0 w a b g n i ms C) : a < w.heap.size ∧ b < w.heap.size := by
  obtain ⟨Fa, Fb, sa, sb, T, _⟩ := h.bt
  exact ⟨T.a_.blt, T.b_.blt⟩
theorem ro_send (h : Ro w0 w a b g n i ms C) (hi : i < 16) (P : Option Addr) (q c : Nat) (hn : (rdP ms i).length = q) (h160 : q ≤ 160) (hP : Txt a b w P (rdP ms i)) :
    Calls Tryd.prog 16 #[.pointer (some ⟨a, 0, none⟩), .slice P q c] w fun e w' => ∃ A c', e = .returned (.tuple #[.slice A (q + 41) c', .int .i64 0]) ∧ Ro w0 w' a b g n (i + 1) ms C := by
  refine (bt_send h.bt 7 i 0 P _ q c hn h160 (by omega) hP fun _ k => ra_send hi k).mono fun e w' ⟨A, c', d, k1, k2, k3, k4, k5, k6, k7⟩ => ?_
  have := h.far
  exact ⟨A, c', k1, k3, h.blk.frame k7 fun e => by rcases e with e | e <;> omega⟩
theorem ro_waiting (h : Ro w0 w a b g n i ms C) : Calls Tryd.prog 12 #[.pointer (some ⟨a, 0, none⟩)] w fun e w' => e = .returned (.int .i64 (i : Int)) ∧ w = w' := bt_waiting h.bt i fun _ k => ra_wait k
theorem ro_resend (h : Ro w0 w a b g n i ms C) :
    Calls Tryd.prog 27 #[.pointer (some ⟨a, 0, none⟩)] w fun e w' => ∃ A c, e = .returned (.slice A i c) ∧ RsTold (rdW ms i) a b w.heap.size w' A ∧ Ro w0 w' a b g n i ms C ∧ Below w.heap.size w w' := by
  have z := bt_resend h.bt (rdW ms i) fun _ k => ⟨k.1, k.2.2.2⟩
  rw [rdW_length] at z
  exact z.mono fun e w' ⟨A, c, k1, k2, k3, k4⟩ => ⟨A, c, k1, k2, ⟨k3, h.blk.below k4 h.blk.lt⟩, k4⟩
theorem ro_new (h : Ro w0 w a b g n i ms C) (k : Nat) (hk : k < 16) (A : Option Addr) (d : Ss.D) (q m c : Nat) (hC : C k = false) (hq : (rdP ms k).length = q) (hm : q + 41 = m) (hc : m ≤ c) (hd : d.Ok) (hb : d.boot = 7) (hn : d.num = k + 1) (hp : d.pay = rdP ms k) (hA : Txt a b w A d.enc) :
    Calls Tryd.prog 38 #[.pointer (some ⟨b, 0, none⟩), .slice A m c] w fun e w' => ∃ A' c', e = .returned (.tuple #[.slice A' q c', .bool true, .int .i64 0]) ∧ q ≤ c' ∧ Bt w0 w' a b (Ra ms i) (Rb (upd C k)) (fun j => j = g) ∧ BlkR 4 w' g (rdC n C) ∧ Txt a b w' A' (rdP ms k) ∧ Frame (AB a b) w w' := by
  have z := bt_recv h.bt.swap (Qa := Rb (upd C k)) A d m c true (by rw [hp, hq]; exact hm) hc hd hA.swap fun s y => by
    obtain ⟨y1, y2⟩ := rb_recv y hb hn hk
    exact ⟨by rw [y1, hC]; rfl, y2⟩
  rw [if_pos rfl, hp, hq] at z
  have := h.far
  refine z.mono fun e w' ⟨A', c', k1, k2, k3, k5, k4⟩ => ?_
  exact ⟨A', c', k1, k5, k2.swap, h.blk.frame (AB.swap k4) fun e => by rcases e with e | e <;> omega, k3.swap, AB.swap k4⟩
theorem ro_old (h : Ro w0 w a b g n i ms C) (k : Nat) (hk : k < 16) (A : Option Addr) (d : Ss.D) (q m c : Nat) (hC : C k = true) (hq : (rdP ms k).length = q) (hm : q + 41 = m) (hc : m ≤ c) (hd : d.Ok) (hb : d.boot = 7) (hn : d.num = k + 1) (hp : d.pay = rdP ms k) (hA : Txt a b w A d.enc) :
    Calls Tryd.prog 38 #[.pointer (some ⟨b, 0, none⟩), .slice A m c] w fun e w' => ∃ A' c', e = .returned (.tuple #[.slice A' 0 c', .bool false, .int .i64 0]) ∧ Ro w0 w' a b g n i ms C ∧ Frame (AB a b) w w' := by
  have z := bt_recv h.bt.swap (Qa := Rb C) A d m c false (by rw [hp, hq]; exact hm) hc hd hA.swap fun s y => by
    obtain ⟨y1, y2⟩ := rb_recv y hb hn hk
    rw [upd_same hC] at y2
    exact ⟨by rw [y1, hC]; rfl, y2⟩
  rw [if_neg (by decide)] at z
  have := h.far
  refine z.mono fun e w' ⟨A', c', k1, k2, k3, k5, k4⟩ => ?_
  exact ⟨A', c', k1, ⟨k2.swap, h.blk.frame (AB.swap k4) fun e => by rcases e with e | e <;> omega⟩, AB.swap k4⟩
/-- what came is noted -/
theorem ro_note {k : Nat} (h1 : Bt w0 w a b (Ra ms i) (Rb (upd C k)) (fun j => j = g)) (h2 : BlkR 4 w g (rdC n C)) : Ro w0 (w.setCell ⟨g, k, none⟩ (.bool true)) a b g n i ms (upd C k) := by
  have fr : Frame (fun j => j = g) w (w.setCell ⟨g, k, none⟩ (.bool true)) := (Frame.refl _ w).setAt ⟨g, k, none⟩ _ rfl
  have h3 := h2.set_ k (.bool true)
  rw [rdC_set] at h3
  exact ⟨h1.wrote fr fun j hj => .inl hj, h3⟩
theorem ro_ack (h : Ro w0 w a b g n i ms C) :
    Calls Tryd.prog 25 #[.pointer (some ⟨b, 0, none⟩)] w fun e w' => ∃ A c' s, e = .returned (.tuple #[.slice A 41 c', .int .i64 0]) ∧ 41 ≤ c' ∧ Rb C s ∧ s.Ok ∧ Ro w0 w' a b g n i ms C ∧ Txt a b w' A (s.dat (0, [])).enc := by
  have := h.far
  refine (bt_ack h.bt.swap).mono fun e w' ⟨A, c', s, k1, k2, k3, k4, k5, k6, _, k7⟩ => ?_
  exact ⟨A, c', s, k1, k2, k3, k4, ⟨k5.swap, h.blk.frame (AB.swap k7) fun e => by rcases e with e | e <;> omega⟩, k6.swap⟩
theorem ro_last (h : Ro w0 w a b g n i ms C) (hi : i ≤ 16) (hC : ∀ k, k < i → C k = true) (A : Option Addr) (s : Ss.S) (hs : Rb C s) (ho : s.Ok) (y : Nat) (hy : 41 ≤ y) (hA : Txt a b w A (s.dat (0, [])).enc) :
    Calls Tryd.prog 18 #[.pointer (some ⟨a, 0, none⟩), .slice A 41 y] w fun e w' => e = .returned (.bool true) ∧ Bt w0 w' a b (fun s => s.wait.length = 0) (Rb C) (fun j => j = g) := by
  refine (bt_not h.bt A (s.dat (0, [])) 41 y rfl hy (Ss.dat_ok ho _ (.inl ⟨rfl, rfl⟩)) hA (Qa := fun s => s.wait.length = 0) fun t k => ?_).mono fun e w' ⟨k1, k2, k3⟩ => ⟨k1, k2⟩
  obtain ⟨a1, a2⟩ := ra_ack hi k hs hC
  exact ⟨a1, by rw [a2]; rfl⟩
end
end Go.Proofs.YtfopjilncfndnaaDoor
