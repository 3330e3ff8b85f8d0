/-
  SessionOnce: settles. Conditions: none.
-/
import Derived.Test.YtfopjilncfndnaaDoorSsOnceSet
namespace Go.Proofs.YtfopjilncfndnaaDoor
open Go.RowKit Fix

section
variable {w0 w w' : World} {q a b : Nat} {V : Nat → Value} {T : Nat → List (List UInt8)} {D : Nat → Nat → Bool} {X : Nat → List Tx} {L : List Lt} {E : Nat → Ss.S → Prop}
/-- i has nothing that waits -/
def NoW (i k : Nat) (t : Ss.S) : Prop := k = i → t.wait = []
theorem set_ack {i n : Nat} {s : Ss.S} (hi : i < 2) (h : PrE w0 w q a b V T D X L (EK i s n)) (hn : n = s.wait.length) :
    Calls Tryd.prog 25 #[.pointer (some ⟨ab a b (1 - i), 0, none⟩)] w fun e w5 => ∃ A c', e = .returned (.tuple #[.slice A 41 c', .int .i64 0]) ∧ w5.cell? ⟨q, i, none⟩ = some (.pointer (some ⟨ab a b i, 0, none⟩)) ∧ (∀ c, c < (T i).length → (T i).length ≤ c + 16 → D i (c + 1) = true) ∧
      Calls Tryd.prog 18 #[.pointer (some ⟨ab a b i, 0, none⟩), .slice A 41 c'] w5 fun e w6 => e = .returned (.bool true) ∧ PrE w0 w6 q a b V T D X L (NoW i) := by
  have ej : 1 - (1 - i) = i := by omega
  refine (bt_ack (h.bti (i := 1 - i) (by omega))).mono fun e w5 ⟨A, c', u, k1, k2, k3, k4, k5, k6, k7, k8⟩ => ?_
  have h5 : PrE w0 w5 q a b V T D X L (EK i s n) := ar_old h (by omega) k5 (fun _ e => e) k8
  obtain ⟨s', hs', _⟩ := pin (h5.bti hi)
  obtain rfl : s' = s := hs'.2.1 rfl
  rw [ej] at k6
  refine ⟨A, c', k1, h5.pm.ses hi, ek_last hi hs'.1 k3.1 k3.2 hn, ?_⟩
  refine (bt_not (h5.bti hi) (Qa := fun t => SideI T D i t ∧ t.wait = []) A (u.dat (0, [])) 41 c' rfl k2 (Ss.dat_ok k4 _ (.inl ⟨rfl, rfl⟩)) k6.swap fun t ht => ?_).mono fun e w6 ⟨m1, m2, m3⟩ => ⟨m1, ar_old h5 hi (m2.weak (fun t e => ⟨e.1, fun _ => e.2⟩) (fun _ e => e)) (fun t e => ⟨e.1, fun y => by omega⟩) m3⟩
  obtain rfl : t = s' := ht.2.1 rfl
  obtain ⟨r1, r2, r3⟩ := ek_ack hi ht.1 k3.1 k3.2 hn
  exact ⟨r1, r2, r3⟩
theorem tld_at (h : Pr w0 w q a b V T D X L) {i : Nat} (hi : i < 2) : ∃ At ct, w.cell? ⟨q, 5 + i, none⟩ = some (.slice At (T i).length ct) ∧ ∀ k, k < (T i).length → ∃ g, At = some ⟨g, 0, none⟩ ∧ w.cell? ⟨g, k, none⟩ = some (.bool (D i (k + 1))) := by
  obtain ⟨At, ct, hVt, _⟩ := (h.tld hi).form
  rw [show (rdC (T i).length fun m => D i (m + 1)).length = (T i).length by simp [rdC]] at hVt
  refine ⟨At, ct, by rw [← hVt]; exact h.pm.row (by omega) (by omega), fun k hk => ?_⟩
  have ot := h.tld hi
  rw [hVt] at ot
  obtain ⟨gt, hgt, -⟩ := ot.at_g (by simp [rdC]; omega)
  subst hgt
  exact ⟨gt, rfl, ot.cell (by rw [rdC_get _ hk])⟩
/-- cells of a datagram on its way -/
theorem way_at (h : Pr w0 w q a b V T D X L) {k : Nat} {x : Lt} (hx : L[k]? = some x) : ∃ gw c, w.cell? ⟨q, 2, none⟩ = some (.slice (some ⟨gw, 0, none⟩) L.length c) ∧ w.cell? ⟨gw, k * 2, none⟩ = some (.int .i64 (x.dst : Int)) ∧ w.cell? ⟨gw, k * 2 + 1, none⟩ = some (.slice x.A (x.d.pay.length + 41) x.c) := by
  obtain ⟨Aw, c, hV, _⟩ := h.way.form
  have o := h.way
  rw [hV] at o
  obtain ⟨g, hg, _, _⟩ := o.at_g (by have := (List.getElem?_eq_some_iff.1 hx).1; omega)
  subst hg
  exact ⟨g, c, by rw [← hV]; exact h.pm.row (by decide) (by decide), o.cell rfl (flk_at lt_len L k x hx 0 _ rfl), o.cell rfl (flk_at lt_len L k x hx 1 _ rfl)⟩
def vS : Value → Nat
  | .int _ q => q.toNat
  | _ => 0
def SetO (w0 : World) (q a b : Nat) (ix : Value) (wr : World) : Prop := ∃ i : Nat, ix = .int .i64 (i : Int) ∧ i ≤ 2 ∧ PrX w0 wr q a b 100 4000
def SetI (w0 : World) (q a b : Nat) (V : Nat → Value) (T : Nat → List (List UInt8)) (X : Nat → List Tx) (Ls : List Lt) (i : Nat) (s : Ss.S) (n : Nat) (ix : Value) (wr : World) : Prop := ∃ (k : Nat) (D : Nat → Nat → Bool), ix = .int .i64 (k : Int) ∧ k ≤ n ∧ PrE w0 wr q a b V T D X Ls (EK i s k)
set_option maxRecDepth 100000 in
set_option maxHeartbeats 4000000 in
theorem settles_any (H : PrX w0 w q a b 100 4000) : Calls Tryd.prog 15 #[.pointer (some ⟨q, 0, none⟩)] w fun e w' => e = .returned (.bool true) ∧ Below w0.heap.size w0 w' := by
  have H := Lib.hid H
  go_enter Tryd.func15, Tryd.ntmps15
  go_wp2
  go_loopw [3] (fun ix wr => SetO w0 q a b ix wr) (fun ix _ => 3 - vS ix)
  case atStart => exact ⟨0, rfl, by decide, H.out⟩
  case round =>
    obtain ⟨i, rfl, hi2, inv⟩ := hrel
    clear H
    by_cases h2 : i = 2
    · have i0 : ¬ (i : Int) < 2 := by omega
      have FIN : Hid (Below w0.heap.size w0 wr) := Lib.hid (by obtain ⟨V, T, D, X, L, h, _⟩ := inv; exact h.pm.fr)
      clear inv h2 hi2
      go_wp2
      go_ret
      exact ⟨rfl, FIN.out⟩
    have hi : i < 2 := by omega
    have i0 : (i : Int) < 2 := by omega
    obtain ⟨V, T, D, X, L, h, hT, hL⟩ := inv
    obtain ⟨s, hs, he⟩ := pr_pin h hi
    obtain ⟨f0, c0, hn⟩ := way_nil he
    obtain ⟨Aw, cw, hVw, _⟩ := h.way.form
    rw [hVw] at c0
    have za := pr_again hn i hi s (fun t e => e.1 rfl) (by simp)
    have S16 : s.wait.length ≤ 16 := hs.sends.many
    have W1 : ∀ m ∈ s.wait, 1 ≤ m.1 := fun m hm => (hs.sends.wait m hm).1
    obtain ⟨n, hn0⟩ : ∃ n, n = s.wait.length := ⟨_, rfl⟩
    rw [← hn0] at za S16
    obtain ⟨N0, hN0⟩ : ∃ N0, N0 = L.length := ⟨_, rfl⟩
    rw [← hN0] at c0
    have HH := Lib.hid (And.intro hn0 (And.intro W1 (And.intro hT (And.intro hi S16))))
    clear h hs he hn hVw hT hL hn0 hN0 W1 hi hi2 h2 S16
    go_wp2_with (go_at_call 33; (with_reducible refine za.mono ?_); (rintro e w3 ⟨rfl, V', Ls, k1, k2, k3⟩; have P3 := Lib.hid k1; have L3 := Lib.hid k2; have A3 := Lib.hid k3; clear k1 k2 k3))
    clear za f0 c0
    rw [List.nil_append] at P3
    go_loopw [4] (fun ix wx => SetI w0 q a b V' T X Ls i s n ix wx) (fun ix _ => 17 - vS ix)
    case atStart => exact ⟨0, D, rfl, Nat.zero_le _, P3.out⟩
    case round =>
      obtain ⟨k, D', rfl, hk, inv⟩ := hrel
      clear P3
      by_cases hkn : k = n
      · have hk0 : ¬ (k : Int) < (n : Int) := by omega
        subst hkn
        obtain ⟨hn0, W1, hT, hi, S16⟩ := HH.out
        obtain ⟨j, hj⟩ : ∃ j, j = 1 - i := ⟨_, rfl⟩
        have zk := set_ack hi inv hn0
        rw [← hj] at zk
        have cj := inv.pm.ses (i := j) (by omega)
        have cw : ∃ A c, wr.cell? ⟨q, 2, none⟩ = some (.slice A k c) := by
          obtain ⟨A, c, hA, _⟩ := inv.pr.way.form
          rw [L3.out] at hA
          exact ⟨A, c, by rw [← hA]; exact inv.pm.row (by decide) (by decide)⟩
        obtain ⟨Aw, cw, c2⟩ := cw
        have hwj : IntKind.i64.wrap (1 - (i : Int)) = (j : Int) := by rw [IntWalk.i64_in _ (by omega)]; omega
        have hj2 : (j : Int) < 2 := by omega
        have KK : Hid (∀ wx, PrE w0 wx q a b V' T D' X Ls (NoW i) → PrX w0 wx q a b 100 4000 ∧ wx.cell? ⟨q, i, none⟩ = some (.pointer (some ⟨ab a b i, 0, none⟩)) ∧ Calls Tryd.prog 12 #[.pointer (some ⟨ab a b i, 0, none⟩)] wx (fun e w' => e = .returned (.int .i64 0) ∧ wx = w') ∧
            ∃ At ct, wx.cell? ⟨q, 5 + i, none⟩ = some (.slice At (T i).length ct) ∧ ∀ k, k < (T i).length → ∃ g, At = some ⟨g, 0, none⟩ ∧ wx.cell? ⟨g, k, none⟩ = some (.bool (D' i (k + 1)))) := Lib.hid fun wx h => by
          refine ⟨⟨V', T, D', X, Ls, h.pr, hT, by rw [L3.out]; omega⟩, h.pm.ses hi, bt_waiting (h.bti hi) 0 fun t e => by rw [e.2 rfl]; rfl, tld_at h.pr hi⟩
        obtain ⟨TN, hTN⟩ : ∃ TN, TN = (T i).length := ⟨_, rfl⟩
        rw [← hTN] at KK zk
        have hTN100 : TN ≤ 100 := by rw [hTN]; exact hT i hi
        obtain ⟨y, hy⟩ : ∃ y : Int, y = (TN : Int) - 16 := ⟨_, rfl⟩
        have hwm : IntKind.i64.wrap ((TN : Int) - 16) = y := by rw [IntWalk.i64_in _ (by omega)]; omega
        obtain ⟨k0, hk00⟩ : ∃ k0 : Nat, k0 = TN - 16 := ⟨_, rfl⟩
        have hmx : (if y > 0 then y else 0) = (k0 : Int) := by split <;> omega
        have hmx2 : (if 0 < y then y else 0) = (k0 : Int) := hmx
        have hwi : IntKind.i64.wrap ((i : Int) + 1) = (i : Int) + 1 := IntWalk.i64_in _ (by omega)
        have HTN := Lib.hid (And.intro hTN100 (And.intro hk00 hi))
        clear inv hk hj S16 W1 hn0 A3 L3 hTN hT hTN100 hk00 hy hi
        go_wp2_with (first
          | (go_at_call 25; (with_reducible refine zk.mono ?_); (rintro e w5 ⟨A, c', rfl, c5, LAST, zn⟩; have LAST := Lib.hid LAST))
          | (go_at_call 18; (with_reducible refine zn.mono ?_); (rintro e w6 ⟨rfl, k6⟩; obtain ⟨K1, c6, zw, At, ct, ct6, k6t⟩ := KK.out w6 k6; have K1 := Lib.hid K1; have KT := Lib.hid k6t; clear k6 k6t))
          | (go_at_call 12; (with_reducible refine zw.mono ?_); (rintro e w7 ⟨rfl, rfl⟩)))
        clear zk zn zw cj c2 c5 c6 KK
        go_loopw [7] (fun ix wx => wx = w6 ∧ ∃ k : Nat, ix = .int .i64 (k : Int) ∧ TN ≤ k + 16 ∧ k ≤ TN) (fun ix _ => 101 - vS ix)
        case atStart => exact ⟨rfl, k0, rfl, by have := HTN.out; omega, by have := HTN.out; omega⟩
        case round =>
          obtain ⟨rfl, c, rfl, hc1, hc2⟩ := hrel
          by_cases hcT : c = TN
          · have l0 : ¬ (c : Int) < (TN : Int) := by omega
            have HC := Lib.hid hcT
            clear hcT hc1 hc2
            go_wp2
            exact ⟨⟨i + 1, rfl, by have := HTN.out; omega, K1.out⟩, by have := HTN.out; simp [vS]; omega⟩
          · have l0 : (c : Int) < (TN : Int) := by omega
            obtain ⟨g, rfl, cg⟩ := KT.out c (by omega)
            rw [LAST.out c (by omega) hc1] at cg
            have hwc : IntKind.i64.wrap ((c : Int) + 1) = (c : Int) + 1 := IntWalk.i64_in _ (by have := HTN.out; omega)
            have HC := Lib.hid (And.intro hcT (And.intro hc1 hc2))
            clear hcT hc1 hc2
            go_wp2
            exact ⟨⟨trivial, c + 1, rfl, by have := HC.out; omega, by have := HC.out; omega⟩, by have := HC.out; have := HTN.out; simp [vS]; omega⟩
      · have hk0 : (k : Int) < (n : Int) := by omega
        obtain ⟨x, hx⟩ : ∃ x, Ls[k]? = some x := ⟨_, List.getElem?_eq_getElem (by rw [L3.out]; omega)⟩
        obtain ⟨msg, m1, m2, m3⟩ := A3.out k x hx
        obtain ⟨hn0, W1, hT, hi, S16⟩ := HH.out
        have zz := set_step hi inv hT W1 x hx msg m1 m2 m3
        obtain ⟨gw, cw, c2, c3, c4⟩ := way_at inv.pr hx
        rw [L3.out] at c2
        obtain ⟨n1, hn1⟩ : ∃ n1, n1 = x.d.pay.length + 41 := ⟨_, rfl⟩
        rw [← hn1] at c4 zz
        obtain ⟨ds, hds⟩ : ∃ ds : Int, ds = (x.dst : Int) := ⟨_, rfl⟩
        rw [← hds] at c3 zz
        have hwk : IntKind.i64.wrap ((k : Int) + 1) = (k : Int) + 1 := IntWalk.i64_in _ (by omega)
        have HK := Lib.hid (And.intro hkn (And.intro hk S16))
        clear inv hkn hk hx m1 m2 m3 hn0 W1 hT hi S16 hn1 hds
        go_wp2_with (go_at_call 34; (with_reducible refine zz.mono ?_); (rintro e w4 ⟨rfl, D2, k1, _⟩; have K1 := Lib.hid k1; clear k1))
        exact ⟨⟨k + 1, D2, rfl, by have := HK.out; omega, K1.out⟩, by have := HK.out; simp [vS]; omega⟩
end
end Go.Proofs.YtfopjilncfndnaaDoor
