/-
  tandemlaw09.told. Conditions: a disk's methods and a store's do what the document says; the table of crc lies as the program's text lays it.
-/
import Derived.Test.YtlchpolheciadaaDoorStForged
namespace Go.Proofs.YtlchpolheciadaaDoor
open Go.RowKit Fix

section
variable {At : World → Nat → (Nat → Prop) → DS → Prop} {SAt : World → Nat → (Nat → Prop) → Nat → StM → Prop} (D : Disks Tryd.prog At) (T : Stores At SAt)
include D T
set_option maxRecDepth 100000 in
set_option maxHeartbeats 4000000 in
theorem told_any (n N M : Nat) (f : Nat → List UInt8) (S : DS) (W : St.Worn S n N f) (w : World) (b g q : Nat) (H : Nat → Prop) (h : Duo At SAt w b g H S ⟨0, n, M, false⟩) (hh : HasAt H w q n f) (A : Option Addr) (l : List Int) (m c : Nat) (hm : m = l.length) (ha : AsideR H w A (iv l)) (al : Bool) (hal : l = if al = true then St.bads S 0 n else []) (htab : ∀ w' H', Keep H w H' w' → TabAt w') :
    Calls Tryd.prog 24 #[.pointer (some ⟨g, 0, none⟩), .slice (some ⟨q, 0, none⟩) n n, .slice A m c, .bool al] w fun e w' => ∃ H', e = .returned (.bool true) ∧ Duo At SAt w' b g H' S ⟨0, n, M, false⟩ ∧ Keep H w H' w' := by
  have hn64 := W.n64
  obtain ⟨cnt, hcnt⟩ : ∃ cnt : Nat → Nat, cnt = fun k => if al = true then (St.bads S 0 k).length else 0 := ⟨_, rfl⟩
  have hc0 : cnt 0 = 0 := by rw [hcnt]; cases al <;> rfl
  have hcn : cnt n = m := by rw [hcnt, hm, hal]; cases al <;> rfl
  have HC0 := Lib.hid (show ((cnt 0 : Nat) : Int) = 0 by rw [hc0]; rfl)
  have HW := Lib.hid W
  have HH := Lib.hid (And.intro hh ha)
  have HT := Lib.hid htab
  have HN := Lib.hid (And.intro hn64 hcn)
  have HD := Lib.hid h
  have hstepR : ∀ k, k < n → Blk.right (k : Nat) (S.firm (k + 1)) = true → cnt (k + 1) = cnt k := fun k hk hr => by
    rw [hcnt]
    cases al with
    | false => rfl
    | true =>
      show (St.bads S 0 (k + 1)).length = (St.bads S 0 k).length
      rw [St.bads_step, if_pos (by rw [(W.be hk).1, if_pos hr])]
      rfl
  have hstepB : ∀ k, k < n → Blk.right (k : Nat) (S.firm (k + 1)) = false → cnt (k + 1) = (if al = true then cnt k + 1 else cnt k) ∧ (al = true → (iv l)[cnt k]? = some (.int .i64 (k : Int)) ∧ cnt k < m) := fun k hk hr => by
    have hbe : St.bE S 0 (k : Int) ≠ 0 := by rw [(W.be hk).1, if_neg (by rw [hr]; decide)]; decide
    rw [hcnt]
    cases al with
    | false => exact ⟨rfl, fun x => by cases x⟩
    | true =>
      refine ⟨?_, fun _ => ?_⟩
      · show (St.bads S 0 (k + 1)).length = (St.bads S 0 k).length + 1
        rw [St.bads_step, if_neg hbe]
      · have e := St.bads_get S 0 n k hk hbe
        have hl : l = St.bads S 0 n := hal
        refine ⟨?_, ?_⟩
        · show (iv l)[(St.bads S 0 k).length]? = _
          rw [hl]
          simp [iv, e]
        · show (St.bads S 0 k).length < m
          rw [hm, hl]
          exact (List.getElem?_eq_some_iff.1 e).1
  have HSR := Lib.hid hstepR
  have HSB := Lib.hid hstepB
  have hcle : ∀ k, k ≤ n → cnt k ≤ k := fun k _ => by
    rw [hcnt]
    cases al with
    | false => exact Nat.zero_le _
    | true => exact St.bads_len S 0 k
  have HLE := Lib.hid hcle
  clear hcnt hm hal ha hh htab W h hn64 hc0 hcn hstepR hstepB hcle
  go_enter Tryd.func24, Tryd.ntmps24
  go_wp2
  go_loopw [9, 10] (fun ax ix wr => ∃ (k : Nat) (H' : Nat → Prop), ax = .int .i64 ((cnt k : Nat) : Int) ∧ ix = .int .i64 ((k : Nat) : Int) ∧ k ≤ n ∧ Duo At SAt wr b g H' S ⟨0, n, M, false⟩ ∧ Keep H w H' wr) (fun _ ix _ => n - vN9 ix)
  case atStart => exact ⟨0, H, by rw [HC0.out], rfl, Nat.zero_le _, HD.out, Keep.of_below (Below.refl _ _)⟩
  case round =>
    obtain ⟨k, H', rfl, rfl, hkn, d, K⟩ := hrel
    clear HD
    by_cases hk : k < n
    · have hk' : (k : Int) < (n : Int) := by omega
      have hk0 : (0 : Int) ≤ (k : Int) := by omega
      have hw1 : IntKind.i64.wrap ((k : Int) + 1) = (k : Int) + 1 := IntWalk.i64_in _ (by have := HN.out; omega)
      have t := HT.out wr H' K
      have zg := duo_get D T d (k : Int) t
      obtain ⟨e1, e2⟩ := HW.out.get (M := M) hk
      rw [St.get_still HW.out.q.out] at zg
      obtain ⟨cn, hcn⟩ : ∃ x, x = cnt k := ⟨_, rfl⟩
      have hcle := HLE.out k hkn
      rw [← hcn] at hcle ⊢
      have HCN := Lib.hid hcn
      by_cases hr : Blk.right (k : Nat) (S.firm (k + 1)) = true
      · rw [if_pos hr] at e1 e2
        rw [e1, e2] at zg
        have hs := Lib.hid (HSR.out k hk hr)
        have hx : Hid (∀ w' H'', Keep H' wr H'' w' → ∃ B c, w'.cell? ⟨q, k, none⟩ = some (.slice B (f k).length c) ∧ BytesAt w' w'.heap.size B (f k)) := Lib.hid fun w' H'' K2 => by
          obtain ⟨B, c, h1, h2⟩ := ((HH.out.1.keep K).keep K2).at_ hk
          exact ⟨B, c, h1, h2.1⟩
        have zs := fun A1 c1 B c (w1 : World) h h' => same_yes A1 (f k) (f k).length c1 rfl B (f k) (f k).length c rfl w1 h h' rfl
        obtain ⟨fk, hfk⟩ : ∃ x, x = (f k).length := ⟨_, rfl⟩
        simp only [← hfk] at zg hx zs
        clear e1 e2 hr hfk hcn t
        go_wp2_with (first
          | (go_at_call 9; refine zg.mono ?_; (rintro e w1 ⟨A1, c1, H1, rfl, r1, d1, K1⟩; obtain ⟨B, cb, y1, r1'⟩ := hx.out w1 H1 K1))
          | (go_at_call 42; ((with_reducible refine (zs A1 c1 B cb w1 r1 r1').mono ?_); (rintro e w2 ⟨rfl, rfl⟩))))
        go_roundw
        case rel => exact ⟨k + 1, H1, by rw [hs.out, ← HCN.out], by go_num, by omega, d1, K.trans K1⟩
        case measure => simp [vN9]; omega
      · replace hr : Blk.right (k : Nat) (S.firm (k + 1)) = false := by simpa using hr
        rw [if_neg (by rw [hr]; decide)] at e1 e2
        rw [e1, e2] at zg
        obtain ⟨hs1, hs2⟩ := HSB.out k hk hr
        have hkk : ((k : Int) != (k : Int)) = false := by simp
        have hwc : IntKind.i64.wrap ((cn : Int) + 1) = (cn : Int) + 1 := IntWalk.i64_in _ (by have := HN.out; omega)
        cases al with
        | false =>
          have hs := Lib.hid (show cnt (k + 1) = cnt k from hs1)
          clear e1 e2 hr hcn t hs1 hs2
          go_wp2_with (go_at_call 9; refine zg.mono ?_; (rintro e w1 ⟨A1, c1, H1, rfl, r1, d1, K1⟩))
          go_roundw
          case rel => exact ⟨k + 1, H1, by rw [hs.out, ← HCN.out], by go_num, by omega, d1, K.trans K1⟩
          case measure => simp [vN9]; omega
        | true =>
          have hs := Lib.hid (show cnt (k + 1) = cnt k + 1 from hs1)
          obtain ⟨hv, hlt⟩ := hs2 rfl
          rw [← hcn] at hv hlt
          have hlt1 : (cn : Int) < (m : Int) := by omega
          have hlt2 : ¬ (m : Int) ≤ (cn : Int) := by omega
          have hlt3 : decide ((m : Int) ≤ (cn : Int)) = false := by simp; omega
          have hc0 : (0 : Int) ≤ (cn : Int) := by omega
          have hx : Hid (∀ w' H'', Keep H' wr H'' w' → ∃ ad, A = some ad ∧ w'.cell? (ad.add cn) = some (.int .i64 (k : Int))) := Lib.hid fun w' H'' K2 => by
            obtain ⟨ad, h1, _, h2⟩ := (((HH.out.2.keep K).keep K2).row).at_ hv
            exact ⟨ad, h1, h2⟩
          clear e1 e2 hr hcn t hs1 hs2 hv hlt
          go_wp2_with (go_at_call 9; refine zg.mono ?_; (rintro e w1 ⟨A1, c1, H1, rfl, r1, d1, K1⟩; obtain ⟨ad, rfl, y1⟩ := hx.out w1 H1 K1))
          go_roundw
          case rel => exact ⟨k + 1, H1, by rw [hs.out, ← HCN.out]; go_num, by go_num, by omega, d1, K.trans K1⟩
          case measure => simp [vN9]; omega
    · obtain rfl : k = n := by omega
      have hk' : ¬ (k : Int) < (k : Int) := by omega
      have he := HN.out.2
      rw [he]
      have hmm : ((m : Int) == (m : Int)) = true := by simp
      clear he
      go_wp2
      go_ret
      exact ⟨rfl, H', d, K⟩
end
end Go.Proofs.YtlchpolheciadaaDoor
