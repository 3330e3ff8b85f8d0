/-
  The walk of NetScript. Conditions: the calls can be read.
-/
import Derived.Test.YtplfhlmipdlmnaaNtScript
import Derived.Test.YtplfhlmipdlmnaaNtFullWalk
namespace Go.Proofs.Ytplfhlmipdlmnaa
open Go.RowKit Nt

def vNg : Value → Nat
  | .int _ q => (4 - q).toNat
  | _ => 0
set_option maxRecDepth 100000 in
set_option maxHeartbeats 8000000 in
theorem ntScript_any (A0 : Option Addr) (ms : List NaM) (c0 : Nat) (w : World) (hA : NasAt w w.heap.size A0 ms) : Calls Try.prog 3 #[.slice A0 ms.length c0] w fun en w' => en = .returned (.bool true) ∧ Below w.heap.size w w' := by
  have zn := nz_new w w (Below.refl _ w)
  obtain ⟨n, hn⟩ : ∃ n, n = ms.length := ⟨_, rfl⟩
  rw [← hn]
  by_cases h120 : 120 < n
  · have i0 : (120 : Int) < (n : Int) := by omega
    have za := Lib.hid fun w1 (_ : Below w.heap.size w w1) => ntAwake_any w1
    clear hn hA h120
    go_enter Try.func3, Try.ntmps3
    go_wp2_with (first
      | (go_at_call 9; (with_reducible refine zn.mono ?_); (rintro e w1 ⟨rfl, _, B1⟩; have z1 := za.out _ (step_alloc B1 (.cells (rfCells (fun _ => false) (.slice none 0 0) 0).toArray 30))))
      | (go_at_call 10; refine z1.mono ?_; (rintro e w2 ⟨rfl, B2⟩)))
    go_ret
    exact ⟨rfl, step_trans (step_alloc B1 _) B2⟩
  have i0 : ¬ (120 : Int) < (n : Int) := by omega
  have HA := Lib.hid (And.intro hA hn)
  have HN := Lib.hid (show n ≤ 120 by omega)
  have ZA := Lib.hid fun w1 (_ : Below w.heap.size w w1) => ntAwake_any w1
  clear hn hA h120
  go_enter Try.func3, Try.ntmps3
  go_wp2_with (go_at_call 9; (with_reducible refine zn.mono ?_); (rintro e w1 ⟨rfl, H1, B1⟩; have D0 := Lib.hid (du_new H1); clear H1 B1))
  obtain ⟨W4, hW4⟩ : ∃ W4, W4 = w1.alloc (.cells #[.slice none 0 0, .bool false, .bool false, .bool false, .bool false, .bool false, .bool false, .bool false, .bool false, .bool false, .int .i64 0] 30) := ⟨_, rfl⟩
  have D1 : Du w W4 w.heap.size w1.heap.size Nt.new Nt.new noW := by rw [hW4]; exact D0.out
  rw [← hW4]
  have D1 := Lib.hid D1
  clear hW4 D0 zn
  go_loopw [5] (fun ix wr => ∃ (i : Nat) (s : N), ix = .int .i64 (i : Int) ∧ i ≤ n ∧ Du w wr w.heap.size w1.heap.size s s noW ∧ s.lost + s.way.length ≤ i) (fun ix _ => 130 - vFl ix)
  case atStart => exact ⟨0, Nt.new, rfl, Nat.zero_le _, D1.out, Nat.le_refl _⟩
  case round =>
    obtain ⟨i, s, rfl, hi, inv, ht⟩ := hrel
    clear D1
    by_cases hlt : i < n
    · obtain ⟨m, hm⟩ : ∃ m, ms[i]? = some m := ⟨_, List.getElem?_eq_getElem (by rw [← HA.out.2]; exact hlt)⟩
      obtain ⟨ad, hA0, _⟩ := na_row HA.out.1 inv.fr hm
      subst hA0
      have hb := HA.out.1.b m (List.mem_of_getElem? hm)
      obtain ⟨M, hM⟩ : ∃ M, M = m.b.length := ⟨_, rfl⟩
      have YR : Hid (∀ w', Below w.heap.size w w' → w'.cell? (ad.add (i * 5)) = some (.int .i64 m.kind) ∧ w'.cell? ⟨(ad.add (i * 5)).block, (ad.add (i * 5)).off + 1, none⟩ = some (.int .i64 m.i) ∧ w'.cell? ⟨(ad.add (i * 5)).block, (ad.add (i * 5)).off + 2, none⟩ = some (.int .i64 m.to) ∧ w'.cell? ⟨(ad.add (i * 5)).block, (ad.add (i * 5)).off + 3, none⟩ = some (.bool m.is) ∧ w'.cell? ⟨(ad.add (i * 5)).block, (ad.add (i * 5)).off + 4, none⟩ = some (.slice m.A M m.cb)) := Lib.hid fun w' B => by
        obtain ⟨ad', e, hrow⟩ := na_row HA.out.1 B hm
        cases e
        subst hM
        exact ⟨by have := hrow 0 _ rfl; rwa [add_zero] at this, hrow 1 _ rfl, hrow 2 _ rfl, hrow 3 _ rfl, hrow 4 _ rfl⟩
      have c4 := (YR.out wr inv.fr).2.2.2.2
      have hlt' : (i : Int) < (n : Int) := by omega
      have hw1 : IntKind.i64.wrap ((i : Int) + 1) = (i : Int) + 1 := IntWalk.i64_in _ (by have := HN.out; omega)
      by_cases h600 : 600 < M
      · have h600' : (600 : Int) < (M : Int) := by omega
        have zw := ZA.out wr inv.fr
        have HI := Lib.hid inv.fr
        clear inv ht hb hM h600 hm hlt hi
        go_wp2_with (go_at_call 10; refine zw.mono ?_; (rintro e w2 ⟨rfl, B2⟩))
        go_ret
        exact ⟨rfl, step_trans HI.out B2⟩
      · have h600' : ¬ (600 : Int) < (M : Int) := by omega
        have C0 := YR.out wr inv.fr
        have C1 := YR.out wr.drew inv.fr.drew
        have zt := act_any (inv.step (Below.refl _ wr).drew) (by have := HN.out; omega) m (by omega) hb
        have hts : (stp s m).lost + (stp s m).way.length ≤ i + 1 := Nat.le_trans (stp_tot s m) (by omega)
        unfold ActPost naCells at zt
        rw [← hM] at zt
        obtain ⟨s3, hs3⟩ : ∃ s3, s3 = stp s m := ⟨_, rfl⟩
        rw [← hs3] at zt hts
        have eN : ((s3.way.length : Int) != (s3.way.length : Int)) = false := by simp
        have eL : ((s3.lost : Int) != (s3.lost : Int)) = false := by simp
        have HT := Lib.hid (And.intro hts hlt)
        clear inv ht hb hM h600 hm hlt hi hs3 hts
        go_upto_if 63 with fail
        go_cut [63] from 37 to 62 (fun v wx => v = .bool false ∧ Du w wx w.heap.size w1.heap.size s3 s3 noW)
        case first =>
          go_region_with (first
            | (go_at_call 11; (with_reducible refine zt.mono ?_); (rintro e w3 ⟨rfl, D3⟩; obtain ⟨⟨A3, k3, x3, _⟩, x4⟩ := D3.cells; have zc := du_count D3; have zl := du_lost D3; have H3 := Lib.hid D3; clear D3 zt C0 C1 c4))
            | (go_at_call 12; (with_reducible refine zc.mono ?_); (rintro e w4 ⟨rfl, rfl⟩))
            | (go_at_call 13; (with_reducible refine zl.mono ?_); (rintro e w5 ⟨rfl, rfl⟩)))
          all_goals (go_wp2_with fail; go_meet)
          all_goals first | exact ⟨rfl, H3.out⟩ | exact ⟨by simp, H3.out⟩ | exact ⟨by simp [eN, eL], H3.out⟩
        case rest =>
          obtain ⟨rfl, hcut⟩ := hcut
          have H3 := Lib.hid hcut
          clear hcut zt C0 C1 c4
          obtain ⟨hts, hlt⟩ := HT.out
          go_wp2_with fail
          go_loopw [6] (fun ix wr' => ∃ f : Nat, ix = .int .i64 ((f : Int) - 1) ∧ f ≤ 5 ∧ wr' = wc) (fun ix _ => vNg ix)
          case atStart => exact ⟨0, rfl, by decide, rfl⟩
          case round =>
            obtain ⟨f, rfl, hf, hwr⟩ := hrel
            subst hwr
            by_cases hf5 : f < 5
            · have hle : (f : Int) - 1 ≤ 3 := by omega
              have hwf : IntKind.i64.wrap ((f : Int) - 1 + 1) = ((f + 1 : Nat) : Int) - 1 := by rw [IntWalk.i64_in _ (by omega)]; omega
              have HF := Lib.hid hf5
              clear hf hf5
              go_wp2_with fail
              go_loopw [7] (fun ix wr'' => ∃ g : Nat, ix = .int .i64 ((g : Int) - 1) ∧ g ≤ 5 ∧ wr'' = wr) (fun ix _ => vNg ix)
              case atStart => exact ⟨0, rfl, by decide, rfl⟩
              case round =>
                obtain ⟨g, rfl, hg, hwr⟩ := hrel
                subst hwr
                by_cases hg5 : g < 5
                · have hle2 : (g : Int) - 1 ≤ 3 := by omega
                  have hwg : IntKind.i64.wrap ((g : Int) - 1 + 1) = ((g + 1 : Nat) : Int) - 1 := by rw [IntWalk.i64_in _ (by omega)]; omega
                  obtain ⟨x, hx⟩ : ∃ x, x = N.isCut s3 ((f : Int) - 1) ((g : Int) - 1) := ⟨_, rfl⟩
                  have z1 := du_isCut H3.out ((f : Int) - 1) ((g : Int) - 1) x hx.symm
                  have z2 := du_isCutR H3.out ((f : Int) - 1) ((g : Int) - 1) x hx.symm
                  have ex : (x != x) = false := by simp
                  have HG := Lib.hid hg5
                  clear hg hg5 hx
                  go_wp2_with (first
                    | (go_at_call 14; (with_reducible refine z1.mono ?_); (rintro e w6 ⟨rfl, rfl⟩))
                    | (go_at_call 15; (with_reducible refine z2.mono ?_); (rintro e w7 ⟨rfl, rfl⟩)))
                  go_roundw
                  case rel => exact ⟨g + 1, by congr 1; omega, HG.out, by simp⟩
                  case measure => have := HG.out; simp [vNg]; omega
                · have e5 : g = 5 := by omega
                  have hle2 : ¬ (g : Int) - 1 ≤ 3 := by omega
                  clear hg hg5 e5
                  go_wp2_with fail
                  go_roundw
                  case rel => exact ⟨f + 1, by congr 1; omega, HF.out, by simp⟩
                  case measure => have := HF.out; simp [vNg]; omega
            · have hle : ¬ (f : Int) - 1 ≤ 3 := by omega
              clear hf hf5
              go_wp2_with fail
              go_roundw
              case rel => exact ⟨i + 1, s3, by go_num, hlt, H3.out, hts⟩
              case measure => simp [vFl]; omega
    · have e6 : i = n := by omega
      have hlt' : ¬ (i : Int) < (n : Int) := by omega
      have zw := ZA.out wr inv.fr
      have HI := Lib.hid inv.fr
      clear inv ht hi hlt e6
      go_wp2_with (go_at_call 10; refine zw.mono ?_; (rintro e w2 ⟨rfl, B2⟩))
      go_ret
      exact ⟨rfl, step_trans HI.out B2⟩
end Go.Proofs.Ytplfhlmipdlmnaa
