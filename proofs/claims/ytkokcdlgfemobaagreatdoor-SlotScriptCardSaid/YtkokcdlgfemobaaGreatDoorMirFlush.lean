/-
  The document's own disk (tandemref04): Flush. Conditions: none.
-/
import Derived.Test.YtkokcdlgfemobaaGreatDoorMirTurn
namespace Go.Proofs.YtkokcdlgfemobaaGreatDoor
open Go.RowKit

namespace DS
/-- flushed below i -/
def flushed (T : DS) (i : Nat) : DS := { T with firm := fun j => if j < i then T.last j else T.firm j, loose := fun j => if j < i then none else T.loose j }
theorem flushed_zero (T : DS) : T.flushed 0 = T := by
  unfold flushed
  simp
theorem flushed_all (T : DS) (h : T.Ok) : T.flushed T.n = T.settle := by
  unfold flushed settle
  have e1 : (fun j => if j < T.n then T.last j else T.firm j) = T.last := by
    funext j
    by_cases hj : j < T.n
    · rw [if_pos hj]
    · rw [if_neg hj]
      have : T.loose j = none := by
        cases e : T.loose j with
        | none => rfl
        | some l => exact absurd (h.loose j l e).1 hj
      simp [last, this]
  have e2 : (fun j => if j < T.n then none else T.loose j) = fun _ => none := by
    funext j
    by_cases hj : j < T.n
    · rw [if_pos hj]
    · rw [if_neg hj]
      cases e : T.loose j with
      | none => rfl
      | some l => exact absurd (h.loose j l e).1 hj
  rw [e1, e2]
theorem flushed_none (T : DS) (i : Nat) (h : T.loose i = none) : T.flushed (i + 1) = T.flushed i := by
  unfold flushed
  have e1 : (fun j => if j < i + 1 then T.last j else T.firm j) = fun j => if j < i then T.last j else T.firm j := by
    funext j
    by_cases e : j = i
    · subst e; simp [last, h]
    · by_cases hj : j < i
      · rw [if_pos hj, if_pos (by omega)]
      · rw [if_neg hj, if_neg (by omega)]
  have e2 : (fun j => if j < i + 1 then none else T.loose j) = fun j => if j < i then none else T.loose j := by
    funext j
    by_cases e : j = i
    · subst e; simp [h]
    · by_cases hj : j < i
      · rw [if_pos hj, if_pos (by omega)]
      · rw [if_neg hj, if_neg (by omega)]
  rw [e1, e2]
theorem flushed_some (T : DS) (i : Nat) (l : List UInt8) (h : T.loose i = some l) : T.flushed (i + 1) = { T.flushed i with firm := upd (T.flushed i).firm i l, loose := upd (T.flushed i).loose i none } := by
  unfold flushed upd
  have e1 : (fun j => if j < i + 1 then T.last j else T.firm j) = fun j => if j = i then l else if j < i then T.last j else T.firm j := by
    funext j
    by_cases e : j = i
    · subst e; simp [last, h]
    · rw [if_neg e]
      by_cases hj : j < i
      · rw [if_pos hj, if_pos (by omega)]
      · rw [if_neg hj, if_neg (by omega)]
  have e2 : (fun j => if j < i + 1 then none else T.loose j) = fun j => if j = i then none else if j < i then none else T.loose j := by
    funext j
    by_cases e : j = i
    · subst e; simp
    · rw [if_neg e]
      by_cases hj : j < i
      · rw [if_pos hj, if_pos (by omega)]
      · rw [if_neg hj, if_neg (by omega)]
  rw [e1, e2]
end DS

set_option maxRecDepth 100000 in
theorem mFlush (w : World) (b : Nat) (F : Nat → Prop) (S : DS) (h : Mir w b F S) (hops : S.ops ≤ 1000000) :
    Calls Tryz.prog 26 #[.pointer (some ⟨b, 0, none⟩)] w (MirPost S.flush.2 S.flush.1 b F w) := by
  have hM := Lib.hid h
  obtain ⟨g0, g1, c0, c1, xs, ys, h⟩ := h
  have x2 := h.cell2
  cases ho : S.out with
  | true =>
    rw [show S.flush = (S, 10) by simp [DS.flush, ho]]
    rw [ho] at x2
    clear h ho
    go_enter Tryz.func26, Tryz.ntmps26
    go_wp2
    go_ret
    exact ⟨F, rfl, hM.out, fun k hk => .inl hk, Frame.refl _ _⟩
  | false =>
    rw [ho] at x2
    have zc := mChange w b F S hM.out hops ho
    cases hc : S.chg with
    | none =>
      rw [hc] at zc
      rw [show S.flush = ({ S with out := true }, 10) by simp [DS.flush, ho, hc]]
      clear h ho hc
      go_enter Tryz.func26, Tryz.ntmps26
      go_wp2_with (go_at_call 49; refine zc.mono ?_; (rintro e w2 ⟨rfl, hM2, hFr2⟩))
      go_ret
      exact ⟨F, rfl, hM2, fun k hk => .inl hk, hFr2⟩
    | some T =>
      rw [hc] at zc
      rw [show S.flush = (T.settle, 0) by simp [DS.flush, ho, hc]]
      clear h ho hc hM
      obtain ⟨n, hn⟩ : ∃ n, n = T.n := ⟨_, rfl⟩
      replace hn := Lib.hid hn
      have q1 := nil_neq
      have q2 := some_neq
      go_enter Tryz.func26, Tryz.ntmps26
      go_wp2_with (go_at_call 49; refine zc.mono ?_; (rintro e w2 ⟨rfl, ⟨h0, h1, d0, d1, us, vs, hL⟩, hFr2⟩; change MirL w2 b F T h0 h1 d0 d1 us vs at hL; have hn2 : n ≤ 1024 := Nat.le_trans (Nat.le_of_eq hn.out) hL.ok.n2; have hL := Lib.hid hL; have hFr2 := Lib.hid hFr2))
      go_loopw [3] (fun iv wr => ∃ i ps qs, i ≤ n ∧ iv = .int .i64 ((i : Nat) : Int) ∧ MirL wr b F (T.flushed i) h0 h1 d0 d1 ps qs ∧ Frame F w2 wr) (fun iv _ => n - (intOf iv).toNat)
      case atStart => exact ⟨0, us, vs, Nat.zero_le _, rfl, by rw [DS.flushed_zero]; exact hL.out, Frame.refl _ _⟩
      case round =>
        obtain ⟨i, ps, qs, hi, rfl, hm, hF⟩ := hrel
        have y0 := hm.cell0
        have y1 := hm.cell1
        have hnn : (T.flushed i).n = n := hn.out.symm
        rw [hnn] at y0 y1
        by_cases hlt : i < n
        · have hi2 : i < (T.flushed i).n := by rw [hnn]; exact hlt
          cases hl : T.loose i with
          | none =>
            have hz := hm.last.cell (hm.ln i hi2 (by simp [DS.flushed, hl]))
            have hfl := Lib.hid (DS.flushed_none T i hl)
            replace hm := Lib.hid hm
            clear hl hi2 hnn
            go_wp2
            go_roundw
            case rel => exact ⟨i + 1, ps, qs, by omega, by go_num, by rw [hfl.out]; exact hm.out, hF⟩
            case measure => simp [intOf]; omega
          | some l =>
            replace hm : MirL wr.drew b F (T.flushed i) h0 h1 d0 d1 ps qs := hm.kept (Nat.le_refl _) fun _ _ => rfl
            have hls : (T.flushed i).loose i = some l := by simp [DS.flushed, hl]
            obtain ⟨v, hv, hrow⟩ := hm.ls i l hls
            have e64 := (hm.ok.loose i l hls).2
            have hm2 := (hm.set_firm i hi2 hrow e64).set_nil i hi2
            obtain ⟨g, c, rfl, _⟩ := id hrow
            have hz := hm.last.cell hv
            have f0 : wr.drew.frozen? ⟨h0, i, none⟩ = false := hm.firm.frozen i
            obtain ⟨u, hu, _⟩ := hm.fr i hi2
            have s0 : wr.drew.cell? ⟨h0, i, none⟩ = some u := hm.firm.cell hu
            have hm1 := hm.set_firm i hi2 hrow e64
            have z0 := hm1.cell0
            have z1 := hm1.cell1
            change _ = some (Value.slice _ (T.flushed i).n _) at z0 z1
            rw [hnn] at z0 z1
            have z2 := hm1.last.cell hv
            have f1 := hm1.last.frozen i
            have hfl := Lib.hid (DS.flushed_some T i l hl)
            have b0 : (F h0 ∧ F h1) := ⟨hm.F0, hm.F1⟩
            replace hm := Lib.hid hm
            replace hm1 := Lib.hid hm1
            replace hm2 := Lib.hid hm2
            clear hl hls hi2 hnn hrow hu
            have y0d : wr.drew.cell? ⟨b, 0, none⟩ = _ := y0
            have y1d : wr.drew.cell? ⟨b, 1, none⟩ = _ := y1
            have hz0 : wr.cell? ⟨h1, i, none⟩ = _ := hz
            have f1w : wr.frozen? ⟨h1, i, none⟩ = false := hm.out.last.frozen i
            go_wp2
            go_region_held3 (fun w' => w'.cell? ⟨b, 0, none⟩ = some (.slice (some ⟨h0, 0, none⟩) n d0) ∧ w'.cell? ⟨b, 1, none⟩ = some (.slice (some ⟨h1, 0, none⟩) n d1) ∧ w'.cell? ⟨h1, i, none⟩ = some (.slice (some ⟨g, 0, none⟩) 64 c)) (first | assumption | exact ⟨y0d, y1d, hz⟩ | exact ⟨z0, z1, z2⟩) (fail)
            go_wp2
            go_roundw
            case rel =>
              refine ⟨i + 1, _, _, by omega, by go_num, by rw [hfl.out]; exact hm2.out, ?_⟩
              exact ((hF.trans (Frame.of_below (F := F) (Below.refl _ wr).drew) (fun j hj => .inl hj)).trans (frame_set _ h0 i _ b0.1) (fun j hj => .inl hj)).trans (frame_set _ h1 i _ b0.2) (fun j hj => .inl hj)
            case measure => simp [intOf]; omega
        · obtain rfl : i = n := by omega
          clear hnn
          go_wp2
          go_ret
          rw [hn.out, DS.flushed_all T hL.out.ok] at hm
          exact ⟨F, rfl, ⟨h0, h1, d0, d1, ps, qs, hm⟩, fun j hj => .inl hj, hFr2.out.trans hF (fun j hj => .inl hj)⟩
end Go.Proofs.YtkokcdlgfemobaaGreatDoor
