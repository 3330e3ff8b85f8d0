/-
  The document's own disk (tandemref04): Read, Write, Turn. Conditions: none.
-/
import Derived.Test.YtkokcdlgfemobaaGreatDoorMir
namespace Go.Proofs.YtkokcdlgfemobaaGreatDoor
open Go.RowKit

set_option maxRecDepth 100000 in
theorem nil_neq (w : World) : (binOp .neq 32 (.slice none 0 0) (.slice none 0 0)).run Tryz.prog w = .ok (.bool false) w := by kernel_rfl
set_option maxRecDepth 100000 in
theorem some_neq (g n c : Nat) (w : World) : (binOp .neq 32 (.slice (some ⟨g, 0, none⟩) n c) (.slice none 0 0)).run Tryz.prog w = .ok (.bool true) w := by kernel_rfl
theorem noBytes (W : World) : OwnB (W.alloc (.cells #[] 5)) W.heap.size (.slice (some ⟨W.heap.size, 0, none⟩) 0 0) [] :=
  ⟨by simp [cellsOfBytes], .inr ⟨W.heap.size, 0, #[], rfl, Nat.le_refl _, heap_alloc_new W _, Nat.le_refl _, Nat.zero_le _, by simp, by simp [cellsOfBytes]⟩⟩
theorem noBytes_grown {w w' : World} (hg : (w.alloc (.cells #[] 5)).grownBy w' (some w.heap.size)) : Below w.heap.size w w' :=
  ((Below.refl _ _).alloc (Nat.le_refl _) _).grown hg (by simp) (fun k hk => Nat.le_of_eq (Option.some.inj hk))

set_option maxRecDepth 100000 in
theorem mRead (w : World) (b : Nat) (F : Nat → Prop) (S : DS) (i : Int) (h : Mir w b F S) :
    Calls Tryz.prog 38 #[.pointer (some ⟨b, 0, none⟩), .int .i64 i] w fun e w' =>
      ∃ A c, e = .returned (.tuple #[.slice A (S.readB i).length c, .int .i64 (S.readE i)]) ∧ OwnB w' w.heap.size (.slice A (S.readB i).length c) (S.readB i) ∧ Below w.heap.size w w' := by
  have zt := mThere w b F S i h
  obtain ⟨g0, g1, c0, c1, xs, ys, h⟩ := h
  have x2 := h.cell2
  cases ho : S.out with
  | true =>
    have e1 : S.readB i = [] := by simp [DS.readB, ho]
    have e2 : S.readE i = 10 := by simp [DS.readE, ho]
    rw [e1, e2]
    rw [ho] at x2
    clear h ho e1 e2 zt
    go_enter Tryz.func38, Tryz.ntmps38
    go_wp2
    go_ret2
    exact ⟨none, 0, rfl, OwnB.nil_, Below.refl _ _⟩
  | false =>
    rw [ho] at x2
    cases ht : S.there i with
    | false =>
      have e1 : S.readB i = [] := by simp [DS.readB, ho, ht]
      have e2 : S.readE i = 5 := by simp [DS.readE, ho, ht]
      rw [e1, e2]
      rw [ht] at zt
      clear h ho e1 e2 ht
      go_enter Tryz.func38, Tryz.ntmps38
      go_wp2_with (go_at_call 48; refine zt.mono ?_; (rintro e w2 ⟨rfl, rfl⟩))
      go_ret2
      exact ⟨none, 0, rfl, OwnB.nil_, Below.refl _ _⟩
    | true =>
      rw [ht] at zt
      have hi := (S.there_iff i).1 ht
      obtain ⟨k, rfl⟩ : ∃ k : Nat, i = (k : Int) := ⟨i.toNat, by omega⟩
      have hk : k < S.n := by omega
      have e1 : S.readB (k : Int) = S.last k := by simp [DS.readB, ho, ht]
      have e2 : S.readE (k : Int) = 0 := by simp [DS.readE, ho, ht]
      rw [e1, e2]
      have x0 := h.cell0
      have x1 := h.cell1
      have kk : (k : Int) < (S.n : Int) := by omega
      cases hl : S.loose k with
      | none =>
        have hy := h.last.cell (h.ln k hk hl)
        obtain ⟨v, hv, g, c, rfl, _, _, _, _, hb⟩ := h.fr k hk
        have hx := h.firm.cell hv
        have e3 : S.last k = S.firm k := by simp [DS.last, hl]
        have e4 := h.ok.firm k hk
        rw [e3, e4]
        obtain ⟨l, hlb⟩ : ∃ l, l = S.firm k := ⟨_, rfl⟩
        rw [← hlb] at hb e4 ⊢
        have hr1 : BytesAt (w.alloc (.cells #[] 5)) w.heap.size (some ⟨g, 0, none⟩) l := hb.alloc (Nat.le_refl _) _
        have kx : (w.alloc (.cells #[] 5)).cell? ⟨b, 0, none⟩ = some (.slice (some ⟨g0, 0, none⟩) S.n c0) ∧ (w.alloc (.cells #[] 5)).cell? ⟨g0, k, none⟩ = some (.slice (some ⟨g, 0, none⟩) 64 c) := by
          have hB : Below w.heap.size w (w.alloc (.cells #[] 5)) := (Below.refl _ _).alloc (Nat.le_refl _) _
          exact ⟨(hB.cell (h.lt b h.Fb)).trans x0, (hB.cell (h.lt g0 h.F0)).trans hx⟩
        obtain ⟨kx1, kx2⟩ := kx
        obtain ⟨n, hn⟩ : ∃ n, n = S.n := ⟨_, rfl⟩
        rw [← hn] at x0 x1 kx1 kk
        clear h ho e1 e2 ht hi hk hl hv hlb hn e3
        have q1 := nil_neq
        have q2 := some_neq
        go_enter Tryz.func38, Tryz.ntmps38
        go_wp2_with (first
          | (go_at_call 48; refine zt.mono ?_; (rintro e w2 ⟨rfl, rfl⟩))
          | (at_builtin; refine wpList_appendB rfl (.tmp 31) (.tmp 38) 32 rfl rfl w.heap.size _ [] rfl (noBytes w) (some ⟨g, 0, none⟩) l 64 c w.heap.size rfl e4 hr1 ?h1 ?h2 ?h3; rotate_left 2; (intro v' w' ho hg hat)))
        · rw [List.nil_append] at ho
          obtain ⟨A', c', rfl, _⟩ := ho.form
          rw [e4] at ho ⊢
          go_ret2
          exact ⟨A', c', rfl, ho, noBytes_grown hg⟩
        case h1 => simp; omega
        case h2 => simp
      | some l =>
        obtain ⟨v, hv, g, c, rfl, _, _, _, _, hb⟩ := h.ls k l hl
        have hx := h.last.cell hv
        have e3 : S.last k = l := by simp [DS.last, hl]
        have e4 := (h.ok.loose k l hl).2
        rw [e3, e4]
        have hr1 : BytesAt (w.alloc (.cells #[] 5)) w.heap.size (some ⟨g, 0, none⟩) l := hb.alloc (Nat.le_refl _) _
        have kx : (w.alloc (.cells #[] 5)).cell? ⟨b, 1, none⟩ = some (.slice (some ⟨g1, 0, none⟩) S.n c1) ∧ (w.alloc (.cells #[] 5)).cell? ⟨g1, k, none⟩ = some (.slice (some ⟨g, 0, none⟩) 64 c) := by
          have hB : Below w.heap.size w (w.alloc (.cells #[] 5)) := (Below.refl _ _).alloc (Nat.le_refl _) _
          exact ⟨(hB.cell (h.lt b h.Fb)).trans x1, (hB.cell (h.lt g1 h.F1)).trans hx⟩
        obtain ⟨kx1, kx2⟩ := kx
        obtain ⟨n, hn⟩ : ∃ n, n = S.n := ⟨_, rfl⟩
        rw [← hn] at x0 x1 kx1 kk
        clear h ho e1 e2 ht hi hk hl hv hn e3
        have q1 := nil_neq
        have q2 := some_neq
        go_enter Tryz.func38, Tryz.ntmps38
        go_wp2_with (first
          | (go_at_call 48; refine zt.mono ?_; (rintro e w2 ⟨rfl, rfl⟩))
          | (at_builtin; refine wpList_appendB rfl (.tmp 22) (.tmp 29) 32 rfl rfl w.heap.size _ [] rfl (noBytes w) (some ⟨g, 0, none⟩) l 64 c w.heap.size rfl e4 hr1 ?j1 ?j2 ?j3; rotate_left 2; (intro v' w' ho hg hat)))
        · rw [List.nil_append] at ho
          obtain ⟨A', c', rfl, _⟩ := ho.form
          rw [e4] at ho ⊢
          go_ret2
          exact ⟨A', c', rfl, ho, noBytes_grown hg⟩
        case j1 => simp; omega
        case j2 => simp
end Go.Proofs.YtkokcdlgfemobaaGreatDoor
