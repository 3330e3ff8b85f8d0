/-
  The document's own disk (tandemref04): Turn. Conditions: none.
-/
import Derived.Test.YtkokcdlgfemobaaGreatDoorMirW
import Derived.Laws.BitsAllLaws
namespace Go.Proofs.YtkokcdlgfemobaaGreatDoor
open Go.RowKit

theorem u8_xor' (x y : UInt8) : bits .xor .u8 (x.toNat : Int) (y.toNat : Int) = ((x ^^^ y).toNat : Int) := by
  rw [UInt8.toNat_xor]
  exact u8_xor_nat _ _ x.toNat_lt y.toNat_lt
section
variable {w : World} {base : Nat} {v : Value} {l : List UInt8}
theorem OwnB.toR (h : OwnB w base v l) : OwnR 5 w base v (cellsOfBytes l) := by
  unfold OwnR
  rw [cellsOfBytes_length]
  exact h
theorem OwnB.ofR (h : OwnR 5 w base v (cellsOfBytes l)) : OwnB w base v l := by
  unfold OwnR at h
  rw [cellsOfBytes_length] at h
  exact h
theorem OwnB.g64 (h : OwnB w base v l) (e : l.length = 64) : ∃ g c, v = .slice (some ⟨g, 0, none⟩) 64 c ∧ base ≤ g ∧ g < w.heap.size := by
  obtain ⟨g, cap, hv, hg, hlt⟩ := World.ownsRow.form h (by omega)
  rw [e] at hv
  exact ⟨g, cap, hv, hg, hlt⟩
theorem OwnB.store {n c g : Nat} (h : OwnB w base (.slice (some ⟨g, 0, none⟩) n c) l) (k : Nat) (x : UInt8) : OwnB (w.setCell ⟨g, k, none⟩ (.int .u8 (x.toNat : Int))) base (.slice (some ⟨g, 0, none⟩) n c) (l.set k x) := by
  refine OwnB.ofR ?_
  have e : cellsOfBytes (l.set k x) = (cellsOfBytes l).set k (.int .u8 (x.toNat : Int)) := by simp [cellsOfBytes, List.map_set]
  rw [e]
  exact h.toR.store k _
end

/-- a firm row set to bytes made since -/
theorem MirPost.firm {w w' : World} {b g0 g1 c0 c1 : Nat} {F : Nat → Prop} {S : DS} {xs ys : List Value} {v : Value} {l : List UInt8} {k : Nat} (h : MirL w b F S g0 g1 c0 c1 xs ys) (h2 : MirL w' b F S g0 g1 c0 c1 xs ys) (hB : Below w.heap.size w w') (ho : OwnB w' w.heap.size v l) (hl : l.length = 64) (hk : k < S.n) :
    MirPost 0 { S with firm := DS.upd S.firm k l } b F w (.returned (.int .i64 0)) (w'.setCell ⟨g0, k, none⟩ v) := by
  have hs := hB.size
  have hm4 := h2.mono (G := fun j => F j ∨ (w.heap.size ≤ j ∧ j < w'.heap.size)) (fun j hj => .inl hj) (fun j hj => hj.elim (h2.lt j) (fun h => h.2))
  have hv4 := RowB.of_own (g0 := g0) (g1 := g1) (b := b) (F := fun j => F j ∨ (w.heap.size ≤ j ∧ j < w'.heap.size)) ho hl (fun j h1 h2 => .inr ⟨h1, h2⟩) (h.lt b h.Fb) (h.lt g0 h.F0) (h.lt g1 h.F1)
  refine ⟨_, rfl, ⟨g0, g1, c0, c1, _, ys, hm4.set_firm k hk hv4 hl⟩, fun j hj => hj.elim .inl fun h => .inr h.1, ?_⟩
  exact (Frame.of_below (F := F) hB).trans (frame_set w' g0 k _ h.F0) (fun j hj => .inl hj)
set_option maxRecDepth 100000 in
theorem mTurn (w : World) (b : Nat) (F : Nat → Prop) (S : DS) (i a : Int) (mask : UInt8) (h : Mir w b F S) :
    Calls Tryz.prog 30 #[.pointer (some ⟨b, 0, none⟩), .int .i64 i, .int .i64 a, .int .u8 (mask.toNat : Int)] w (MirPost (S.turn i a mask).2 (S.turn i a mask).1 b F w) := by
  have hM := Lib.hid h
  have zt := mThere w b F S i h
  obtain ⟨g0, g1, c0, c1, xs, ys, h⟩ := h
  cases ht : S.there i with
  | false =>
    rw [show S.turn i a mask = (S, 5) by simp [DS.turn, ht]]
    rw [ht] at zt
    clear h ht
    go_enter Tryz.func30, Tryz.ntmps30
    go_wp2_with (go_at_call 48; refine zt.mono ?_; (rintro e w2 ⟨rfl, rfl⟩))
    go_ret
    exact ⟨F, rfl, hM.out, fun k hk => .inl hk, Frame.refl _ _⟩
  | true =>
    rw [ht] at zt
    by_cases ha : 0 ≤ a
    · by_cases ha2 : a < 64
      · have hi := (S.there_iff i).1 ht
        obtain ⟨k, rfl⟩ : ∃ k : Nat, i = (k : Int) := ⟨i.toNat, by omega⟩
        obtain ⟨j, rfl⟩ : ∃ j : Nat, a = (j : Int) := ⟨a.toNat, by omega⟩
        have hk : k < S.n := by omega
        rw [show S.turn (k : Int) (j : Int) mask = ({ S with firm := DS.upd S.firm k ((S.firm k).set j ((S.firm k).getD j 0 ^^^ mask)) }, 0) by simp [DS.turn, ht]; omega]
        have x0 := h.cell0
        have kk : (k : Int) < (S.n : Int) := by omega
        obtain ⟨v, hv, g, c, rfl, _, _, _, _, hb⟩ := h.fr k hk
        have hx := h.firm.cell hv
        have e4 := h.ok.firm k hk
        obtain ⟨l, hlb⟩ : ∃ l, l = S.firm k := ⟨_, rfl⟩
        rw [← hlb] at hb e4 ⊢
        have hr1 : BytesAt (w.alloc (.cells #[] 5)) w.heap.size (some ⟨g, 0, none⟩) l := hb.alloc (Nat.le_refl _) _
        have ky : ∀ w', Below w.heap.size w w' → w'.cell? ⟨b, 0, none⟩ = some (.slice (some ⟨g0, 0, none⟩) S.n c0) ∧ w'.cell? ⟨g0, k, none⟩ = some (.slice (some ⟨g, 0, none⟩) 64 c) := fun w' hB => ⟨(hB.cell (h.lt b h.Fb)).trans x0, (hB.cell (h.lt g0 h.F0)).trans hx⟩
        obtain ⟨kx1, kx2⟩ := ky _ ((Below.refl _ _).alloc (Nat.le_refl _) (.cells #[] 5))
        obtain ⟨n, hn⟩ : ∃ n, n = S.n := ⟨_, rfl⟩
        rw [← hn] at x0 kx1 kk ky
        replace hM := Lib.hid h
        have hK := Lib.hid hk
        clear h ht hi hk hv hlb hn
        have hj : j < l.length := by omega
        obtain ⟨y, hy⟩ : ∃ y, y = l.getD j 0 := ⟨_, rfl⟩
        rw [← hy]
        have q3 := u8_xor' y mask
        obtain ⟨z, hz⟩ : ∃ z, z = y ^^^ mask := ⟨_, rfl⟩
        rw [← hz] at q3 ⊢
        have hgj := cellsOfBytes_get l j hj
        rw [← hy] at hgj
        obtain ⟨l2, hl2⟩ : ∃ l2, l2 = l.set j z := ⟨_, rfl⟩
        rw [← hl2]
        have hl64 : l2.length = 64 := by rw [hl2, List.length_set]; exact e4
        have HJ := Lib.hid (And.intro hl2 (And.intro hj hl64))
        clear hy hz hl2 hj hl64
        have hj8 : j < 64 := by omega
        go_enter Tryz.func30, Tryz.ntmps30
        go_wp2_with (first
          | (go_at_call 48; refine zt.mono ?_; (rintro e w2 ⟨rfl, rfl⟩))
          | (at_builtin; refine wpList_appendB rfl (.tmp 22) (.tmp 29) 32 rfl rfl w.heap.size _ [] rfl (noBytes w) (some ⟨g, 0, none⟩) l 64 c w.heap.size rfl e4 hr1 (by simp; omega) (by simp) ?_; (intro v' w' ho hg hat; rw [List.nil_append] at ho; obtain ⟨g', cp, rfl, hg', hlt'⟩ := ho.g64 e4; have cB : Below w.heap.size w w' := noBytes_grown hg; have hc := ho.toR.cell hgj; have hf := ho.toR.frozen j; have ho2 := ho.store j z; rw [← HJ.out.1] at ho2; have cB2 := cB.setCell (p := ⟨g', j, none⟩) hg' (.int .u8 (z.toNat : Int)); obtain ⟨kz1, kz2⟩ := ky _ cB2; have hL2 := hM.out.step cB2; have fz := hL2.firm.frozen k; replace hL2 := Lib.hid hL2; have HB := Lib.hid (And.intro cB2 ho2); clear ho ho2 cB cB2 hat hg)))
        go_ret
        obtain ⟨cB, ho⟩ := HB.out
        exact MirPost.firm hM.out hL2.out cB ho HJ.out.2.2 hK.out
      · rw [show S.turn i a mask = (S, 5) by simp [DS.turn, ht]; omega]
        clear h ht
        go_enter Tryz.func30, Tryz.ntmps30
        go_wp2_with (go_at_call 48; refine zt.mono ?_; (rintro e w2 ⟨rfl, rfl⟩))
        go_ret
        exact ⟨F, rfl, hM.out, fun k hk => .inl hk, Frame.refl _ _⟩
    · rw [show S.turn i a mask = (S, 5) by simp [DS.turn, ht]; omega]
      clear h ht
      go_enter Tryz.func30, Tryz.ntmps30
      go_wp2_with (go_at_call 48; refine zt.mono ?_; (rintro e w2 ⟨rfl, rfl⟩))
      go_ret
      exact ⟨F, rfl, hM.out, fun k hk => .inl hk, Frame.refl _ _⟩
end Go.Proofs.YtkokcdlgfemobaaGreatDoor
