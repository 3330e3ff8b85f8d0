/-
  The document's own disk (tandemref04): a row of it set anew; Write. Conditions: none.
-/
import Derived.Test.YtkokcdlgfemobaaGreatDoorMirRW
import Derived.Deep.RegionHeld3
namespace Go.Proofs.YtkokcdlgfemobaaGreatDoor
open Go.RowKit

section
variable {w w' : World} {b g0 g1 c0 c1 : Nat} {F G : Nat → Prop} {S T : DS} {xs ys : List Value} {v : Value} {l : List UInt8}
theorem MirL.mono (h : MirL w b F S g0 g1 c0 c1 xs ys) (hF : ∀ k, F k → G k) (hG : ∀ k, G k → k < w.heap.size) : MirL w b G S g0 g1 c0 c1 xs ys :=
  { h with
    Fb := hF _ h.Fb, F0 := hF _ h.F0, F1 := hF _ h.F1, lt := hG,
    fr := fun i hi => by obtain ⟨v, e, r⟩ := h.fr i hi; exact ⟨v, e, r.mono hF⟩,
    ls := fun i l hl => by obtain ⟨v, e, r⟩ := h.ls i l hl; exact ⟨v, e, r.mono hF⟩ }
theorem RowB.of_own {base : Nat} (ho : OwnB w base v l) (hl : l.length = 64) (hF : ∀ k, base ≤ k → k < w.heap.size → F k) (hb : b < base) (h0 : g0 < base) (h1 : g1 < base) : RowB w F b g0 g1 v l := by
  obtain ⟨g, cap, hv, hg, hlt⟩ := World.ownsRow.form ho (by omega)
  obtain ⟨A', c', hv', hle⟩ := ho.form
  subst hv
  have hcc : 64 ≤ cap := by
    injection hv' with _ _ e
    omega
  clear hv'
  rw [hl] at ho ⊢
  exact ⟨g, cap, rfl, ⟨hF g hg hlt, hcc⟩, by omega, by omega, by omega, ho.bytes⟩
theorem row_get {xs : List Value} {n k : Nat} (h : ∀ i, i < n → ∃ v, xs[i]? = some v) (hk : k < n) : k < xs.length := by
  obtain ⟨v, hv⟩ := h k hk
  exact (List.getElem?_eq_some_iff.1 hv).1
theorem set_size (w : World) (a : Addr) (v : Value) : (w.setCell a v).heap.size = w.heap.size := by simp [World.setCell]
theorem MirL.set_firm (h : MirL w b F S g0 g1 c0 c1 xs ys) (k : Nat) (hk : k < S.n) (hv : RowB w F b g0 g1 v l) (hl : l.length = 64) :
    MirL (w.setCell ⟨g0, k, none⟩ v) b F { S with firm := DS.upd S.firm k l } g0 g1 c0 c1 (xs.set k v) ys := by
  have hsz := set_size w ⟨g0, k, none⟩ v
  have ho : ∀ j, j ≠ g0 → (w.setCell ⟨g0, k, none⟩ v).heap[j]? = w.heap[j]? := fun j hj => Below.heap_setCell w ⟨g0, k, none⟩ v j hj
  have hkl : k < xs.length := row_get (fun i hi => by obtain ⟨v, e, _⟩ := h.fr i hi; exact ⟨v, e⟩) hk
  refine { h with ok := ⟨h.ok.n1, h.ok.n2, fun i hi => ?_, h.ok.loose⟩, head := (ho b h.n0).trans h.head, firm := h.firm.set_ k v, last := (ho g1 h.n2.symm).trans h.last, lt := fun j hj => by rw [hsz]; exact h.lt j hj, fr := fun i hi => ?_, ls := fun i m hm => ?_ }
  · show (DS.upd S.firm k l i).length = 64
    unfold DS.upd
    by_cases e : i = k
    · rw [if_pos e]; exact hl
    · rw [if_neg e]; exact h.ok.firm i hi
  · show ∃ u, (xs.set k v)[i]? = some u ∧ RowB _ F b g0 g1 u (DS.upd S.firm k l i)
    unfold DS.upd
    by_cases e : i = k
    · subst e
      rw [if_pos rfl]
      exact ⟨v, by simp [hkl], hv.kept (Nat.le_of_eq hsz.symm) fun j _ _ hj _ => ho j hj⟩
    · rw [if_neg e]
      obtain ⟨u, e1, r⟩ := h.fr i hi
      exact ⟨u, by rw [List.getElem?_set_ne (Ne.symm e)]; exact e1, r.kept (Nat.le_of_eq hsz.symm) fun j _ _ hj _ => ho j hj⟩
  · obtain ⟨u, e1, r⟩ := h.ls i m hm
    exact ⟨u, e1, r.kept (Nat.le_of_eq hsz.symm) fun j _ _ hj _ => ho j hj⟩
theorem MirL.last_len (h : MirL w b F S g0 g1 c0 c1 xs ys) {k : Nat} (hk : k < S.n) : k < ys.length := row_get (fun i hi => by
  cases hl : S.loose i with
  | none => exact ⟨_, h.ln i hi hl⟩
  | some l => obtain ⟨v, e, _⟩ := h.ls i l hl; exact ⟨v, e⟩) hk
theorem MirL.set_last (h : MirL w b F S g0 g1 c0 c1 xs ys) (k : Nat) (hk : k < S.n) (hv : RowB w F b g0 g1 v l) (hl : l.length = 64) :
    MirL (w.setCell ⟨g1, k, none⟩ v) b F { S with loose := DS.upd S.loose k (some l) } g0 g1 c0 c1 xs (ys.set k v) := by
  have hsz := set_size w ⟨g1, k, none⟩ v
  have ho : ∀ j, j ≠ g1 → (w.setCell ⟨g1, k, none⟩ v).heap[j]? = w.heap[j]? := fun j hj => Below.heap_setCell w ⟨g1, k, none⟩ v j hj
  have hkl : k < ys.length := h.last_len hk
  refine { h with ok := ⟨h.ok.n1, h.ok.n2, h.ok.firm, fun i m hm => ?_⟩, head := (ho b h.n1).trans h.head, firm := (ho g0 h.n2).trans h.firm, last := h.last.set_ k v, lt := fun j hj => by rw [hsz]; exact h.lt j hj, fr := fun i hi => ?_, ln := fun i hi hn => ?_, ls := fun i m hm => ?_ }
  · change DS.upd S.loose k (some l) i = some m at hm
    unfold DS.upd at hm
    by_cases e : i = k
    · rw [if_pos e] at hm; cases hm; subst e; exact ⟨hk, hl⟩
    · rw [if_neg e] at hm; exact h.ok.loose i m hm
  · obtain ⟨u, e1, r⟩ := h.fr i hi
    exact ⟨u, e1, r.kept (Nat.le_of_eq hsz.symm) fun j _ _ _ hj => ho j hj⟩
  · change DS.upd S.loose k (some l) i = none at hn
    unfold DS.upd at hn
    by_cases e : i = k
    · rw [if_pos e] at hn; cases hn
    · rw [if_neg e] at hn
      rw [List.getElem?_set_ne (Ne.symm e)]
      exact h.ln i hi hn
  · change DS.upd S.loose k (some l) i = some m at hm
    unfold DS.upd at hm
    by_cases e : i = k
    · rw [if_pos e] at hm; cases hm; subst e
      exact ⟨v, by simp [hkl], hv.kept (Nat.le_of_eq hsz.symm) fun j _ _ _ hj => ho j hj⟩
    · rw [if_neg e] at hm
      obtain ⟨u, e1, r⟩ := h.ls i m hm
      exact ⟨u, by rw [List.getElem?_set_ne (Ne.symm e)]; exact e1, r.kept (Nat.le_of_eq hsz.symm) fun j _ _ _ hj => ho j hj⟩
theorem MirL.set_nil (h : MirL w b F S g0 g1 c0 c1 xs ys) (k : Nat) (hk : k < S.n) :
    MirL (w.setCell ⟨g1, k, none⟩ (.slice none 0 0)) b F { S with loose := DS.upd S.loose k none } g0 g1 c0 c1 xs (ys.set k (.slice none 0 0)) := by
  have hsz := set_size w ⟨g1, k, none⟩ (.slice none 0 0)
  have ho : ∀ j, j ≠ g1 → (w.setCell ⟨g1, k, none⟩ (.slice none 0 0)).heap[j]? = w.heap[j]? := fun j hj => Below.heap_setCell w ⟨g1, k, none⟩ _ j hj
  have hkl : k < ys.length := h.last_len hk
  refine { h with ok := ⟨h.ok.n1, h.ok.n2, h.ok.firm, fun i m hm => ?_⟩, head := (ho b h.n1).trans h.head, firm := (ho g0 h.n2).trans h.firm, last := h.last.set_ k _, lt := fun j hj => by rw [hsz]; exact h.lt j hj, fr := fun i hi => ?_, ln := fun i hi hn => ?_, ls := fun i m hm => ?_ }
  · change DS.upd S.loose k none i = some m at hm
    unfold DS.upd at hm
    by_cases e : i = k
    · rw [if_pos e] at hm; cases hm
    · rw [if_neg e] at hm; exact h.ok.loose i m hm
  · obtain ⟨u, e1, r⟩ := h.fr i hi
    exact ⟨u, e1, r.kept (Nat.le_of_eq hsz.symm) fun j _ _ _ hj => ho j hj⟩
  · change DS.upd S.loose k none i = none at hn
    unfold DS.upd at hn
    by_cases e : i = k
    · subst e; simp [hkl]
    · rw [if_neg e] at hn
      rw [List.getElem?_set_ne (Ne.symm e)]
      exact h.ln i hi hn
  · change DS.upd S.loose k none i = some m at hm
    unfold DS.upd at hm
    by_cases e : i = k
    · rw [if_pos e] at hm; cases hm
    · rw [if_neg e] at hm
      obtain ⟨u, e1, r⟩ := h.ls i m hm
      exact ⟨u, by rw [List.getElem?_set_ne (Ne.symm e)]; exact e1, r.kept (Nat.le_of_eq hsz.symm) fun j _ _ _ hj => ho j hj⟩
end

/-- what a method of the document's disk answers that turns it -/
def MirPost (r : Int) (S : DS) (b : Nat) (F : Nat → Prop) (w : World) (e : Ending) (w' : World) : Prop :=
  ∃ F', e = .returned (.int .i64 r) ∧ Mir w' b F' S ∧ (∀ k, F' k → F k ∨ w.heap.size ≤ k) ∧ Frame F w w'

set_option maxRecDepth 100000 in
theorem mWrite (w : World) (b : Nat) (F : Nat → Prop) (S : DS) (i : Int) (A : Option Addr) (l : List UInt8) (n c : Nat) (h : Mir w b F S) (hops : S.ops ≤ 1000000) (hr : BytesAt w w.heap.size A l) (hA : ∀ ad, A = some ad → ¬ F ad.block) (hn : l.length = n) (hm : n ≤ 1000000) :
    Calls Tryz.prog 25 #[.pointer (some ⟨b, 0, none⟩), .int .i64 i, .slice A n c] w (MirPost (S.write i l).2 (S.write i l).1 b F w) := by
  have hM := Lib.hid h
  have zt := fun w1 (h1 : Mir w1 b F S) => mThere w1 b F S i h1
  replace zt := zt w h
  obtain ⟨g0, g1, c0, c1, xs, ys, h⟩ := h
  have x2 := h.cell2
  cases ho : S.out with
  | true =>
    rw [show S.write i l = (S, 10) by simp [DS.write, ho]]
    rw [ho] at x2
    clear h ho zt
    go_enter Tryz.func25, Tryz.ntmps25
    go_wp2
    go_ret
    exact ⟨F, rfl, hM.out, fun k hk => .inl hk, Frame.refl _ _⟩
  | false =>
    have hO := Lib.hid ho
    rw [ho] at x2
    cases ht : S.there i with
    | false =>
      rw [show S.write i l = (S, 5) by simp [DS.write, ho, ht]]
      rw [ht] at zt
      clear h ho ht
      go_enter Tryz.func25, Tryz.ntmps25
      go_wp2_with (go_at_call 48; refine zt.mono ?_; (rintro e w2 ⟨rfl, rfl⟩))
      go_ret
      exact ⟨F, rfl, hM.out, fun k hk => .inl hk, Frame.refl _ _⟩
    | true =>
      rw [ht] at zt
      by_cases h64 : n = 64
      · subst h64
        have hi := (S.there_iff i).1 ht
        obtain ⟨k, rfl⟩ : ∃ k : Nat, i = (k : Int) := ⟨i.toNat, by omega⟩
        have hk : k < S.n := by omega
        have zc := mChange w b F S hM.out hops ho
        cases hc : S.chg with
        | none =>
          rw [hc] at zc
          rw [show S.write (k : Int) l = ({ S with out := true }, 10) by simp [DS.write, ho, ht, hn, hc]]
          clear h ho ht hc hi
          go_enter Tryz.func25, Tryz.ntmps25
          go_wp2_with (first
            | (go_at_call 48; refine zt.mono ?_; (rintro e w2 ⟨rfl, rfl⟩))
            | (go_at_call 49; refine zc.mono ?_; (rintro e w2 ⟨rfl, hM2, hFr2⟩)))
          go_ret
          exact ⟨F, rfl, hM2, fun k hk => .inl hk, hFr2⟩
        | some T =>
          rw [hc] at zc
          rw [show S.write (k : Int) l = ({ T with loose := DS.upd T.loose k (some l) }, 0) by simp [DS.write, ho, ht, hn, hc]]
          have hTn : T.n = S.n := by
            unfold DS.chg at hc
            split at hc
            · cases hc
            · rw [← Option.some.inj hc]
            · rw [← Option.some.inj hc]
          have kT : k < T.n := by omega
          have kk : (k : Int) < (T.n : Int) := by omega
          obtain ⟨m, hm'⟩ : ∃ m, m = T.n := ⟨_, rfl⟩
          rw [← hm'] at kk
          replace hm' := Lib.hid hm'
          clear h ho ht hc hi hTn hk hM
          go_enter Tryz.func25, Tryz.ntmps25
          go_wp2_with (first
            | (go_at_call 48; refine zt.mono ?_; (rintro e w2 ⟨rfl, rfl⟩))
            | (go_at_call 49; refine zc.mono ?_; (rintro e w2 ⟨rfl, ⟨h0, h1, d0, d1, us, vs, hL⟩, hFr2⟩; change MirL w2 b F T h0 h1 d0 d1 us vs at hL; have y1 := hL.cell1; rw [← hm'.out] at y1; have hr2 : BytesAt w2 w2.heap.size A l := hFr2.bytes hr hA; have hL := Lib.hid hL; have hFr2 := Lib.hid hFr2)))
          have h0b : OwnB (w2.drew.alloc (.cells #[] 5)) w2.heap.size (.slice (some ⟨w2.heap.size, 0, none⟩) 0 0) [] := noBytes w2.drew
          have cd : Below w2.heap.size w2 (w2.drew.alloc (.cells #[] 5)) := (Below.refl _ _).drew.alloc (Nat.le_refl _) _
          have hr3 : BytesAt (w2.drew.alloc (.cells #[] 5)) w2.heap.size A l := hr2.below cd
          have ky : ∀ w', Below w2.heap.size w2 w' → w'.cell? ⟨b, 1, none⟩ = some (.slice (some ⟨h1, 0, none⟩) m d1) := fun w' hB => (hB.cell (hL.out.lt b hL.out.Fb)).trans y1
          have y1d := ky _ cd
          have y1e : w2.drew.cell? ⟨b, 1, none⟩ = some (.slice (some ⟨h1, 0, none⟩) m d1) := y1
          go_region_held3 (fun w' => w'.cell? ⟨b, 1, none⟩ = some (.slice (some ⟨h1, 0, none⟩) m d1)) (first | assumption | exact y5 _) (first
            | (refine step_appendB rfl (.tmp 26) (.tmp 27) 32 rfl rfl w2.heap.size _ [] rfl h0b A l 64 c w2.heap.size rfl hn hr3 (by simp; omega) (by simp) ?_; (intro v4 w4 ho4 hg4 hat4; have c4 : Below w2.heap.size w2 w4 := cd.grown hg4 (by simp) (fun j hj => (h0b.lt j hj).1); have hL4 := Lib.hid (hL.out.step c4); have y4 := ky _ c4; have f4 := hL4.out.last.frozen k; rw [List.nil_append] at ho4; obtain ⟨A4, c4', rfl, _⟩ := ho4.form; rw [hn] at ho4; rw [hn]; obtain ⟨u4, hu4⟩ : ∃ u, vs[k]? = some u := ⟨_, List.getElem?_eq_getElem (hL4.out.last_len kT)⟩; have s4 := hL4.out.last.cell hu4; have y5 : ∀ v, (w4.setCell ⟨h1, k, none⟩ v).cell? ⟨b, 1, none⟩ = some (.slice (some ⟨h1, 0, none⟩) m d1) := fun v => (World.cell?_of_block (Below.heap_setCell w4 ⟨h1, k, none⟩ v b hL.out.n1)).trans y4; have ho4 := Lib.hid ho4; have c4 := Lib.hid c4)))
          go_wp2
          go_ret
          have q4 := hL4.out
          have hs24 := c4.out.size
          have hm4 := q4.mono (G := fun j => F j ∨ (w2.heap.size ≤ j ∧ j < w4.heap.size)) (fun j hj => .inl hj) (fun j hj => hj.elim (q4.lt j) (fun h => h.2))
          have hv4 := RowB.of_own (g0 := h0) (g1 := h1) (b := b) (F := fun j => F j ∨ (w2.heap.size ≤ j ∧ j < w4.heap.size)) ho4.out hn (fun j h1 h2 => .inr ⟨h1, h2⟩) (hL.out.lt b hL.out.Fb) (hL.out.lt h0 hL.out.F0) (hL.out.lt h1 hL.out.F1)
          refine ⟨_, rfl, ⟨h0, h1, d0, d1, us, _, hm4.set_last k kT hv4 hn⟩, fun j hj => hj.elim .inl fun h => .inr (Nat.le_trans hFr2.out.size h.1), ?_⟩
          exact (hFr2.out.trans (Frame.of_below (F := F) c4.out) (fun j hj => .inl hj)).trans (frame_set w4 h1 k _ hL.out.F1) (fun j hj => .inl hj)
      · have hne : ((n : Int) != 64) = true := by simp; omega
        rw [show S.write i l = (S, 2) by simp [DS.write, ho, ht, hn, h64]]
        clear h ho ht
        go_enter Tryz.func25, Tryz.ntmps25
        go_wp2_with (go_at_call 48; refine zt.mono ?_; (rintro e w2 ⟨rfl, rfl⟩))
        go_ret
        exact ⟨F, rfl, hM.out, fun k hk => .inl hk, Frame.refl _ _⟩
end Go.Proofs.YtkokcdlgfemobaaGreatDoor
