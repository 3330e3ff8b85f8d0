/-
  The program's own disk: Turn. Conditions: none.
-/
import Derived.Test.YtgnfajmjhlnobaaDoorDmArr
import Derived.Laws.BitsAllLaws
namespace Go.Proofs.YtgnfajmjhlnobaaDoor
open Go.RowKit Go.Maps

theorem xorU8 (x y : UInt8) : bits .xor .u8 (x.toNat : Int) (y.toNat : Int) = ((x ^^^ y).toNat : Int) := by
  rw [UInt8.toNat_xor]
  exact u8_xor_nat _ _ x.toNat_lt y.toNat_lt
section
variable {w w' : World} {b g c m nn : Nat} {F : Nat → Prop} {S : DS} {D : DU}
/-- a sector's byte, turned -/
theorem DskL.byte_set (h : DskL w b F S g c m nn D) (i : Nat) (hi : i < S.n) (j : Nat) (hj : j < 64) (x : UInt8) :
    DskL (w.setCell ⟨g, i * 64 + j, none⟩ (.int .u8 (x.toNat : Int))) b F { S with firm := DS.upd S.firm i ((S.firm i).set j x) } g c m nn D := by
  have hsz : (w.setCell ⟨g, i * 64 + j, none⟩ (.int .u8 (x.toNat : Int))).heap.size = w.heap.size := by simp [World.setCell]
  have ho : ∀ q, q ≠ g → (w.setCell ⟨g, i * 64 + j, none⟩ (.int .u8 (x.toNat : Int))).heap[q]? = w.heap[q]? := fun q hq => Below.heap_setCell w ⟨g, i * 64 + j, none⟩ _ q hq
  refine { h with ok := ⟨h.ok.n1, h.ok.n2, fun q hq => ?_, h.ok.loose⟩, head := (ho b h.nbg).trans h.head, lt := fun k hk => by rw [hsz]; exact h.lt k hk, rows := fun q hq => ?_, room := World.there_setCells h.room g (i * 64 + j) [.int .u8 (x.toNat : Int)], map := ownsMap_keep h.map (ho m h.ngm.symm) }
  · show (DS.upd S.firm i ((S.firm i).set j x) q).length = 64
    unfold DS.upd
    by_cases e : q = i
    · rw [if_pos e, List.length_set]; exact h.ok.firm i hi
    · rw [if_neg e]; exact h.ok.firm q hq
  · show World.rangeAt _ g (q * 64) (cellsOfBytes (DS.upd S.firm i ((S.firm i).set j x) q))
    unfold DS.upd
    by_cases e : q = i
    · subst e
      rw [if_pos rfl]
      have e1 : cellsOfBytes ((S.firm q).set j x) = (cellsOfBytes (S.firm q)).set j (.int .u8 (x.toNat : Int)) := by simp [cellsOfBytes, List.map_set]
      rw [e1]
      have h64 := h.ok.firm q hi
      intro k v hv
      by_cases ek : k = j
      · subst ek
        have hl : k < (cellsOfBytes (S.firm q)).length := by rw [cellsOfBytes_length]; omega
        rw [List.getElem?_set_self hl] at hv
        have h0 := h.rows q hi k _ (List.getElem?_eq_getElem hl)
        rw [← Option.some.inj hv]
        exact World.cell?_setCell_same _ _ _ h0
      · rw [List.getElem?_set_ne (Ne.symm ek)] at hv
        rw [World.cell?_setCell_other _ _ _ _ (by simp only [ne_eq, Addr.mk.injEq, true_and, and_true]; omega)]
        exact h.rows q hi k v hv
    · rw [if_neg e]
      refine World.rangeAt_setCells_apart (h.rows q hq) g (i * 64 + j) [.int .u8 (x.toNat : Int)] (.inr ?_)
      rw [cellsOfBytes_length, h.ok.firm q hq]
      simp only [List.length_cons, List.length_nil]
      rcases Nat.lt_or_gt_of_ne e with h1 | h1
      · left; omega
      · right; omega
end

set_option maxRecDepth 100000 in
theorem dTurn (w : World) (b : Nat) (F : Nat → Prop) (S : DS) (i a : Int) (mask : UInt8) (h : DiskAt w b F S) :
    Calls Tryd.prog 26 #[.pointer (some ⟨b, 0, none⟩), .int .i64 i, .int .i64 a, .int .u8 (mask.toNat : Int)] w (DPost (S.turn i a mask).2 (S.turn i a mask).1 b F w) := by
  have hM := Lib.hid h
  obtain ⟨g, c, m, nn, D, h⟩ := h
  have zm := made_yes w b h.cell0
  have zh := dHas w b g c S.n i h.cell1
  change Calls _ _ _ _ (fun e w' => e = .returned (.bool (S.there i)) ∧ w = w') at zh
  cases ht : S.there i with
  | false =>
    rw [show S.turn i a mask = (S, 5) by simp [DS.turn, ht]]
    rw [ht] at zh
    clear h ht
    go_enter Tryd.func26, Tryd.ntmps26
    go_wp2_with (first
      | (go_at_call 46; refine zm.mono ?_; (rintro e w2 ⟨rfl, rfl⟩))
      | (go_at_call 48; refine zh.mono ?_; (rintro e w2 ⟨rfl, rfl⟩)))
    go_ret
    exact ⟨F, rfl, hM.out, fun k hk => .inl hk, Frame.refl _ _⟩
  | true =>
    rw [ht] at zh
    by_cases ha : 0 ≤ a
    · by_cases ha2 : a < 64
      · have hi := (S.there_iff i).1 ht
        obtain ⟨k, rfl⟩ : ∃ k : Nat, i = (k : Int) := ⟨i.toNat, by omega⟩
        obtain ⟨j, rfl⟩ : ∃ j : Nat, a = (j : Int) := ⟨a.toNat, by omega⟩
        have hk : k < S.n := by omega
        have hj8 : j < 64 := by omega
        rw [show S.turn (k : Int) (j : Int) mask = ({ S with firm := DS.upd S.firm k ((S.firm k).set j ((S.firm k).getD j 0 ^^^ mask)) }, 0) by simp [DS.turn, ht]; omega]
        have x1 := h.cell1
        have e4 := h.ok.firm k hk
        have xg := h.rows k hk j _ (cellsOfBytes_get (S.firm k) j (by omega))
        have fg := (h.room (k * 64 + j) (by omega)).2
        rw [Nat.zero_add] at fg
        obtain ⟨y, hy⟩ : ∃ y, y = (S.firm k).getD j 0 := ⟨_, rfl⟩
        rw [← hy] at xg ⊢
        have q3 := xorU8 y mask
        obtain ⟨z, hz⟩ : ∃ z, z = y ^^^ mask := ⟨_, rfl⟩
        rw [← hz] at q3 ⊢
        have hL := Lib.hid (h.byte_set k hk j hj8 z)
        have hFg := Lib.hid h.Fg
        obtain ⟨n, hn⟩ : ∃ n, n = S.n := ⟨_, rfl⟩
        rw [← hn] at x1 hk
        have kk : (k : Int) < (n : Int) := by omega
        have jj : (j : Int) < 64 := by omega
        have x1d : w.drew.cell? ⟨b, 1, none⟩ = some (.slice (some ⟨g, 0, none⟩) n c) := x1
        have xgd : w.drew.cell? ⟨g, k * 64 + j, none⟩ = some (.int .u8 (y.toNat : Int)) := xg
        have fgd : w.drew.frozen? ⟨g, k * 64 + j, none⟩ = false := fg
        clear h ht hi hk hn e4 hy hz ha ha2
        go_enter Tryd.func26, Tryd.ntmps26
        go_wp2_with (first
          | (go_at_call 46; refine zm.mono ?_; (rintro e w2 ⟨rfl, rfl⟩))
          | (go_at_call 48; refine zh.mono ?_; (rintro e w2 ⟨rfl, rfl⟩)))
        go_region
        all_goals (go_wp2)
        go_ret
        exact ⟨F, rfl, ⟨g, c, m, nn, D, hL.out.kept (Nat.le_refl _) fun _ _ => rfl⟩, fun k hk => .inl hk, (frameSet w g _ _ hFg.out).trans (Frame.of_below (F := F) (Below.refl _ _).drew) (fun k hk => .inl hk)⟩
      · rw [show S.turn i a mask = (S, 5) by simp [DS.turn, ht]; omega]
        clear h ht
        go_enter Tryd.func26, Tryd.ntmps26
        go_wp2_with (first
          | (go_at_call 46; refine zm.mono ?_; (rintro e w2 ⟨rfl, rfl⟩))
          | (go_at_call 48; refine zh.mono ?_; (rintro e w2 ⟨rfl, rfl⟩)))
        go_ret
        exact ⟨F, rfl, hM.out, fun k hk => .inl hk, Frame.refl _ _⟩
    · rw [show S.turn i a mask = (S, 5) by simp [DS.turn, ht]; omega]
      clear h ht
      go_enter Tryd.func26, Tryd.ntmps26
      go_wp2_with (first
        | (go_at_call 46; refine zm.mono ?_; (rintro e w2 ⟨rfl, rfl⟩))
        | (go_at_call 48; refine zh.mono ?_; (rintro e w2 ⟨rfl, rfl⟩)))
      go_ret
      exact ⟨F, rfl, hM.out, fun k hk => .inl hk, Frame.refl _ _⟩
end Go.Proofs.YtgnfajmjhlnobaaDoor
