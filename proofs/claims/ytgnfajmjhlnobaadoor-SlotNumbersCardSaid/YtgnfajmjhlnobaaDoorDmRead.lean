/-
  The program's own disk: Read. Conditions: none.
-/
import Derived.Test.YtgnfajmjhlnobaaDoorDmArr
namespace Go.Proofs.YtgnfajmjhlnobaaDoor
open Go.RowKit Go.Maps

def DReadPost (S : DS) (i : Int) (w : World) (e : Ending) (w' : World) : Prop :=
  ∃ A c, e = .returned (.tuple #[.slice A (S.readB i).length c, .int .i64 (S.readE i)]) ∧ RdB w' w.heap.size A c (S.readB i) ∧ Below w.heap.size w w'
set_option maxRecDepth 100000 in
theorem dRead (w : World) (b : Nat) (F : Nat → Prop) (S : DS) (i : Int) (h : DiskAt w b F S) : Calls Tryd.prog 49 #[.pointer (some ⟨b, 0, none⟩), .int .i64 i] w (DReadPost S i w) := by
  obtain ⟨g, c, m, nn, D, h⟩ := h
  have zm := made_yes w b h.cell0
  have zh := dHas w b g c S.n i h.cell1
  have x1 := h.cell1
  have x2 := h.cell2
  have x5 := h.cell5
  change Calls _ _ _ _ (fun e w' => e = .returned (.bool (S.there i)) ∧ w = w') at zh
  cases ho : S.out with
  | true =>
    have e1 : S.readB i = [] := by simp [DS.readB, ho]
    have e2 : S.readE i = 10 := by simp [DS.readE, ho]
    unfold DReadPost
    rw [e1, e2]
    rw [ho] at x5
    clear h ho e1 e2 x1 x2
    go_enter Tryd.func49, Tryd.ntmps49
    go_wp2_with (go_at_call 46; refine zm.mono ?_; (rintro e w2 ⟨rfl, rfl⟩))
    go_ret2
    exact ⟨none, 0, rfl, .inl ⟨rfl, rfl, rfl⟩, Below.refl _ _⟩
  | false =>
    rw [ho] at x5
    cases ht : S.there i with
    | false =>
      have e1 : S.readB i = [] := by simp [DS.readB, ho, ht]
      have e2 : S.readE i = 5 := by simp [DS.readE, ho, ht]
      unfold DReadPost
      rw [e1, e2]
      rw [ht] at zh
      clear h ho e1 e2 ht x1 x2
      go_enter Tryd.func49, Tryd.ntmps49
      go_wp2_with (first
        | (go_at_call 46; refine zm.mono ?_; (rintro e w2 ⟨rfl, rfl⟩))
        | (go_at_call 48; refine zh.mono ?_; (rintro e w2 ⟨rfl, rfl⟩)))
      go_ret2
      exact ⟨none, 0, rfl, .inl ⟨rfl, rfl, rfl⟩, Below.refl _ _⟩
    | true =>
      rw [ht] at zh
      have hi := (S.there_iff i).1 ht
      obtain ⟨k, rfl⟩ : ∃ k : Nat, i = (k : Int) := ⟨i.toNat, by omega⟩
      have hk : k < S.n := by omega
      have hn2 := h.ok.n2
      have hlk := look_run h.map h.loose k (by omega)
      have e1 : S.readB (k : Int) = S.last k := by simp [DS.readB, ho, ht]
      have e2 : S.readE (k : Int) = 0 := by simp [DS.readE, ho, ht]
      have hl64 : (S.last k).length = 64 := by
        unfold DS.last
        cases hl : S.loose k with
        | none => exact h.ok.firm k hk
        | some l => exact (h.ok.loose k l hl).2
      have hb0 := Lib.hid (h.lt b h.Fb)
      have hg0 := Lib.hid (h.lt g h.Fg)
      unfold DReadPost
      rw [e1, e2]
      unfold DS.last at hl64 ⊢
      have hfirm := Lib.hid (h.rows k hk)
      have hf64 := Lib.hid (h.ok.firm k hk)
      obtain ⟨n, hn⟩ : ∃ n, n = S.n := ⟨_, rfl⟩
      rw [← hn] at x1 hk
      have hkk : (k : Int) < (n : Int) := by omega
      obtain ⟨f, hf⟩ : ∃ f, f = S.firm k := ⟨_, rfl⟩
      rw [← hf] at hfirm hf64 hl64
      rw [← hf]
      cases hl : S.loose k with
      | some l =>
        rw [hl] at hlk hl64
        simp only [Option.getD_some, Option.isSome_some] at hlk hl64 ⊢
        replace hl64 := Lib.hid hl64
        clear h ho e1 e2 ht hi hn hl hf hn2 x1 hk hkk
        go_enter Tryd.func49, Tryd.ntmps49
        go_wp2_with (first
          | (go_at_call 46; refine zm.mono ?_; (rintro e w2 ⟨rfl, rfl⟩))
          | (go_at_call 48; refine zh.mono ?_; (rintro e w2 ⟨rfl, rfl⟩))
          | (refine wpList_allocC rfl rfl ?_)
          | (refine wpList_storeN rfl _ _ rfl w.heap.size l zs rfl rfl hl64.out (by simp) (BlkR.new w (cellsOfBytes zs) 85) ?_; intro w3 hb3 hB3 hs3; have hb3 := Lib.hid hb3; have hB3 := Lib.hid hB3; have hs3 := Lib.hid hs3))
        go_ret2
        rw [hl64.out]
        exact ⟨_, 64, rfl, .inr ⟨w.heap.size, _, rfl, Nat.le_refl _, hb3.out, hl64.out.symm⟩, ((Below.refl _ w).alloc (Nat.le_refl _) _).trans hB3.out⟩
      | none =>
        rw [hl] at hlk hl64
        simp only [Option.getD_none, Option.isSome_none] at hlk hl64 ⊢
        clear h ho e1 e2 ht hi hn hl hf hn2 hk hl64
        have hc : ∀ w', Below w.heap.size w w' → w'.cell? ⟨b, 1, none⟩ = some (.slice (some ⟨g, 0, none⟩) n c) := fun w' hB => (hB.cell (p := ⟨b, 1, none⟩) hb0.out).trans x1
        replace hc := Lib.hid hc
        have hr : ∀ w', Below w.heap.size w w' → w'.rangeAt g (k * 64) (cellsOfBytes f) := fun w' hB => rangeAt_keep hfirm.out (hB.block g hg0.out)
        replace hr := Lib.hid hr
        clear x1
        go_enter Tryd.func49, Tryd.ntmps49
        go_wp2_with (first
          | (go_at_call 46; refine zm.mono ?_; (rintro e w2 ⟨rfl, rfl⟩))
          | (go_at_call 48; refine zh.mono ?_; (rintro e w2 ⟨rfl, rfl⟩))
          | (refine wpList_allocC rfl rfl ?_)
          | (refine wpList_storeN rfl _ _ rfl w.heap.size zs zs rfl rfl (by simp) (by simp) (BlkR.new w (cellsOfBytes zs) 85) ?_; intro w3 hb3 hB3 hs3; have hB4 := ((Below.refl _ w).alloc (Nat.le_refl _) _).trans hB3; have y1 := hc.out w3 hB4; have hr3 := Lib.hid (hr.out w3 hB4); have hb3 := Lib.hid hb3; replace hB4 := Lib.hid hB4; clear hs3 hB3)
          | (refine wpList_loadC rfl _ rfl g (k * 64) f rfl hf64.out hr3.out ?_)
          | (refine wpList_storeN rfl _ _ rfl w.heap.size f zs rfl rfl hf64.out (by simp) hb3.out ?_; intro w5 hb5 hB5 hs5; have hb5 := Lib.hid hb5; have hB5 := Lib.hid hB5; have hs5 := Lib.hid hs5))
        go_ret2
        rw [hf64.out]
        exact ⟨_, 64, rfl, .inr ⟨w.heap.size, _, rfl, Nat.le_refl _, hb5.out, hf64.out.symm⟩, hB4.out.trans hB5.out⟩
end Go.Proofs.YtgnfajmjhlnobaaDoor
