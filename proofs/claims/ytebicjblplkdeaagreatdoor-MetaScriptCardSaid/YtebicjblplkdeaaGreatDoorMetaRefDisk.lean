/-
  tandemref06.Save, tandemref06.Load over the document's own disk. Conditions: at most so many changes.
-/
import Derived.Test.YtebicjblplkdeaaGreatDoorSlotSave
import Derived.Test.YtebicjblplkdeaaGreatDoorMetaDisk
import Derived.Test.YtebicjblplkdeaaGreatDoorMetaRefRead
namespace Go.Proofs.YtebicjblplkdeaaGreatDoor
open Go.RowKit Fix

theorem refBytesO_any (m : Mt) (l : List UInt8) (E : Int) (hb : m.bytes = l) (hE : m.err = E) (n : Nat) (hn : l.length = n) (w : World) :
    Calls Tryz.prog 21 #[.agg (mtL m).toArray] w fun e w' => ∃ A c, e = .returned (.tuple #[.slice A n c, .int .i64 E]) ∧ BytesAt w' w'.heap.size A l ∧ Below w.heap.size w w' := by
  subst hb; subst hE; subst hn
  exact (refBytes6_any m w).mono fun e w' ⟨A, c, h1, h2, h3, h4⟩ => ⟨A, c, h1, h3.bytes, h4⟩
theorem refReadO_any (A : Option Addr) (l : List UInt8) (c : Nat) (hlc : l.length ≤ c) (hcm : l.length ≤ 140737488351232) (M : Mt) (E : Int) (hM : Mt.readM l = M) (hE : Mt.readE l = E) (n : Nat) (hn : l.length = n) (w : World) (hr : BytesAt w w.heap.size A l) :
    Calls Tryz.prog 25 #[.slice A n c] w fun e w' => e = .returned (.tuple #[.agg (mtL M).toArray, .int .i64 E]) ∧ Below w.heap.size w w' := by
  subst hM; subst hE; subst hn
  exact refRead_any A l c w hlc hcm hr
/-- the reference's Load, whatever the slot's Load tells -/
theorem mMetaLoad_go (p : Value) (i : Int) (w : World) (K : World → Prop) (hK : ∀ w w', K w → Below w.heap.size w w' → K w') (h : K w) (l : List UInt8) (E : Int) (hl : l.length ≤ 40) (n : Nat) (hn : l.length = n)
    (zl : ∀ w, K w → Calls Tryz.prog 24 #[p, .int .i64 i] w fun e w' => ∃ A c, e = .returned (.tuple #[.slice A n c, .int .i64 E]) ∧ n ≤ c ∧ BytesAt w' w'.heap.size A l ∧ Below w.heap.size w w') :
    Calls Tryz.prog 12 #[p, .int .i64 i] w (MtLd (if E = 0 then Mt.readM l else Mt.zero) (if E = 0 then (if Mt.readE l = 0 then 0 else 11) else E) w) := by
  unfold MtLd
  by_cases hE : E = 0
  · subst hE
    rw [if_pos rfl, if_pos rfl]
    by_cases hr : Mt.readE l = 0
    · rw [if_pos hr]
      obtain ⟨M, hM⟩ : ∃ M, Mt.readM l = M := ⟨_, rfl⟩
      have zr := fun A c w hc r => refReadO_any A l c hc (by omega) M 0 hM hr n hn w r
      rw [hM]
      rw [hn] at zr
      clear hM hr
      go_enter Tryz.func12, Tryz.ntmps12
      go_wp2_with (first
        | ((with_reducible refine atWorld w ?_); refine wpList_allocRow (w := w) metaTy rfl rfl ?_; (intro w0 b0 B0 s0; have b0 := Lib.hid b0; have h0 := hK w w0 h B0))
        | (go_at_call 24; refine (zl w0 h0).mono ?_; (rintro e w1 ⟨A, c, rfl, hc, r1, B1⟩; have C1 := B0.trans (B1.mono B0.size); have b1 := Lib.hid (b0.out.go B1)))
        | (go_at_call 25; refine (zr A c w1 hc r1).mono ?_; (rintro e w2 ⟨rfl, B2⟩; have C2 := C1.trans (B2.mono C1.size); have b2 := Lib.hid (b1.out.go B2)))
        | ((with_reducible refine atWorld w2 ?_); refine wpList_allocRow (w := w2) metaTy rfl rfl ?_; (intro w3 b3 B3 s3; have b3 := Lib.hid b3; have C3 := C2.trans (B3.mono C2.size); have z3 := Lib.hid (b2.out.go B3)))
        | ((with_reducible refine atWorld w3 ?_); refine wpList_storeRow (w := w3) metaTy rfl (.tmp 8) (.tmp 23) rfl w2.heap.size (mtL M) (mtL Mt.zero) rfl rfl rfl rfl (mtL_one _) b3.out ?_; (intro w4 b4 B4 s4 k4; have C4 := C3.trans (B4.mono C2.size); have z4 := Lib.hid (z3.out.below B4 b2.out.lt); have b4 := Lib.hid b4))
        | ((with_reducible refine atWorld w4 ?_); refine wpList_loadRow (w := w4) metaTy rfl (.tmp 8) rfl w2.heap.size 0 (mtL M) rfl rfl (rangeOf b4.out) ?_)
        | ((with_reducible refine atWorld w4 ?_); refine wpList_storeRow (w := w4) metaTy rfl (.tmp 4) (.tmp 28) rfl w.heap.size (mtL M) (mtL Mt.zero) rfl rfl rfl rfl (mtL_one _) z4.out ?_; (intro w9 b9 B9 s9 k9)))
      exact bodyPost_ret (w := w9) (results_cell2 Tryz.results12 _ _ _ _ _ _ rfl rfl (loadRow metaTy (by rfl) b9)) rfl ⟨rfl, C4.trans B9⟩
    · rw [if_neg hr, Mt.readM_no hr]
      obtain ⟨M, hM⟩ : ∃ M, Mt.readM l = M := ⟨_, rfl⟩
      obtain ⟨E, hE⟩ : ∃ E, Mt.readE l = E := ⟨_, rfl⟩
      have zr := fun A c w hc r => refReadO_any A l c hc (by omega) M E hM hE n hn w r
      rw [hE] at hr
      rw [hn] at zr
      have hne : (E != 0) = true := by simpa using hr
      clear hM hr hE
      go_enter Tryz.func12, Tryz.ntmps12
      go_wp2_with (first
        | ((with_reducible refine atWorld w ?_); refine wpList_allocRow (w := w) metaTy rfl rfl ?_; (intro w0 b0 B0 s0; have b0 := Lib.hid b0; have h0 := hK w w0 h B0))
        | (go_at_call 24; refine (zl w0 h0).mono ?_; (rintro e w1 ⟨A, c, rfl, hc, r1, B1⟩; have C1 := B0.trans (B1.mono B0.size); have b1 := Lib.hid (b0.out.go B1)))
        | (go_at_call 25; refine (zr A c w1 hc r1).mono ?_; (rintro e w2 ⟨rfl, B2⟩; have C2 := C1.trans (B2.mono C1.size); have b2 := Lib.hid (b1.out.go B2)))
        | ((with_reducible refine atWorld w2 ?_); refine wpList_allocRow (w := w2) metaTy rfl rfl ?_; (intro w3 b3 B3 s3; have b3 := Lib.hid b3; have C3 := C2.trans (B3.mono C2.size); have z3 := Lib.hid (b2.out.go B3)))
        | ((with_reducible refine atWorld w3 ?_); refine wpList_storeRow (w := w3) metaTy rfl (.tmp 8) (.tmp 23) rfl w2.heap.size (mtL M) (mtL Mt.zero) rfl rfl rfl rfl (mtL_one _) b3.out ?_; (intro w4 b4 B4 s4 k4; have C4 := C3.trans (B4.mono C2.size); have z4 := Lib.hid (z3.out.below B4 b2.out.lt)))
        | ((with_reducible refine atWorld w4 ?_); refine wpList_storeRow (w := w4) metaTy rfl (.tmp 4) (.tmp 27) rfl w.heap.size (mtL Mt.zero) (mtL Mt.zero) rfl rfl rfl rfl (mtL_one _) z4.out ?_; (intro w9 b9 B9 s9 k9)))
      exact bodyPost_ret (w := w9) (results_cell2 Tryz.results12 _ _ _ _ _ _ rfl rfl (loadRow metaTy (by rfl) b9)) rfl ⟨rfl, C4.trans B9⟩
  · rw [if_neg hE, if_neg hE]
    have hne : (E != 0) = true := by simpa using hE
    go_enter Tryz.func12, Tryz.ntmps12
    go_wp2_with (first
      | ((with_reducible refine atWorld w ?_); refine wpList_allocRow (w := w) metaTy rfl rfl ?_; (intro w0 b0 B0 s0; have b0 := Lib.hid b0; have h0 := hK w w0 h B0))
      | (go_at_call 24; refine (zl w0 h0).mono ?_; (rintro e w1 ⟨A, c, rfl, hc, r1, B1⟩; have C1 := B0.trans (B1.mono B0.size); have b1 := Lib.hid (b0.out.go B1)))
      | ((with_reducible refine atWorld w1 ?_); refine wpList_storeRow (w := w1) metaTy rfl (.tmp 4) (.tmp 18) rfl w.heap.size (mtL Mt.zero) (mtL Mt.zero) rfl rfl rfl rfl (mtL_one _) b1.out ?_; (intro w9 b9 B9 s9 k9)))
    exact bodyPost_ret (w := w9) (results_cell2 Tryz.results12 _ _ _ _ _ _ rfl rfl (loadRow metaTy (by rfl) b9)) rfl ⟨rfl, C1.trans B9⟩
theorem mMetaLoad (w : World) (b : Nat) (F : Nat → Prop) (S : DS) (i : Int) (h : Mir w b F S) :
    Calls Tryz.prog 12 #[.pointer (some ⟨b, 0, none⟩), .int .i64 i] w (MtLd (Mt.loadM S i) (Mt.loadE S i) w) :=
  mMetaLoad_go _ i w (fun w => Mir w b F S) (fun _ _ h B => h.step B) h (Slot.loadB S i) (Slot.loadE S i) (loadB_le S i) _ rfl (fun w h => (mLoad w b F S i h).mono fun _ _ ⟨A, c, h1, h2, h3, h4⟩ => ⟨A, c, h1, h2, h3, h4⟩)
set_option maxRecDepth 100000 in
theorem mMetaSave (w : World) (b : Nat) (F : Nat → Prop) (S : DS) (i : Int) (m : Mt) (h : Mir w b F S) (ho : S.ops ≤ 990000) :
    Calls Tryz.prog 10 #[.pointer (some ⟨b, 0, none⟩), .int .i64 i, .agg (mtL m).toArray] w (ChgPost Mir b F (Mt.save S i m) w) := by
  have hD : Hid (∀ w', Below w.heap.size w w' → Mir w' b F S) := Lib.hid fun w' B => h.step B
  have bx := boxB w m
  obtain ⟨W, hW⟩ : ∃ W, W = w.alloc (.cells (mtL m).toArray 39) := ⟨_, rfl⟩
  rw [← hW] at bx
  unfold Mt.save ChgPost
  cases hk : m.ok with
  | true =>
    rw [if_pos rfl]
    have zb := fun w => refBytesO_any m m.enc 0 (by unfold Mt.bytes; rw [if_pos hk]) (Mt.err_ok hk) 26 (Mt.enc_length m) w
    have zs := fun w' A c h r => mSave w' b F S i A m.enc 26 c (Mt.enc_length m) h r ho
    unfold ChgPost at zs
    obtain ⟨T, hT⟩ : ∃ T, T = Slot.save S i m.enc := ⟨_, rfl⟩
    rw [← hT] at zs ⊢
    clear hT hk h
    go_enter Tryz.func10, Tryz.ntmps10
    go_wp2_with (first
      | (rw [← hW]; (with_reducible refine atWorld W ?_); refine wpList_loadRow (w := W) metaTy rfl (.tmp 5) rfl w.heap.size 0 (mtL m) rfl rfl (rangeOf bx.out.1) ?_)
      | (go_at_call 21; (try rw [← hW]); refine (zb W).mono ?_; (rintro e w2 ⟨A, c, rfl, r2, B2⟩; have C2 := bx.out.2.trans (B2.mono bx.out.2.size); have h2 := hD.out w2 C2))
      | (go_at_call 14; refine (zs w2 A c h2 r2).mono ?_; (rintro e w3 ⟨F3, rfl, h3, hF3, fr3⟩)))
    go_ret
    refine ⟨F3, rfl, h3, fun k hk => (hF3 k hk).imp id fun x => Nat.le_trans C2.size x, (Frame.of_below (F := F) C2).trans fr3 fun k hk => .inl hk⟩
  | false =>
    rw [if_neg (by decide)]
    have zb := fun w => refBytesO_any m [] 2 (by unfold Mt.bytes; rw [if_neg (by rw [hk]; decide)]) (Mt.err_no hk) 0 rfl w
    clear hk h
    go_enter Tryz.func10, Tryz.ntmps10
    go_wp2_with (first
      | (rw [← hW]; (with_reducible refine atWorld W ?_); refine wpList_loadRow (w := W) metaTy rfl (.tmp 5) rfl w.heap.size 0 (mtL m) rfl rfl (rangeOf bx.out.1) ?_)
      | (go_at_call 21; (try rw [← hW]); refine (zb W).mono ?_; (rintro e w2 ⟨A, c, rfl, r2, B2⟩; have C2 := bx.out.2.trans (B2.mono bx.out.2.size); have h2 := hD.out w2 C2)))
    go_ret
    exact ⟨F, rfl, h2, fun k hk => .inl hk, Frame.of_below C2⟩
end Go.Proofs.YtebicjblplkdeaaGreatDoor
