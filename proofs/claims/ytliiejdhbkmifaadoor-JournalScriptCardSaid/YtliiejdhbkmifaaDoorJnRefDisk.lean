/-
  tandemref08.Write, tandemref08.Last over the document's own disk. Conditions: at most so many changes.
-/
import Derived.Test.YtliiejdhbkmifaaDoorJnRefRead
import Derived.Test.YtliiejdhbkmifaaDoorSlSave
import Derived.Test.YtliiejdhbkmifaaDoorMi
namespace Go.Proofs.YtliiejdhbkmifaaDoor
open Go.RowKit Fix

set_option maxRecDepth 100000 in
theorem mJnWrite (w : World) (b : Nat) (F : Nat → Prop) (S : DS) (i : Int) (e : Ent) (A : Option Addr) (c : Nat) (h : Mir w b F S) (ho : S.ops ≤ 990000) (hr : BytesAt w w.heap.size A e.d) :
    Calls Tryd.prog 25 #[.pointer (some ⟨b, 0, none⟩), .int .i64 i, .agg (entL e A c).toArray] w (ChgPost Mir b F (Jn.write S i e) w) := by
  have hD : Hid (∀ w', Below w.heap.size w w' → Mir w' b F S) := Lib.hid fun w' B => h.step B
  have hlt := Lib.hid h.lt
  have bx := boxE w e A c
  obtain ⟨W, hW⟩ : ∃ W, W = w.alloc (.cells (entL e A c).toArray 24) := ⟨_, rfl⟩
  rw [← hW] at bx
  have rW := hr.step bx.out.2
  have zb := refBytes8_any e A c W rW
  unfold JrbPost at zb
  unfold Jn.write ChgPost
  cases hk : Jn.may e with
  | true =>
    rw [if_pos rfl]
    have hl : (Jn.bytesB e).length = 64 := by
      obtain ⟨a, n, he, _, _, _, hd⟩ := Jn.may_nat hk
      rw [he] at hk ⊢
      rw [Jn.bytesB_yes hk]
      exact Jn.sect_length a n e.d hd
    rw [Jn.bytesE_yes hk, hl] at zb
    obtain ⟨sc, hsc⟩ : ∃ x, x = Jn.bytesB e := ⟨_, rfl⟩
    rw [← hsc] at zb hl ⊢
    have zw := fun w A c h hr hA => mWrite w b F S i A sc 64 c h (by omega) hr hA hl (by decide)
    have hops := ops_write S i sc
    unfold MirPost at zw
    unfold Slot.put1
    by_cases hx : (S.write i sc).2 = 0
    · rw [if_pos hx]
      rw [hx] at zw
      have zf := fun w F' h => mFlush w b F' (S.write i sc).1 h (by omega)
      obtain ⟨T, hT⟩ : ∃ T, T = (S.write i sc).1 := ⟨_, rfl⟩
      rw [← hT] at zw zf ⊢
      unfold MirPost at zf
      clear hT hx hops h hr hk hl hsc
      obtain ⟨x, hx⟩ : ∃ x, x = T.flush.2 := ⟨_, rfl⟩
      obtain ⟨U, hU⟩ : ∃ x, x = T.flush.1 := ⟨_, rfl⟩
      rw [← hx, ← hU] at zf ⊢
      clear hx hU
      go_enter Tryd.func25, Tryd.ntmps25
      go_wp2_with (first
        | (rw [← hW]; (with_reducible refine atWorld W ?_); refine wpList_loadRow (w := W) entTy rfl (.tmp 5) rfl w.heap.size 0 (entL e A c) rfl rfl (rangeOf bx.out.1) ?_)
        | (go_at_call 12; (try rw [← hW]); refine zb.mono ?_; (rintro e w2 ⟨A2, c2, rfl, hc2, r2, n2, B2⟩; have C2 := bx.out.2.trans (B2.mono bx.out.2.size); have h2 := hD.out w2 C2; have hA2 : ∀ ad, A2 = some ad → ¬ F ad.block := (fun ad e hF => by have := n2 ad e; have := hlt.out _ hF; have := bx.out.2.size; omega)))
        | (go_at_call 47; refine (zw w2 A2 c2 h2 r2 hA2).mono ?_; (rintro e w3 ⟨F3, rfl, h3, hF3, fr3⟩))
        | (go_at_call 48; refine (zf w3 F3 h3).mono ?_; (rintro e w4 ⟨F4, rfl, h4, hF4, fr4⟩)))
      go_ret
      refine ⟨F4, rfl, h4, fun k hk => ?_, ((Frame.of_below (F := F) C2).trans fr3 fun k hk => .inl hk).trans fr4 fun k hk => (hF3 k hk).imp id fun x => Nat.le_trans C2.size x⟩
      rcases hF4 k hk with h | h
      · exact (hF3 k h).imp id fun x => Nat.le_trans C2.size x
      · exact .inr (Nat.le_trans (Nat.le_trans C2.size fr3.size) h)
    · rw [if_neg hx]
      obtain ⟨U, hU⟩ : ∃ U, U = S.write i sc := ⟨_, rfl⟩
      rw [← hU] at zw hx ⊢
      have hne : (U.2 != 0) = true := by simpa using hx
      clear hU hx hops h hr hk hl hsc
      go_enter Tryd.func25, Tryd.ntmps25
      go_wp2_with (first
        | (rw [← hW]; (with_reducible refine atWorld W ?_); refine wpList_loadRow (w := W) entTy rfl (.tmp 5) rfl w.heap.size 0 (entL e A c) rfl rfl (rangeOf bx.out.1) ?_)
        | (go_at_call 12; (try rw [← hW]); refine zb.mono ?_; (rintro e w2 ⟨A2, c2, rfl, hc2, r2, n2, B2⟩; have C2 := bx.out.2.trans (B2.mono bx.out.2.size); have h2 := hD.out w2 C2; have hA2 : ∀ ad, A2 = some ad → ¬ F ad.block := (fun ad e hF => by have := n2 ad e; have := hlt.out _ hF; have := bx.out.2.size; omega)))
        | (go_at_call 47; refine (zw w2 A2 c2 h2 r2 hA2).mono ?_; (rintro e w3 ⟨F3, rfl, h3, hF3, fr3⟩)))
      go_ret
      exact ⟨F3, rfl, h3, fun k hk => (hF3 k hk).imp id fun x => Nat.le_trans C2.size x, (Frame.of_below (F := F) C2).trans fr3 fun k hk => .inl hk⟩
  | false =>
    rw [if_neg (by decide)]
    rw [Jn.bytesE_no hk, Jn.bytesB_no hk] at zb
    clear hk h hr
    go_enter Tryd.func25, Tryd.ntmps25
    go_wp2_with (first
      | (rw [← hW]; (with_reducible refine atWorld W ?_); refine wpList_loadRow (w := W) entTy rfl (.tmp 5) rfl w.heap.size 0 (entL e A c) rfl rfl (rangeOf bx.out.1) ?_)
      | (go_at_call 12; (try rw [← hW]); refine zb.mono ?_; (rintro e w2 ⟨A2, c2, rfl, hc2, r2, n2, B2⟩; have C2 := bx.out.2.trans (B2.mono bx.out.2.size); have h2 := hD.out w2 C2)))
    go_ret
    exact ⟨F, rfl, h2, fun k hk => .inl hk, Frame.of_below C2⟩
/-- what the reference's Last tells -/
def JrlPost (S : DS) (i : Int) (w : World) (en : Ending) (w' : World) : Prop :=
  ∃ A c, en = .returned (.tuple #[.agg (entL (Jn.lastV S i) A c).toArray, .int .i64 (Jn.lastE S i)]) ∧ BytesAt w' w'.heap.size A (Jn.lastV S i).d ∧ Below w.heap.size w w'
theorem JrlPost.none_ {S : DS} {i x : Int} {w w' : World} (hv : Jn.lastV S i = Jn.zero) (hx : Jn.lastE S i = x) (hB : Below w.heap.size w w') : JrlPost S i w (.returned (.tuple #[.agg entZ.toArray, .int .i64 x])) w' :=
  ⟨none, 0, by rw [hx, hv]; rfl, by rw [hv]; exact bytes_nil, hB⟩
set_option maxRecDepth 100000 in
theorem mJnLast (w : World) (b : Nat) (F : Nat → Prop) (S : DS) (i : Int) (h : Mir w b F S) :
    Calls Tryd.prog 27 #[.pointer (some ⟨b, 0, none⟩), .int .i64 i] w (JrlPost S i w) := by
  have zl := fun w h => mRead w b F S i h
  have hD : Hid (∀ w', Below w.heap.size w w' → Mir w' b F S) := Lib.hid fun w' B => h.step B
  by_cases hE : S.readE i = 0
  · have hl := DS.readB_length h.ok hE
    rw [hE, hl] at zl
    obtain ⟨l, hll⟩ : ∃ l, l = S.readB i := ⟨_, rfl⟩
    have zr := fun A c w hc r => refRead8_any A l 64 c (by rw [hll]; exact hl) hc w r
    rw [← hll] at zl
    unfold JrrPost at zr
    cases hr : Jn.right l with
    | true =>
      have eE : Jn.lastE S i = 0 := by unfold Jn.lastE; rw [if_pos hE, ← hll, if_pos hr]
      have eV : Jn.lastV S i = Jn.readV l := by unfold Jn.lastV; rw [if_pos hE, ← hll]
      have hp : ∀ A c w', BytesAt w' w'.heap.size A (Jn.readV l).d → Below w.heap.size w w' → JrlPost S i w (.returned (.tuple #[.agg (entL (Jn.readV l) A c).toArray, .int .i64 0])) w' := fun A c w' h1 h2 => ⟨A, c, by rw [eE, eV], by rw [eV]; exact h1, h2⟩
      replace hp := Lib.hid hp
      rw [(Jn.readE_zero l).2 hr] at zr
      obtain ⟨V, hV⟩ : ∃ V, V = Jn.readV l := ⟨_, rfl⟩
      rw [← hV] at zr hp
      clear hV hr hl hE eE eV hll h
      go_enter Tryd.func27, Tryd.ntmps27
      go_wp2_with (first
        | ((with_reducible refine atWorld w ?_); refine wpList_allocRow (w := w) entTy rfl rfl ?_; (intro w0 b0 B0 s0; have b0 := Lib.hid b0; have h0 := hD.out w0 B0))
        | (go_at_call 50; refine (zl w0 h0).mono ?_; (rintro e w1 ⟨A, c, rfl, o1, B1⟩; have C1 := B0.trans (B1.mono B0.size); have b1 := Lib.hid (b0.out.step B1); have r1 := o1.bytes; have hc1 : 64 ≤ c := (by obtain ⟨_, _, ho, hcc⟩ := o1.form; injection ho with _ _ e3; omega)))
        | (go_at_call 14; refine (zr A c w1 hc1 r1).mono ?_; (rintro e w2 ⟨A2, c2, rfl, hc2, r2, n2, B2⟩; have C2 := C1.trans (B2.mono C1.size); have b2 := Lib.hid (b1.out.step B2)))
        | ((with_reducible refine atWorld w2 ?_); refine wpList_allocRow (w := w2) entTy rfl rfl ?_; (intro w3 b3 B3 s3; have b3 := Lib.hid b3))
        | ((with_reducible refine atWorld w3 ?_); refine wpList_storeRow (w := w3) entTy rfl (.tmp 8) (.tmp 23) rfl w2.heap.size (entL V A2 c2) entZ rfl rfl rfl rfl (ent_one _ _ _) b3.out ?_; (intro w4 b4 B4 s4 k4; have B24 : Below w2.heap.size w2 w4 := B3.trans B4; have C4 := step_trans C2 B24; have z4 := Lib.hid (b2.out.step B24); have r4 := r2.step B24; have b4 := Lib.hid b4))
        | ((with_reducible refine atWorld w4 ?_); refine wpList_loadRow (w := w4) entTy rfl (.tmp 8) rfl w2.heap.size 0 (entL V A2 c2) rfl rfl (rangeOf b4.out) ?_)
        | ((with_reducible refine atWorld w4 ?_); refine wpList_storeRow (w := w4) entTy rfl (.tmp 4) (.tmp 28) rfl w.heap.size (entL V A2 c2) entZ rfl rfl rfl rfl (ent_one _ _ _) z4.out ?_; (intro w9 b9 B9 s9 k9)))
      have r9 : BytesAt w9 w9.heap.size A2 V.d := r4.else_ s9 k9 fun ad e => by have := n2 ad e; have := B1.size; omega
      exact bodyPost_ret (w := w9) (results_cell2 Tryd.results27 _ _ _ _ _ _ rfl rfl (loadRow entTy (by rfl) b9)) rfl (hp.out A2 c2 w9 r9 (C4.trans B9))
    | false =>
      have eE : Jn.lastE S i = 6 := by unfold Jn.lastE; rw [if_pos hE, ← hll, if_neg (by rw [hr]; decide)]
      have eV : Jn.lastV S i = Jn.zero := by unfold Jn.lastV; rw [if_pos hE, ← hll, Jn.readV_no hr]
      have hp : ∀ w', Below w.heap.size w w' → JrlPost S i w (.returned (.tuple #[.agg entZ.toArray, .int .i64 6])) w' := fun w' h2 => JrlPost.none_ eV eE h2
      replace hp := Lib.hid hp
      rw [Jn.readE_bad (by rw [hll]; exact hl) hr] at zr
      obtain ⟨V, hV⟩ : ∃ V, V = Jn.readV l := ⟨_, rfl⟩
      rw [← hV] at zr
      clear hV hr hl hE eE eV hll h
      go_enter Tryd.func27, Tryd.ntmps27
      go_wp2_with (first
        | ((with_reducible refine atWorld w ?_); refine wpList_allocRow (w := w) entTy rfl rfl ?_; (intro w0 b0 B0 s0; have b0 := Lib.hid b0; have h0 := hD.out w0 B0))
        | (go_at_call 50; refine (zl w0 h0).mono ?_; (rintro e w1 ⟨A, c, rfl, o1, B1⟩; have C1 := B0.trans (B1.mono B0.size); have b1 := Lib.hid (b0.out.step B1); have r1 := o1.bytes; have hc1 : 64 ≤ c := (by obtain ⟨_, _, ho, hcc⟩ := o1.form; injection ho with _ _ e3; omega)))
        | (go_at_call 14; refine (zr A c w1 hc1 r1).mono ?_; (rintro e w2 ⟨A2, c2, rfl, hc2, r2, n2, B2⟩; have C2 := C1.trans (B2.mono C1.size); have b2 := Lib.hid (b1.out.step B2)))
        | ((with_reducible refine atWorld w2 ?_); refine wpList_allocRow (w := w2) entTy rfl rfl ?_; (intro w3 b3 B3 s3; have b3 := Lib.hid b3))
        | ((with_reducible refine atWorld w3 ?_); refine wpList_storeRow (w := w3) entTy rfl (.tmp 8) (.tmp 23) rfl w2.heap.size (entL V A2 c2) entZ rfl rfl rfl rfl (ent_one _ _ _) b3.out ?_; (intro w4 b4 B4 s4 k4; have B24 : Below w2.heap.size w2 w4 := B3.trans B4; have C4 := step_trans C2 B24; have z4 := Lib.hid (b2.out.step B24)))
        | ((with_reducible refine atWorld w4 ?_); refine wpList_storeRow (w := w4) entTy rfl (.tmp 4) (.tmp 27) rfl w.heap.size entZ entZ rfl rfl rfl rfl (ent_one Jn.zero none 0) z4.out ?_; (intro w9 b9 B9 s9 k9)))
      exact bodyPost_ret (w := w9) (results_cell2 Tryd.results27 _ _ _ _ _ _ rfl rfl (loadRow entTy (by rfl) b9)) rfl (hp.out w9 (C4.trans B9))
  · have eE : Jn.lastE S i = S.readE i := by unfold Jn.lastE; rw [if_neg hE]
    have eV : Jn.lastV S i = Jn.zero := by unfold Jn.lastV; rw [if_neg hE]
    have hp : ∀ w', Below w.heap.size w w' → JrlPost S i w (.returned (.tuple #[.agg entZ.toArray, .int .i64 (S.readE i)])) w' := fun w' h2 => JrlPost.none_ eV eE h2
    replace hp := Lib.hid hp
    obtain ⟨E, hEE⟩ : ∃ E, E = S.readE i := ⟨_, rfl⟩
    rw [← hEE] at zl hp hE
    have hne : (E != 0) = true := by simpa using hE
    clear hE eE eV hEE h
    go_enter Tryd.func27, Tryd.ntmps27
    go_wp2_with (first
      | ((with_reducible refine atWorld w ?_); refine wpList_allocRow (w := w) entTy rfl rfl ?_; (intro w0 b0 B0 s0; have b0 := Lib.hid b0; have h0 := hD.out w0 B0))
      | (go_at_call 50; refine (zl w0 h0).mono ?_; (rintro e w1 ⟨A, c, rfl, o1, B1⟩; have C1 := B0.trans (B1.mono B0.size); have b1 := Lib.hid (b0.out.step B1)))
      | ((with_reducible refine atWorld w1 ?_); refine wpList_storeRow (w := w1) entTy rfl (.tmp 4) (.tmp 18) rfl w.heap.size entZ entZ rfl rfl rfl rfl (ent_one Jn.zero none 0) b1.out ?_; (intro w9 b9 B9 s9 k9)))
    exact bodyPost_ret (w := w9) (results_cell2 Tryd.results27 _ _ _ _ _ _ rfl rfl (loadRow entTy (by rfl) b9)) rfl (hp.out w9 (C1.trans B9))
end Go.Proofs.YtliiejdhbkmifaaDoor
