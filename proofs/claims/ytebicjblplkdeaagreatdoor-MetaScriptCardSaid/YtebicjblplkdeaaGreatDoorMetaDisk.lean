/-
  meta.Save, meta.Load over any disk that does what the document says, and over one that is nil or that nobody made. Conditions: the table of crc lies as the program's text lays it; at most so many changes.
-/
import Derived.Test.YtebicjblplkdeaaGreatDoorMa
import Derived.Test.YtebicjblplkdeaaGreatDoorSlSave
import Derived.Test.YtebicjblplkdeaaGreatDoorSlNo
namespace Go.Proofs.YtebicjblplkdeaaGreatDoor
open Go.RowKit Fix

theorem bytesO_any (m : Mt) (l : List UInt8) (E : Int) (hb : m.bytes = l) (hE : m.err = E) (n : Nat) (hn : l.length = n) (w : World) :
    Calls Tryz.prog 17 #[.agg (mtL m).toArray] w fun e w' => ∃ A c, e = .returned (.tuple #[.slice A n c, .int .i64 E]) ∧ n ≤ c ∧ BytesAt w' w'.heap.size A l ∧ Below w.heap.size w w' := by
  subst hb; subst hE; subst hn
  exact (metaBytes_any m w).mono fun e w' ⟨A, c, h1, h2, h3, h4⟩ => ⟨A, c, h1, h2, h3.own.bytes, h4⟩
theorem readO_any (A : Option Addr) (l : List UInt8) (c : Nat) (hlc : l.length ≤ c) (hcm : l.length ≤ 140737488351232) (M : Mt) (E : Int) (hM : Mt.readM l = M) (hE : Mt.readE l = E) (n : Nat) (hn : l.length = n) (w : World) (hr : BytesAt w w.heap.size A l) :
    Calls Tryz.prog 23 #[.slice A n c] w fun e w' => e = .returned (.tuple #[.agg (mtL M).toArray, .int .i64 E]) ∧ Below w.heap.size w w' := by
  subst hM; subst hE; subst hn
  exact metaRead_any A l c w hlc hcm hr
/-- what Load tells -/
def MtLd (M : Mt) (E : Int) (w : World) (e : Ending) (w' : World) : Prop := e = .returned (.tuple #[.agg (mtL M).toArray, .int .i64 E]) ∧ Below w.heap.size w w'
namespace Mt
def loadE (S : DS) (i : Int) : Int := if Slot.loadE S i = 0 then (if readE (Slot.loadB S i) = 0 then 0 else 11) else Slot.loadE S i
def loadM (S : DS) (i : Int) : Mt := if Slot.loadE S i = 0 then readM (Slot.loadB S i) else zero
/-- what Save makes, and tells -/
def save (S : DS) (i : Int) (m : Mt) : DS × Int := if m.ok = true then Slot.save S i m.enc else (S, 2)
theorem readM_no {l : List UInt8} (h : readE l ≠ 0) : readM l = zero := by
  unfold readE at h
  unfold readM
  split at h
  · exact absurd rfl h
  · rename_i h2; rw [if_neg h2]
end Mt
theorem loadB_le (S : DS) (i : Int) : (Slot.loadB S i).length ≤ 40 := by
  unfold Slot.loadB
  split
  · unfold Slot.topB
    split
    · rename_i h
      unfold Slot.second at h
      exact Slot.rec_length _ (by simp at h; exact h.1)
    · unfold Slot.readB
      split
      · exact Slot.rec_length _ (by assumption)
      · simp
  · simp
/-- a meta in a new variable, whole -/
theorem boxB (w : World) (m : Mt) : Hid (BlkR 39 (w.alloc (.cells (mtL m).toArray 39)) w.heap.size (mtL m) ∧ Below w.heap.size w (w.alloc (.cells (mtL m).toArray 39))) := Lib.hid ⟨BlkR.new w (mtL m) _, (Below.refl _ _).alloc (Nat.le_refl _) _⟩
section
variable {At : World → Nat → (Nat → Prop) → DS → Prop} (D : Disks Tryz.prog At)
include D
set_option maxRecDepth 100000 in
theorem metaSave_any (w : World) (b : Nat) (F : Nat → Prop) (S : DS) (i : Int) (m : Mt) (ht : TabAt w) (h : At w b F S) (ho : S.ops ≤ 990000) :
    Calls Tryz.prog 9 #[.pointer (some ⟨b, 0, none⟩), .int .i64 i, .agg (mtL m).toArray] w (ChgPost At b F (Mt.save S i m) w) := by
  have hS : ((S.n : Int) == 0) = false := by have := (D.ok _ _ _ _ h).n1; simp; omega
  have hD : Hid (∀ w', Below w.heap.size w w' → At w' b F S ∧ TabAt w') := Lib.hid fun w' B => ⟨At_step D h B, ht.below B (Nat.le_refl _)⟩
  have bx := boxB w m
  obtain ⟨W, hW⟩ : ∃ W, W = w.alloc (.cells (mtL m).toArray 39) := ⟨_, rfl⟩
  rw [← hW] at bx
  have z1 := D.sectors W b F S (hD.out W bx.out.2).1
  unfold Mt.save ChgPost
  cases hk : m.ok with
  | true =>
    rw [if_pos rfl]
    have zb := fun w => bytesO_any m m.enc 0 (by unfold Mt.bytes; rw [if_pos hk]) (Mt.err_ok hk) 26 (Mt.enc_length m) w
    have zs := fun w' A c h t r => save_any D w' b F S i A m.enc 26 c (Mt.enc_length m) t h r ho
    unfold ChgPost at zs
    obtain ⟨T, hT⟩ : ∃ T, T = Slot.save S i m.enc := ⟨_, rfl⟩
    rw [← hT] at zs ⊢
    clear hT hk h ht
    go_enter Tryz.func9, Tryz.ntmps9
    go_wp2_with (first
      | (go_at_call 20; rw [← hW]; refine z1.mono ?_; (rintro e w1 ⟨rfl, B1⟩; have b1 := Lib.hid (bx.out.1.go B1); have C1 := bx.out.2.trans (B1.mono bx.out.2.size)))
      | ((with_reducible refine atWorld w1 ?_); refine wpList_loadRow (w := w1) metaTy rfl (.tmp 5) rfl w.heap.size 0 (mtL m) rfl rfl (rangeOf b1.out) ?_)
      | (go_at_call 17; refine (zb w1).mono ?_; (rintro e w2 ⟨A, c, rfl, hc, r2, B2⟩; have C2 := C1.trans (B2.mono C1.size); obtain ⟨h2, t2⟩ := hD.out w2 C2))
      | (go_at_call 13; refine (zs w2 A c h2 t2 r2).mono ?_; (rintro e w3 ⟨F3, rfl, h3, hF3, fr3⟩)))
    go_ret
    refine ⟨F3, rfl, h3, fun k hk => (hF3 k hk).imp id fun x => Nat.le_trans C2.size x, (Frame.of_below (F := F) C2).trans fr3 fun k hk => .inl hk⟩
  | false =>
    rw [if_neg (by decide)]
    have zb := fun w => bytesO_any m [] 2 (by unfold Mt.bytes; rw [if_neg (by rw [hk]; decide)]) (Mt.err_no hk) 0 rfl w
    clear hk h ht
    go_enter Tryz.func9, Tryz.ntmps9
    go_wp2_with (first
      | (go_at_call 20; rw [← hW]; refine z1.mono ?_; (rintro e w1 ⟨rfl, B1⟩; have b1 := Lib.hid (bx.out.1.go B1); have C1 := bx.out.2.trans (B1.mono bx.out.2.size)))
      | ((with_reducible refine atWorld w1 ?_); refine wpList_loadRow (w := w1) metaTy rfl (.tmp 5) rfl w.heap.size 0 (mtL m) rfl rfl (rangeOf b1.out) ?_)
      | (go_at_call 17; refine (zb w1).mono ?_; (rintro e w2 ⟨A, c, rfl, hc, r2, B2⟩; have C2 := C1.trans (B2.mono C1.size); obtain ⟨h2, t2⟩ := hD.out w2 C2)))
    go_ret
    exact ⟨F, rfl, h2, fun k hk => .inl hk, Frame.of_below C2⟩
end
/-- Load, whatever the slot's Load tells -/
theorem metaLoad_go (p : Value) (i : Int) (w : World) (K : World → Prop) (hK : ∀ w w', K w → Below w.heap.size w w' → K w') (h : K w) (l : List UInt8) (E : Int) (hl : l.length ≤ 40) (n : Nat) (hn : l.length = n)
    (zl : ∀ w, K w → Calls Tryz.prog 22 #[p, .int .i64 i] w fun e w' => ∃ A c, e = .returned (.tuple #[.slice A n c, .int .i64 E]) ∧ n ≤ c ∧ BytesAt w' w'.heap.size A l ∧ Below w.heap.size w w') :
    Calls Tryz.prog 11 #[p, .int .i64 i] w (MtLd (if E = 0 then Mt.readM l else Mt.zero) (if E = 0 then (if Mt.readE l = 0 then 0 else 11) else E) w) := by
  unfold MtLd
  by_cases hE : E = 0
  · subst hE
    rw [if_pos rfl, if_pos rfl]
    by_cases hr : Mt.readE l = 0
    · rw [if_pos hr]
      obtain ⟨M, hM⟩ : ∃ M, Mt.readM l = M := ⟨_, rfl⟩
      have zr := fun A c w hc r => readO_any A l c hc (by omega) M 0 hM hr n hn w r
      rw [hM]
      rw [hn] at zr
      clear hM hr
      go_enter Tryz.func11, Tryz.ntmps11
      go_wp2_with (first
        | ((with_reducible refine atWorld w ?_); refine wpList_allocRow (w := w) metaTy rfl rfl ?_; (intro w0 b0 B0 s0; have b0 := Lib.hid b0; have h0 := hK w w0 h B0))
        | (go_at_call 22; refine (zl w0 h0).mono ?_; (rintro e w1 ⟨A, c, rfl, hc, r1, B1⟩; have C1 := B0.trans (B1.mono B0.size); have b1 := Lib.hid (b0.out.go B1)))
        | (go_at_call 23; refine (zr A c w1 hc r1).mono ?_; (rintro e w2 ⟨rfl, B2⟩; have C2 := C1.trans (B2.mono C1.size); have b2 := Lib.hid (b1.out.go B2)))
        | ((with_reducible refine atWorld w2 ?_); refine wpList_allocRow (w := w2) metaTy rfl rfl ?_; (intro w3 b3 B3 s3; have b3 := Lib.hid b3; have C3 := C2.trans (B3.mono C2.size); have z3 := Lib.hid (b2.out.go B3)))
        | ((with_reducible refine atWorld w3 ?_); refine wpList_storeRow (w := w3) metaTy rfl (.tmp 8) (.tmp 22) rfl w2.heap.size (mtL M) (mtL Mt.zero) rfl rfl rfl rfl (mtL_one _) b3.out ?_; (intro w4 b4 B4 s4 k4; have C4 := C3.trans (B4.mono C2.size); have z4 := Lib.hid (z3.out.below B4 b2.out.lt); have b4 := Lib.hid b4))
        | ((with_reducible refine atWorld w4 ?_); refine wpList_loadRow (w := w4) metaTy rfl (.tmp 8) rfl w2.heap.size 0 (mtL M) rfl rfl (rangeOf b4.out) ?_)
        | ((with_reducible refine atWorld w4 ?_); refine wpList_storeRow (w := w4) metaTy rfl (.tmp 4) (.tmp 27) rfl w.heap.size (mtL M) (mtL Mt.zero) rfl rfl rfl rfl (mtL_one _) z4.out ?_; (intro w9 b9 B9 s9 k9)))
      exact bodyPost_ret (w := w9) (results_cell2 Tryz.results11 _ _ _ _ _ _ rfl rfl (loadRow metaTy (by rfl) b9)) rfl ⟨rfl, C4.trans B9⟩
    · rw [if_neg hr, Mt.readM_no hr]
      obtain ⟨M, hM⟩ : ∃ M, Mt.readM l = M := ⟨_, rfl⟩
      obtain ⟨E, hE⟩ : ∃ E, Mt.readE l = E := ⟨_, rfl⟩
      have zr := fun A c w hc r => readO_any A l c hc (by omega) M E hM hE n hn w r
      rw [hE] at hr
      rw [hn] at zr
      have hne : (E != 0) = true := by simpa using hr
      clear hM hr hE
      go_enter Tryz.func11, Tryz.ntmps11
      go_wp2_with (first
        | ((with_reducible refine atWorld w ?_); refine wpList_allocRow (w := w) metaTy rfl rfl ?_; (intro w0 b0 B0 s0; have b0 := Lib.hid b0; have h0 := hK w w0 h B0))
        | (go_at_call 22; refine (zl w0 h0).mono ?_; (rintro e w1 ⟨A, c, rfl, hc, r1, B1⟩; have C1 := B0.trans (B1.mono B0.size); have b1 := Lib.hid (b0.out.go B1)))
        | (go_at_call 23; refine (zr A c w1 hc r1).mono ?_; (rintro e w2 ⟨rfl, B2⟩; have C2 := C1.trans (B2.mono C1.size); have b2 := Lib.hid (b1.out.go B2)))
        | ((with_reducible refine atWorld w2 ?_); refine wpList_allocRow (w := w2) metaTy rfl rfl ?_; (intro w3 b3 B3 s3; have b3 := Lib.hid b3; have C3 := C2.trans (B3.mono C2.size); have z3 := Lib.hid (b2.out.go B3)))
        | ((with_reducible refine atWorld w3 ?_); refine wpList_storeRow (w := w3) metaTy rfl (.tmp 8) (.tmp 22) rfl w2.heap.size (mtL M) (mtL Mt.zero) rfl rfl rfl rfl (mtL_one _) b3.out ?_; (intro w4 b4 B4 s4 k4; have C4 := C3.trans (B4.mono C2.size); have z4 := Lib.hid (z3.out.below B4 b2.out.lt)))
        | ((with_reducible refine atWorld w4 ?_); refine wpList_storeRow (w := w4) metaTy rfl (.tmp 4) (.tmp 26) rfl w.heap.size (mtL Mt.zero) (mtL Mt.zero) rfl rfl rfl rfl (mtL_one _) z4.out ?_; (intro w9 b9 B9 s9 k9)))
      exact bodyPost_ret (w := w9) (results_cell2 Tryz.results11 _ _ _ _ _ _ rfl rfl (loadRow metaTy (by rfl) b9)) rfl ⟨rfl, C4.trans B9⟩
  · rw [if_neg hE, if_neg hE]
    have hne : (E != 0) = true := by simpa using hE
    go_enter Tryz.func11, Tryz.ntmps11
    go_wp2_with (first
      | ((with_reducible refine atWorld w ?_); refine wpList_allocRow (w := w) metaTy rfl rfl ?_; (intro w0 b0 B0 s0; have b0 := Lib.hid b0; have h0 := hK w w0 h B0))
      | (go_at_call 22; refine (zl w0 h0).mono ?_; (rintro e w1 ⟨A, c, rfl, hc, r1, B1⟩; have C1 := B0.trans (B1.mono B0.size); have b1 := Lib.hid (b0.out.go B1)))
      | ((with_reducible refine atWorld w1 ?_); refine wpList_storeRow (w := w1) metaTy rfl (.tmp 4) (.tmp 17) rfl w.heap.size (mtL Mt.zero) (mtL Mt.zero) rfl rfl rfl rfl (mtL_one _) b1.out ?_; (intro w9 b9 B9 s9 k9)))
    exact bodyPost_ret (w := w9) (results_cell2 Tryz.results11 _ _ _ _ _ _ rfl rfl (loadRow metaTy (by rfl) b9)) rfl ⟨rfl, C1.trans B9⟩
section
variable {At : World → Nat → (Nat → Prop) → DS → Prop} (D : Disks Tryz.prog At)
include D
theorem metaLoad_any (w : World) (b : Nat) (F : Nat → Prop) (S : DS) (i : Int) (ht : TabAt w) (h : At w b F S) :
    Calls Tryz.prog 11 #[.pointer (some ⟨b, 0, none⟩), .int .i64 i] w (MtLd (Mt.loadM S i) (Mt.loadE S i) w) :=
  metaLoad_go _ i w (fun w => At w b F S ∧ TabAt w) (fun _ _ h B => ⟨At_step D h.1 B, h.2.below B (Nat.le_refl _)⟩) ⟨h, ht⟩ (Slot.loadB S i) (Slot.loadE S i) (loadB_le S i) _ rfl (fun w h => (load_any D w b F S i h.2 h.1).mono fun _ _ ⟨A, c, h1, h2, h3⟩ => ⟨A, c, h1, h2.cap, h2.bytes, h3⟩)
end
theorem metaLoad_no (p : Value) (i : Int) (w : World) (h : NoDisk w p) : Calls Tryz.prog 11 #[p, .int .i64 i] w (MtLd Mt.zero 1 w) :=
  metaLoad_go p i w (fun w => NoDisk w p) (fun _ _ h B => h.step B) h [] 1 (by simp) 0 rfl (fun w h => (load_no p i w h).mono fun _ _ ⟨h1, h2⟩ => ⟨none, 0, h1, Nat.le_refl _, bytes_nil, h2⟩)
theorem metaSave_no (p : Value) (i : Int) (m : Mt) (w : World) (h : NoDisk w p) : Calls Tryz.prog 9 #[p, .int .i64 i, .agg (mtL m).toArray] w fun e w' => e = .returned (.int .i64 1) ∧ Below w.heap.size w w' := by
  have bx := boxB w m
  obtain ⟨W, hW⟩ : ∃ W, W = w.alloc (.cells (mtL m).toArray 39) := ⟨_, rfl⟩
  rw [← hW] at bx
  have z := noSectors (h.step bx.out.2)
  clear h
  go_enter Tryz.func9, Tryz.ntmps9
  go_wp2_with (go_at_call 20; rw [← hW]; refine z.mono ?_; (rintro e w1 ⟨rfl, rfl⟩))
  go_ret
  exact ⟨rfl, by rw [← hW]; exact bx.out.2⟩
end Go.Proofs.YtebicjblplkdeaaGreatDoor
