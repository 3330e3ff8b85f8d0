/-
  A message's parts read from bytes: the reader. Conditions: the bytes can be read, and are at most as many as a slice may hold.
-/
import Derived.Test.YtfiijnpabmocdaaMgSmall
import Derived.Test.YtfiijnpabmocdaaFx
import Derived.Deep.RegionHeld3
import Derived.BigQuiet
namespace Go.Proofs.Ytfiijnpabmocdaa
open Go.RowKit Mg

/-- the message at gm, the reader at gr of the bytes l, at a place -/
structure RdAt (base gm gr : Nat) (l : List UInt8) (B : Option Addr) (cb : Nat) (w : World) (F : Nat → Prop) (m : M) (at_ : Nat) (A : Option Addr) (c : Nat) : Prop where
  msg : BlkR 27 w gm (mCells m (.slice A m.data.length c))
  dat : Whole w (gm + 1) A c m.data
  cap : c ≤ 9223372036854775807
  rd : BlkR 59 w gr [.slice B l.length cb, .int .i64 (at_ : Int)]
  src : BytesAt w base B l
  most : l.length ≤ cb ∧ l.length ≤ 140737488351232 ∧ cb ≤ 9223372036854775807
  here : at_ ≤ l.length
  blk : ∀ k, F k ↔ k = gm ∨ k = gr
  lo : base ≤ gr ∧ gr < gm ∧ base ≤ w.heap.size
def RdInv (base gm gr : Nat) (l : List UInt8) (B : Option Addr) (cb : Nat) (w : World) (F : Nat → Prop) (m : M) (at_ : Nat) : Prop := ∃ A c, RdAt base gm gr l B cb w F m at_ A c
section
variable {base gm gr : Nat} {l : List UInt8} {B : Option Addr} {cb : Nat} {w w' w2 : World} {F : Nat → Prop} {m : M} {at_ : Nat} {A : Option Addr} {c : Nat}
theorem RdAt.step (h : RdAt base gm gr l B cb w F m at_ A c) (hB : Below w.heap.size w w') : RdAt base gm gr l B cb w' F m at_ A c :=
  ⟨h.msg.below hB h.msg.lt, h.dat.step hB, h.cap, h.rd.below hB h.rd.lt, h.src.below (hB.mono h.lo.2.2), h.most, h.here, h.blk, h.lo.1, h.lo.2.1, Nat.le_trans h.lo.2.2 hB.size⟩
theorem RdAt.own (h : RdAt base gm gr l B cb w F m at_ A c) : ∀ k, F k → k < w.heap.size := fun k hk => by
  rcases (h.blk k).1 hk with rfl | rfl
  · exact h.msg.lt
  · exact h.rd.lt
theorem setG_frameR (w : World) (b i : Nat) (v : Value) : Frame (fun k => k = b) w (w.setCell ⟨b, i, none⟩ v) := (Frame.refl _ w).setAt ⟨b, i, none⟩ v rfl
theorem RdAt.msgSet (h : RdAt base gm gr l B cb w F m at_ A c) {m' : M} {A' : Option Addr} {n' c' i : Nat} {v : Value} (hc : (mCells m (.slice A m.data.length c)).set i v = mCells m' (.slice A' n' c')) (hn : n' = m'.data.length) (hd : Whole w (gm + 1) A' c' m'.data) (hcap : c' ≤ 9223372036854775807) :
    RdAt base gm gr l B cb (w.setCell ⟨gm, i, none⟩ v) F m' at_ A' c' := by
  subst hn
  have hG := setG_frameR w gm i v
  have hb : Below base w (w.setCell ⟨gm, i, none⟩ v) := hG.below (fun k hk => by have := h.lo; omega) h.lo.2.2
  have hr := hG.block gr h.rd.lt (fun x => by have := h.lo.2.1; omega)
  have hm := h.msg.set_ i v
  rw [hc] at hm
  exact ⟨hm, hd.frame hG (fun k hk => by omega), hcap, hr.trans h.rd, h.src.below hb, h.most, h.here, h.blk, h.lo.1, h.lo.2.1, Nat.le_trans h.lo.2.2 hG.size⟩
/-- the reader has gone on -/
theorem RdAt.goes (h : RdAt base gm gr l B cb w F m at_ A c) {n : Nat} (hF : Frame (fun k => k = gr) w w') (hr : BlkR 59 w' gr [.slice B l.length cb, .int .i64 (n : Int)]) (hn : n ≤ l.length) : RdAt base gm gr l B cb w' F m n A c := by
  have hb : Below base w w' := hF.below (fun k hk => by have := h.lo.1; omega) h.lo.2.2
  exact ⟨(hF.block gm h.msg.lt (fun x => by have := h.lo.2.1; omega)).trans h.msg, h.dat.frame hF (fun k hk => by have := h.lo.2.1; omega), h.cap, hr, h.src.below hb, h.most, hn, h.blk, h.lo.1, h.lo.2.1, Nat.le_trans h.lo.2.2 hF.size⟩
theorem RdAt.post (h : RdAt base gm gr l B cb w F m at_ A c) {n : Nat} (hF : Frame (fun k => k = gr) w w') (hr : BlkR 59 w' gr [.slice B l.length cb, .int .i64 (n : Int)]) (hn : n ≤ l.length) : CarPost (fun w F a => RdInv base gm gr l B cb w F m a) w F n w' :=
  ⟨F, ⟨A, c, h.goes hF hr hn⟩, fun _ hk => .inl hk, hF.mono (fun k hk => (h.blk k).2 (.inr hk))⟩
theorem BlkR.allocB {E : TypeId} {g : Nat} {xs : List Value} (h : BlkR E w g xs) (o : Obj) : BlkR E (w.alloc o) g xs := h.below ((Below.refl _ w).alloc (Nat.le_refl _) o) h.lt
set_option maxRecDepth 100000 in
theorem pass_ok (gr : Nat) (X : Value) (at_ en : Int) (w : World) (h : BlkR 59 w gr [X, .int .i64 at_]) : Calls Try.prog 35 #[.pointer (some ⟨gr, 0, none⟩), .int .i64 en, .agg #[.int .i64 0, .int .i64 0]] w fun e w' => e = .returned (.tuple #[]) ∧ BlkR 59 w' gr [X, .int .i64 en] ∧ Frame (fun k => k = gr) w w' := by
  have h1 := h.allocB (.cells #[.int .i64 0, .int .i64 0] 38)
  have c1 := h1.cell (k := 1) rfl
  have f1 := h1.frozen 1
  have hF : Frame (fun k => k = gr) w ((w.alloc (.cells #[.int .i64 0, .int .i64 0] 38)).setCell ⟨gr, 1, none⟩ (.int .i64 en)) := (Frame.of_below ((Below.refl _ w).alloc (Nat.le_refl _) _)).setAt ⟨gr, 1, none⟩ _ rfl
  have h2 := h1.set_ 1 (.int .i64 en)
  have H := Lib.hid (And.intro h2 hF)
  clear h h1 h2 hF
  go_enter Try.func35, Try.ntmps35
  go_wp2
  go_end0
  exact ⟨rfl, H.out⟩
theorem pass_no (er a en : Int) (p : Value) (w : World) (he : (er != 0) = true) : Calls Try.prog 35 #[p, .int .i64 en, .agg #[.int .i64 er, .int .i64 a]] w fun e w' => e = .panicked (wrongP er a) ∧ Below w.heap.size w w' := by
  have hB : Below w.heap.size w (w.alloc (.cells #[.int .i64 er, .int .i64 a] 38)) := (Below.refl _ w).alloc (Nat.le_refl _) _
  go_enter Try.func35, Try.ntmps35
  go_wp2_with (go_at_call 28; (with_reducible refine (refuse_any _ _ _).mono ?_); (rintro e w2 ⟨rfl, rfl⟩))
  exact ⟨rfl, rfl, hB⟩
theorem good_isz {s : Nat} {mo : Int} (hg : good s mo) : isz (s : Int) = true := by
  rw [isz_iff]
  rcases hg with ⟨rfl, _⟩ | ⟨rfl, _⟩ <;> omega
/-- what fixed.Get tells at a place of the bytes -/
theorem gets_in {l : List UInt8} {at_ s : Nat} (hs : isz (s : Int) = true) (h : at_ + s ≤ l.length) : getsN l (at_ : Int) (s : Int) = Fix.le ((l.drop at_).take s) ∧ getsP l.length (at_ : Int) (s : Int) = ((at_ + s : Nat) : Int) ∧ getsE l.length (at_ : Int) (s : Int) = 0 ∧ getsA l.length (at_ : Int) (s : Int) = 0 := by
  have h1 : inN l.length (at_ : Int) ((s : Nat) : Int) = true := by rw [inN_iff]; omega
  have h2 : inR l.length (at_ : Int) = true := by rw [inR_iff]; omega
  simp [getsN, getsP, getsE, getsA, hs, getN, getP, getE, getA, h1, h2]
theorem gets_out {l : List UInt8} {at_ s : Nat} (hs : isz (s : Int) = true) (h0 : at_ ≤ l.length) (h : ¬ at_ + s ≤ l.length) : getsE l.length (at_ : Int) (s : Int) = 4 ∧ getsA l.length (at_ : Int) (s : Int) = l.length := by
  have h1 : inN l.length (at_ : Int) ((s : Nat) : Int) = false := by rw [← Bool.not_eq_true, inN_iff]; omega
  have h2 : inR l.length (at_ : Int) = true := by rw [inR_iff]; omega
  simp [getsE, getsA, hs, getE, getA, h1, h2]
theorem get8_in {l : List UInt8} {at_ : Nat} (h : at_ + 8 ≤ l.length) : getN l (at_ : Int) 8 = Fix.le ((l.drop at_).take 8) ∧ getP l.length (at_ : Int) 8 = ((at_ + 8 : Nat) : Int) ∧ getE l.length (at_ : Int) 8 = 0 ∧ getA l.length (at_ : Int) 8 = 0 := by
  have h1 : inN l.length (at_ : Int) 8 = true := by have := inN_iff l.length (at_ : Int) 8; rw [show ((8 : Nat) : Int) = 8 from rfl] at this; rw [this]; omega
  have h2 : inR l.length (at_ : Int) = true := by rw [inR_iff]; omega
  simp [getN, getP, getE, getA, h1, h2]
theorem get8_out {l : List UInt8} {at_ : Nat} (h0 : at_ ≤ l.length) (h : ¬ at_ + 8 ≤ l.length) : getE l.length (at_ : Int) 8 = 4 ∧ getA l.length (at_ : Int) 8 = l.length := by
  have h1 : inN l.length (at_ : Int) 8 = false := by have := inN_iff l.length (at_ : Int) 8; rw [show ((8 : Nat) : Int) = 8 from rfl] at this; rw [← Bool.not_eq_true, this]; omega
  have h2 : inR l.length (at_ : Int) = true := by rw [inR_iff]; omega
  simp [getE, getA, h1, h2]
set_option maxRecDepth 100000 in
set_option maxHeartbeats 1000000 in
theorem rNum (h : RdInv base gm gr l B cb w F m at_) (n : Int) (s : Nat) (mo : Int) (hg : good s mo) : Calls Try.prog 27 #[.pointer (some ⟨gr, 0, none⟩), .int .i64 n, .int .i64 (s : Int), .int .i64 mo] w (NumPost (fun w F a => RdInv base gm gr l B cb w F m a) w F ((rOps l).num at_ n s mo)) := by
  obtain ⟨A, c, h⟩ := h
  have c0 := h.rd.cell (k := 0) rfl
  have c1 := h.rd.cell (k := 1) rfl
  have hz := good_isz hg
  have z := get_any B l cb (at_ : Int) (s : Int) w h.most.1 h.most.2.1 (h.src.more h.lo.2.2)
  by_cases hin : at_ + s ≤ l.length
  · obtain ⟨e1, e2, e3, e4⟩ := gets_in hz hin
    rw [e1, e2, e3, e4] at z
    obtain ⟨v, hv⟩ : ∃ x, x = Fix.le ((l.drop at_).take s) := ⟨_, rfl⟩
    rw [← hv] at z
    by_cases hm : (v : Int) ≤ mo
    · have e : (rOps l).num at_ n s mo = .ok ((v : Int), at_ + s) := by simp only [rOps]; rw [if_pos hin, ← hv, if_pos hm]
      rw [e]
      have H := Lib.hid h
      have HN := Lib.hid hin
      have za := fun w => allow_yes (v : Int) mo (at_ : Int) (by omega) hm w
      obtain ⟨en, hen⟩ : ∃ x, x = at_ + s := ⟨_, rfl⟩
      rw [← hen] at z ⊢ HN
      clear e e1 e2 e3 e4 hz hg hm h hv hin hen
      go_enter Try.func27, Try.ntmps27
      go_wp2_with (first
        | (go_at_call 34; (with_reducible refine z.mono ?_); (rintro e w2 ⟨rfl, B2⟩; have h2 := H.out.step B2; have hr2 := h2.rd; have H2 := Lib.hid (And.intro h2 B2); unfold flt; clear h2 B2))
        | (go_at_call 35; (with_reducible refine (pass_ok gr (.slice B l.length cb) (at_ : Int) (en : Int) _ (hr2.allocB _)).mono ?_); (rintro e w4 ⟨rfl, hr4, hF4⟩; have HP := Lib.hid (And.intro hr4 hF4); clear hr4 hF4))
        | (go_at_call 31; (with_reducible refine (za _).mono ?_); (rintro e w5 ⟨rfl, rfl⟩)))
      go_ret
      obtain ⟨h2, B2⟩ := H2.out
      obtain ⟨hr4, hF4⟩ := HP.out
      exact ⟨rfl, H.out.post ((Frame.of_below (B2.alloc B2.size _)).trans hF4 (fun k hk => .inl hk)) hr4 HN.out⟩
    · have e : (rOps l).num at_ n s mo = .no 5 at_ := by simp only [rOps]; rw [if_pos hin, ← hv, if_neg hm]
      rw [e]
      have H := Lib.hid h
      have za := fun w => allow_no (v : Int) mo (at_ : Int) (by omega) w
      obtain ⟨en, hen⟩ : ∃ x, x = at_ + s := ⟨_, rfl⟩
      rw [← hen] at z
      clear e e1 e2 e3 e4 hz hg hm h hv hin hen
      go_enter Try.func27, Try.ntmps27
      go_wp2_with (first
        | (go_at_call 34; (with_reducible refine z.mono ?_); (rintro e w2 ⟨rfl, B2⟩; have h2 := H.out.step B2; have hr2 := h2.rd; have H2 := Lib.hid (And.intro h2 B2); unfold flt; clear h2 B2))
        | (go_at_call 35; (with_reducible refine (pass_ok gr (.slice B l.length cb) (at_ : Int) (en : Int) _ (hr2.allocB _)).mono ?_); (rintro e w4 ⟨rfl, hr4, hF4⟩; have HP := Lib.hid (And.intro hr4 hF4); clear hr4 hF4))
        | (go_at_call 31; (with_reducible refine (za _).mono ?_); (rintro e w5 ⟨rfl, rfl⟩)))
      obtain ⟨h2, B2⟩ := H2.out
      obtain ⟨hr4, hF4⟩ := HP.out
      exact ⟨rfl, rfl, ((Frame.of_below (B2.alloc B2.size _)).trans hF4 (fun k hk => .inl hk)).mono (fun k hk => (H.out.blk k).2 (.inr hk))⟩
  · obtain ⟨e3, e4⟩ := gets_out hz h.here hin
    rw [e3, e4] at z
    have e : (rOps l).num at_ n s mo = .no 4 l.length := by simp only [rOps]; rw [if_neg hin]
    rw [e]
    obtain ⟨v, hv⟩ : ∃ x, x = getsN l (at_ : Int) (s : Int) := ⟨_, rfl⟩
    obtain ⟨en, hen⟩ : ∃ x, x = getsP l.length (at_ : Int) (s : Int) := ⟨_, rfl⟩
    rw [← hv, ← hen] at z
    clear e e3 e4 hz hg h hv hin hen
    go_enter Try.func27, Try.ntmps27
    go_wp2_with (first
      | (go_at_call 34; (with_reducible refine z.mono ?_); (rintro e w2 ⟨rfl, B2⟩; have H2 := Lib.hid B2; unfold flt; clear B2))
      | (go_at_call 35; (with_reducible refine (pass_no 4 (l.length : Int) en _ _ rfl).mono ?_); (rintro e w4 ⟨rfl, B4⟩; have HP := Lib.hid B4; clear B4)))
    exact ⟨rfl, rfl, Frame.of_below (step_trans (H2.out.alloc H2.out.size _) HP.out)⟩

theorem BlkR.farG {E : TypeId} {g b k : Nat} {xs : List Value} (h : BlkR E w g xs) (hn : g ≠ b) (v : Value) : BlkR E (w.setCell ⟨b, k, none⟩ v) g xs := (Below.heap_setCell w ⟨b, k, none⟩ v g hn).trans h
def RdCells (gr : Nat) (B : Option Addr) (n cb : Nat) (at_ : Int) (w : World) : Prop := w.cell? ⟨gr, 0, none⟩ = some (.slice B n cb) ∧ w.cell? ⟨gr, 1, none⟩ = some (.int .i64 at_)
theorem RdAt.cells (h : RdAt base gm gr l B cb w F m at_ A c) : RdCells gr B l.length cb (at_ : Int) w := ⟨h.rd.cell rfl, h.rd.cell rfl⟩

set_option maxRecDepth 100000 in
set_option maxHeartbeats 2000000 in
theorem rLon (h : RdInv base gm gr l B cb w F m at_) (n : Nat) : Calls Try.prog 73 #[.pointer (some ⟨gr, 0, none⟩), .int .u64 (n : Int)] w (LonPost (fun w F a => RdInv base gm gr l B cb w F m a) w F ((rOps l).lon at_ n)) := by
  obtain ⟨A, c, h⟩ := h
  have H := Lib.hid h
  have z := fun (w' : World) (hB : Below w.heap.size w w') => getLong_any B l cb (at_ : Int) w' h.most.1 h.most.2.1 ((h.src.more h.lo.2.2).step hB)
  by_cases hin : at_ + 8 ≤ l.length
  · obtain ⟨e1, e2, e3, e4⟩ := get8_in hin
    rw [e1, e2, e3, e4] at z
    have e : (rOps l).lon at_ n = .ok (Fix.le ((l.drop at_).take 8), at_ + 8) := by simp only [rOps]; rw [if_pos hin]
    rw [e]
    obtain ⟨v, hv⟩ : ∃ x, x = Fix.le ((l.drop at_).take 8) := ⟨_, rfl⟩
    have HN := Lib.hid hin
    obtain ⟨en, hen⟩ : ∃ x, x = at_ + 8 := ⟨_, rfl⟩
    rw [← hv, ← hen] at z
    rw [← hv, ← hen]
    rw [← hen] at HN
    clear e e1 e2 e3 e4 h hv hin hen
    go_enter Try.func73, Try.ntmps73
    go_wp2
    have HS := Lib.hid (show RdCells gr B l.length cb (at_ : Int) w.drew from H.out.cells)
    refine wp_region_held_drew (S := RdCells gr B l.length cb (at_ : Int)) (by kernel_rfl) HS.out (fun hHeld => ?_)
    unfold RdCells at hHeld ⊢
    refine wpAnyH_take (i := 0) (oi := { dst := some 9, op := Go.Op.move (Go.Operand.tmp 0), type := 57, pos := "msg.go:106", after := #[], guard := none }) (v := ?_) rfl (by kernel_rfl) (by kernel_rfl) (by kernel_rfl) (fun _ _ _ h => h) (Or.inl ⟨by rfl, ?_⟩) (by assumption) ?_
    rotate_left
    · intro w hSw
      (try dsimp only at hSw)
      go_simp
      (try with_reducible rfl)
    (try simp only [Act.put, List.setIfInBounds_toArray, List.set_cons_zero, List.set_cons_succ])
    refine wpAnyH_take (i := 1) (oi := { dst := some 10, op := Go.Op.nilCheck (Go.Operand.tmp 9), type := 0, pos := "msg.go:106", after := #[{ on := 0, ground := Go.Ground.data }], guard := none }) (v := ?_) rfl (by kernel_rfl) (by kernel_rfl) (by kernel_rfl) (fun _ _ _ h => h) (Or.inl ⟨by rfl, ?_⟩) (by assumption) ?_
    rotate_left
    · intro w hSw
      (try dsimp only at hSw)
      go_simp
      (try with_reducible rfl)
    (try simp only [Act.put, List.setIfInBounds_toArray, List.set_cons_zero, List.set_cons_succ])
    refine wpAnyH_take (i := 2) (oi := { dst := some 11, op := Go.Op.fieldAddr 59 (Go.Operand.tmp 10) 0, type := 0, pos := "msg.go:106", after := #[{ on := 1, ground := Go.Ground.data }], guard := none }) (v := ?_) rfl (by kernel_rfl) (by kernel_rfl) (by kernel_rfl) (fun _ _ _ h => h) (Or.inl ⟨by rfl, ?_⟩) (by assumption) ?_
    rotate_left
    · intro w hSw
      (try dsimp only at hSw)
      go_simp
      (try with_reducible rfl)
    (try simp only [Act.put, List.setIfInBounds_toArray, List.set_cons_zero, List.set_cons_succ])
    refine wpAnyH_take (i := 3) (oi := { dst := some 12, op := Go.Op.load 25 (Go.Operand.tmp 11), type := 25, pos := "msg.go:106", after := #[{ on := 2, ground := Go.Ground.data }], guard := none }) (v := ?_) rfl (by kernel_rfl) (by kernel_rfl) (by kernel_rfl) (fun _ _ _ h => h) (Or.inl ⟨by rfl, ?_⟩) (by assumption) ?_
    rotate_left
    · intro w hSw
      (try dsimp only at hSw)
      go_simp
      (try with_reducible rfl)
    (try simp only [Act.put, List.setIfInBounds_toArray, List.set_cons_zero, List.set_cons_succ])
    refine wpAnyH_take (i := 4) (oi := { dst := some 13, op := Go.Op.move (Go.Operand.tmp 0), type := 57, pos := "msg.go:106", after := #[], guard := none }) (v := ?_) rfl (by kernel_rfl) (by kernel_rfl) (by kernel_rfl) (fun _ _ _ h => h) (Or.inl ⟨by rfl, ?_⟩) (by assumption) ?_
    rotate_left
    · intro w hSw
      (try dsimp only at hSw)
      go_simp
      (try with_reducible rfl)
    (try simp only [Act.put, List.setIfInBounds_toArray, List.set_cons_zero, List.set_cons_succ])
    refine wpAnyH_take (i := 5) (oi := { dst := some 14, op := Go.Op.nilCheck (Go.Operand.tmp 13), type := 0, pos := "msg.go:106", after := #[{ on := 4, ground := Go.Ground.data }], guard := none }) (v := ?_) rfl (by kernel_rfl) (by kernel_rfl) (by kernel_rfl) (fun _ _ _ h => h) (Or.inl ⟨by rfl, ?_⟩) (by assumption) ?_
    rotate_left
    · intro w hSw
      (try dsimp only at hSw)
      go_simp
      (try with_reducible rfl)
    (try simp only [Act.put, List.setIfInBounds_toArray, List.set_cons_zero, List.set_cons_succ])
    refine wpAnyH_take (i := 6) (oi := { dst := some 15, op := Go.Op.fieldAddr 59 (Go.Operand.tmp 14) 1, type := 0, pos := "msg.go:106", after := #[{ on := 5, ground := Go.Ground.data }], guard := none }) (v := ?_) rfl (by kernel_rfl) (by kernel_rfl) (by kernel_rfl) (fun _ _ _ h => h) (Or.inl ⟨by rfl, ?_⟩) (by assumption) ?_
    rotate_left
    · intro w hSw
      (try dsimp only at hSw)
      go_simp
      (try with_reducible rfl)
    (try simp only [Act.put, List.setIfInBounds_toArray, List.set_cons_zero, List.set_cons_succ])
    refine wpAnyH_take (i := 7) (oi := { dst := some 16, op := Go.Op.load 3 (Go.Operand.tmp 15), type := 3, pos := "msg.go:106", after := #[{ on := 6, ground := Go.Ground.data }], guard := none }) (v := ?_) rfl (by kernel_rfl) (by kernel_rfl) (by kernel_rfl) (fun _ _ _ h => h) (Or.inl ⟨by rfl, ?_⟩) (by assumption) ?_
    rotate_left
    · intro w hSw
      (try dsimp only at hSw)
      go_simp
      (try with_reducible rfl)
    (try simp only [Act.put, List.setIfInBounds_toArray, List.set_cons_zero, List.set_cons_succ])
    refine wpAnyH_ready (rs := [8, 13]) (by kernel_rfl) (by simp) ?_
    refine AllReadyH.cons (o := { dst := some 17, op := Go.Op.call { callee := Go.Callee.value (Go.Operand.func 75), args := #[Go.Operand.tmp 12, Go.Operand.tmp 16], argTypes := #[25, 3] }, type := 79, pos := "msg.go:106", after := #[{ on := 3, ground := Go.Ground.data }, { on := 7, ground := Go.Ground.data }], guard := none }) rfl (fun K hK => ?_) (AllReadyH.cons (o := { dst := some 7, op := Go.Op.alloc 38, type := 0, pos := "msg.go:106", after := #[], guard := none }) rfl (fun K hK => ?_) AllReadyH.nil)
    · go_simp
      refine (z _ ((Below.refl _ w).drew)).mono ?_
      rintro e w2 ⟨rfl, B2⟩
      unfold flt
      have h2 := (H.out.step ((Below.refl _ w).drew)).step B2
      have H2 := Lib.hid (And.intro h2 (step_trans ((Below.refl _ w).drew) B2))
      refine hK.out _ _ h2.cells (fun hHeld2 => ?_)
      clear hK K h2 B2
      (try simp only [Act.put, List.setIfInBounds_toArray, List.set_cons_zero, List.set_cons_succ])
      refine wpAnyH_take (i := 9) (oi := { dst := some 8, op := Go.Op.move (Go.Operand.tmp 17), type := 79, pos := "msg.go:106", after := #[{ on := 8, ground := Go.Ground.data }], guard := none }) (v := ?_) rfl (by kernel_rfl) (by kernel_rfl) (by kernel_rfl) (fun _ _ _ h => h) (Or.inl ⟨by rfl, ?_⟩) (by assumption) ?_
      rotate_left
      · intro w hSw
        (try dsimp only at hSw)
        go_simp
        (try with_reducible rfl)
      (try simp only [Act.put, List.setIfInBounds_toArray, List.set_cons_zero, List.set_cons_succ])
      refine wpAnyH_take (i := 10) (oi := { dst := some 18, op := Go.Op.extract (Go.Operand.tmp 8) 0, type := 24, pos := "msg.go:106", after := #[{ on := 9, ground := Go.Ground.data }], guard := none }) (v := ?_) rfl (by kernel_rfl) (by kernel_rfl) (by kernel_rfl) (fun _ _ _ h => h) (Or.inl ⟨by rfl, ?_⟩) (by assumption) ?_
      rotate_left
      · intro w hSw
        (try dsimp only at hSw)
        go_simp
        (try with_reducible rfl)
      (try simp only [Act.put, List.setIfInBounds_toArray, List.set_cons_zero, List.set_cons_succ])
      refine wpAnyH_take (i := 11) (oi := { dst := some 19, op := Go.Op.extract (Go.Operand.tmp 8) 1, type := 3, pos := "msg.go:106", after := #[{ on := 9, ground := Go.Ground.data }, { on := 14, ground := Go.Ground.gcOnly Go.Departure.lateStores }], guard := none }) (v := ?_) rfl (by kernel_rfl) (by kernel_rfl) (by kernel_rfl) (fun _ _ _ h => h) (Or.inl ⟨by rfl, ?_⟩) (by assumption) ?_
      rotate_left
      · intro w hSw
        (try dsimp only at hSw)
        go_simp
        (try with_reducible rfl)
      (try simp only [Act.put, List.setIfInBounds_toArray, List.set_cons_zero, List.set_cons_succ])
      refine wpAnyH_take (i := 12) (oi := { dst := some 20, op := Go.Op.extract (Go.Operand.tmp 8) 2, type := 38, pos := "msg.go:106", after := #[{ on := 9, ground := Go.Ground.data }, { on := 15, ground := Go.Ground.gcOnly Go.Departure.lateStores }], guard := none }) (v := ?_) rfl (by kernel_rfl) (by kernel_rfl) (by kernel_rfl) (fun _ _ _ h => h) (Or.inl ⟨by rfl, ?_⟩) (by assumption) ?_
      rotate_left
      · intro w hSw
        (try dsimp only at hSw)
        go_simp
        (try with_reducible rfl)
      (try simp only [Act.put, List.setIfInBounds_toArray, List.set_cons_zero, List.set_cons_succ])
      refine wpAnyH_ready (rs := [13]) (by kernel_rfl) (by simp) ?_
      refine AllReadyH.cons (o := { dst := some 7, op := Go.Op.alloc 38, type := 0, pos := "msg.go:106", after := #[], guard := none }) rfl (fun K hK => ?_) AllReadyH.nil
      go_simp
      have h3 := H2.out.1.step ((Below.refl _ w2).alloc (Nat.le_refl _) (.cells #[.int .i64 0, .int .i64 0] 38))
      have H3 := Lib.hid h3
      refine hK.out _ _ H3.out.cells (fun hHeld3 => ?_)
      clear hK K hHeld hHeld2 h3
      (try simp only [Act.put, List.setIfInBounds_toArray, List.set_cons_zero, List.set_cons_succ])
      refine wpAnyH_take (i := 14) (oi := { dst := some 5, op := Go.Op.assign (Go.Operand.tmp 18), type := 24, pos := "msg.go:106", after := #[{ on := 10, ground := Go.Ground.data }, { on := 8, ground := Go.Ground.chain }, { on := 0, ground := Go.Ground.phase }, { on := 1, ground := Go.Ground.phase }, { on := 2, ground := Go.Ground.phase }, { on := 3, ground := Go.Ground.phase }, { on := 4, ground := Go.Ground.phase }, { on := 5, ground := Go.Ground.phase }, { on := 6, ground := Go.Ground.phase }, { on := 7, ground := Go.Ground.phase }, { on := 8, ground := Go.Ground.phase }, { on := 9, ground := Go.Ground.phase }, { on := 10, ground := Go.Ground.phase }, { on := 11, ground := Go.Ground.textOnly Go.Departure.lateStores }, { on := 12, ground := Go.Ground.textOnly Go.Departure.lateStores }, { on := 13, ground := Go.Ground.phase }], guard := none }) (v := ?_) rfl (by kernel_rfl) (by kernel_rfl) (by kernel_rfl) (fun _ _ _ h => h) (Or.inl ⟨by rfl, ?_⟩) (by assumption) ?_
      rotate_left
      · intro w hSw
        (try dsimp only at hSw)
        go_simp
        (try with_reducible rfl)
      (try simp only [Act.put, List.setIfInBounds_toArray, List.set_cons_zero, List.set_cons_succ])
      refine wpAnyH_take (i := 15) (oi := { dst := some 6, op := Go.Op.assign (Go.Operand.tmp 19), type := 3, pos := "msg.go:106", after := #[{ on := 11, ground := Go.Ground.data }, { on := 14, ground := Go.Ground.chain }, { on := 0, ground := Go.Ground.phase }, { on := 1, ground := Go.Ground.phase }, { on := 2, ground := Go.Ground.phase }, { on := 3, ground := Go.Ground.phase }, { on := 4, ground := Go.Ground.phase }, { on := 5, ground := Go.Ground.phase }, { on := 6, ground := Go.Ground.phase }, { on := 7, ground := Go.Ground.phase }, { on := 8, ground := Go.Ground.phase }, { on := 9, ground := Go.Ground.phase }, { on := 10, ground := Go.Ground.phase }, { on := 11, ground := Go.Ground.phase }, { on := 12, ground := Go.Ground.textOnly Go.Departure.lateStores }, { on := 13, ground := Go.Ground.phase }, { on := 14, ground := Go.Ground.phase }], guard := none }) (v := ?_) rfl (by kernel_rfl) (by kernel_rfl) (by kernel_rfl) (fun _ _ _ h => h) (Or.inl ⟨by rfl, ?_⟩) (by assumption) ?_
      rotate_left
      · intro w hSw
        (try dsimp only at hSw)
        go_simp
        (try with_reducible rfl)
      (try simp only [Act.put, List.setIfInBounds_toArray, List.set_cons_zero, List.set_cons_succ])
      refine wpAnyH_ready (rs := [16]) (by kernel_rfl) (by simp) ?_
      refine AllReadyH.cons (o := { dst := none, op := Go.Op.store 38 (Go.Operand.tmp 7) (Go.Operand.tmp 20), type := 0, pos := "msg.go:106", after := #[{ on := 13, ground := Go.Ground.data }, { on := 12, ground := Go.Ground.data }, { on := 15, ground := Go.Ground.chain }, { on := 0, ground := Go.Ground.phase }, { on := 1, ground := Go.Ground.phase }, { on := 2, ground := Go.Ground.phase }, { on := 3, ground := Go.Ground.phase }, { on := 4, ground := Go.Ground.phase }, { on := 5, ground := Go.Ground.phase }, { on := 6, ground := Go.Ground.phase }, { on := 7, ground := Go.Ground.phase }, { on := 8, ground := Go.Ground.phase }, { on := 9, ground := Go.Ground.phase }, { on := 10, ground := Go.Ground.phase }, { on := 11, ground := Go.Ground.phase }, { on := 12, ground := Go.Ground.phase }, { on := 13, ground := Go.Ground.phase }, { on := 14, ground := Go.Ground.phase }, { on := 15, ground := Go.Ground.phase }], guard := none }) rfl (fun K hK => ?_) AllReadyH.nil
      go_simp
      have h4 := H2.out.1.step ((Below.refl _ w2).alloc (Nat.le_refl _) (.cells #[.int .i64 0, .int .i64 0] 38))
      have B4 : Below w.heap.size w (w2.alloc (.cells #[.int .i64 0, .int .i64 0] 38)) := H2.out.2.alloc H2.out.2.size _
      have H4 := Lib.hid (And.intro h4 B4)
      have hr4 := h4.rd
      clear h4 B4
      refine hK.out _ _ H4.out.1.cells (fun hHeld4 => ?_)
      clear hK K hHeld3
      (try simp only [Act.put, List.setIfInBounds_toArray, List.set_cons_zero, List.set_cons_succ])
      refine wpAnyH_done (by kernel_rfl) ?_ _
      go_wp2_with (first
        | (go_at_call 35; (with_reducible refine (pass_ok gr (.slice B l.length cb) (at_ : Int) (en : Int) _ hr4).mono ?_); (rintro e w5 ⟨rfl, hr5, hF5⟩; have HP := Lib.hid (And.intro hr5 hF5); clear hr5 hF5)))
      go_ret
      obtain ⟨hr5, hF5⟩ := HP.out
      exact ⟨rfl, H.out.post ((Frame.of_below H4.out.2).trans hF5 (fun k hk => .inl hk)) hr5 HN.out⟩
    · go_simp
      have B1 : Below w.heap.size w (w.drew.alloc (.cells #[.int .i64 0, .int .i64 0] 38)) := (Below.refl _ w).drew.alloc (Nat.le_refl _) _
      have H1 := Lib.hid (And.intro (H.out.step B1) B1)
      have hv := heap_alloc_new w.drew (.cells #[.int .i64 0, .int .i64 0] 38)
      have hvl : w.drew.heap.size < (w.drew.alloc (.cells #[.int .i64 0, .int .i64 0] 38)).heap.size := by simp
      have HV := Lib.hid (And.intro hv hvl)
      refine hK.out _ _ H1.out.1.cells (fun hHeld3 => ?_)
      clear hK K hHeld hv hvl B1
      (try simp only [Act.put, List.setIfInBounds_toArray, List.set_cons_zero, List.set_cons_succ])
      refine wpAnyH_ready (rs := [8]) (by kernel_rfl) (by simp) ?_
      refine AllReadyH.cons (o := { dst := some 17, op := Go.Op.call { callee := Go.Callee.value (Go.Operand.func 75), args := #[Go.Operand.tmp 12, Go.Operand.tmp 16], argTypes := #[25, 3] }, type := 79, pos := "msg.go:106", after := #[{ on := 3, ground := Go.Ground.data }, { on := 7, ground := Go.Ground.data }], guard := none }) rfl (fun K hK => ?_) AllReadyH.nil
      go_simp
      refine (z _ H1.out.2).mono ?_
      rintro e w2 ⟨rfl, B2⟩
      unfold flt
      have h2 := H1.out.1.step B2
      have H2 := Lib.hid (And.intro h2 (step_trans H1.out.2 B2))
      have hv2 := (B2.block _ HV.out.2).trans HV.out.1
      refine hK.out _ _ h2.cells (fun hHeld2 => ?_)
      clear hK K hHeld3 h2 B2
      (try simp only [Act.put, List.setIfInBounds_toArray, List.set_cons_zero, List.set_cons_succ])
      refine wpAnyH_take (i := 9) (oi := { dst := some 8, op := Go.Op.move (Go.Operand.tmp 17), type := 79, pos := "msg.go:106", after := #[{ on := 8, ground := Go.Ground.data }], guard := none }) (v := ?_) rfl (by kernel_rfl) (by kernel_rfl) (by kernel_rfl) (fun _ _ _ h => h) (Or.inl ⟨by rfl, ?_⟩) (by assumption) ?_
      rotate_left
      · intro w hSw
        (try dsimp only at hSw)
        go_simp
        (try with_reducible rfl)
      (try simp only [Act.put, List.setIfInBounds_toArray, List.set_cons_zero, List.set_cons_succ])
      refine wpAnyH_take (i := 10) (oi := { dst := some 18, op := Go.Op.extract (Go.Operand.tmp 8) 0, type := 24, pos := "msg.go:106", after := #[{ on := 9, ground := Go.Ground.data }], guard := none }) (v := ?_) rfl (by kernel_rfl) (by kernel_rfl) (by kernel_rfl) (fun _ _ _ h => h) (Or.inl ⟨by rfl, ?_⟩) (by assumption) ?_
      rotate_left
      · intro w hSw
        (try dsimp only at hSw)
        go_simp
        (try with_reducible rfl)
      (try simp only [Act.put, List.setIfInBounds_toArray, List.set_cons_zero, List.set_cons_succ])
      refine wpAnyH_take (i := 11) (oi := { dst := some 19, op := Go.Op.extract (Go.Operand.tmp 8) 1, type := 3, pos := "msg.go:106", after := #[{ on := 9, ground := Go.Ground.data }, { on := 14, ground := Go.Ground.gcOnly Go.Departure.lateStores }], guard := none }) (v := ?_) rfl (by kernel_rfl) (by kernel_rfl) (by kernel_rfl) (fun _ _ _ h => h) (Or.inl ⟨by rfl, ?_⟩) (by assumption) ?_
      rotate_left
      · intro w hSw
        (try dsimp only at hSw)
        go_simp
        (try with_reducible rfl)
      (try simp only [Act.put, List.setIfInBounds_toArray, List.set_cons_zero, List.set_cons_succ])
      refine wpAnyH_take (i := 12) (oi := { dst := some 20, op := Go.Op.extract (Go.Operand.tmp 8) 2, type := 38, pos := "msg.go:106", after := #[{ on := 9, ground := Go.Ground.data }, { on := 15, ground := Go.Ground.gcOnly Go.Departure.lateStores }], guard := none }) (v := ?_) rfl (by kernel_rfl) (by kernel_rfl) (by kernel_rfl) (fun _ _ _ h => h) (Or.inl ⟨by rfl, ?_⟩) (by assumption) ?_
      rotate_left
      · intro w hSw
        (try dsimp only at hSw)
        go_simp
        (try with_reducible rfl)
      (try simp only [Act.put, List.setIfInBounds_toArray, List.set_cons_zero, List.set_cons_succ])
      refine wpAnyH_take (i := 14) (oi := { dst := some 5, op := Go.Op.assign (Go.Operand.tmp 18), type := 24, pos := "msg.go:106", after := #[{ on := 10, ground := Go.Ground.data }, { on := 8, ground := Go.Ground.chain }, { on := 0, ground := Go.Ground.phase }, { on := 1, ground := Go.Ground.phase }, { on := 2, ground := Go.Ground.phase }, { on := 3, ground := Go.Ground.phase }, { on := 4, ground := Go.Ground.phase }, { on := 5, ground := Go.Ground.phase }, { on := 6, ground := Go.Ground.phase }, { on := 7, ground := Go.Ground.phase }, { on := 8, ground := Go.Ground.phase }, { on := 9, ground := Go.Ground.phase }, { on := 10, ground := Go.Ground.phase }, { on := 11, ground := Go.Ground.textOnly Go.Departure.lateStores }, { on := 12, ground := Go.Ground.textOnly Go.Departure.lateStores }, { on := 13, ground := Go.Ground.phase }], guard := none }) (v := ?_) rfl (by kernel_rfl) (by kernel_rfl) (by kernel_rfl) (fun _ _ _ h => h) (Or.inl ⟨by rfl, ?_⟩) (by assumption) ?_
      rotate_left
      · intro w hSw
        (try dsimp only at hSw)
        go_simp
        (try with_reducible rfl)
      (try simp only [Act.put, List.setIfInBounds_toArray, List.set_cons_zero, List.set_cons_succ])
      refine wpAnyH_take (i := 15) (oi := { dst := some 6, op := Go.Op.assign (Go.Operand.tmp 19), type := 3, pos := "msg.go:106", after := #[{ on := 11, ground := Go.Ground.data }, { on := 14, ground := Go.Ground.chain }, { on := 0, ground := Go.Ground.phase }, { on := 1, ground := Go.Ground.phase }, { on := 2, ground := Go.Ground.phase }, { on := 3, ground := Go.Ground.phase }, { on := 4, ground := Go.Ground.phase }, { on := 5, ground := Go.Ground.phase }, { on := 6, ground := Go.Ground.phase }, { on := 7, ground := Go.Ground.phase }, { on := 8, ground := Go.Ground.phase }, { on := 9, ground := Go.Ground.phase }, { on := 10, ground := Go.Ground.phase }, { on := 11, ground := Go.Ground.phase }, { on := 12, ground := Go.Ground.textOnly Go.Departure.lateStores }, { on := 13, ground := Go.Ground.phase }, { on := 14, ground := Go.Ground.phase }], guard := none }) (v := ?_) rfl (by kernel_rfl) (by kernel_rfl) (by kernel_rfl) (fun _ _ _ h => h) (Or.inl ⟨by rfl, ?_⟩) (by assumption) ?_
      rotate_left
      · intro w hSw
        (try dsimp only at hSw)
        go_simp
        (try with_reducible rfl)
      (try simp only [Act.put, List.setIfInBounds_toArray, List.set_cons_zero, List.set_cons_succ])
      obtain ⟨gv, hgv⟩ : ∃ x, x = w.heap.size := ⟨_, rfl⟩
      have e0 : w.drew.heap.size = gv := hgv.symm
      rw [e0] at hv2
      try rw [← hgv]
      have d0 : w2.cell? ⟨gv, 0, none⟩ = some (.int .i64 0) := by unfold World.cell?; rw [hv2]; rfl
      have d1 : w2.cell? ⟨gv, 1, none⟩ = some (.int .i64 0) := by unfold World.cell?; rw [hv2]; rfl
      have f0 : w2.frozen? ⟨gv, 0, none⟩ = false := by unfold World.frozen?; rw [hv2]; rfl
      have f1 : w2.frozen? ⟨gv, 1, none⟩ = false := by unfold World.frozen?; rw [hv2]; rfl
      have hgne : gr ≠ gv := fun e => by have := H.out.rd.lt; omega
      have h2 := H2.out.1
      have hr4 : BlkR 59 ((w2.setCell ⟨gv, 0, none⟩ (.int .i64 0)).setCell ⟨gv, 1, none⟩ (.int .i64 0)) gr [.slice B l.length cb, .int .i64 (at_ : Int)] := (h2.rd.farG hgne _).farG hgne _
      have B4 : Below w.heap.size w ((w2.setCell ⟨gv, 0, none⟩ (.int .i64 0)).setCell ⟨gv, 1, none⟩ (.int .i64 0)) := (H2.out.2.setCell (by show w.heap.size ≤ gv; omega) _).setCell (by show w.heap.size ≤ gv; omega) _
      have H4 := Lib.hid (And.intro (H.out.step B4) B4)
      have hb2 : BlkR 38 w2 gv [.int .i64 0, .int .i64 0] := hv2
      have hb3 := (hb2.set_ 0 (.int .i64 0)).set_ 1 (.int .i64 0)
      have k0 := hb3.cell (k := 0) rfl
      have k1 := hb3.cell (k := 1) rfl
      clear hb2 hb3
      clear hv2 e0 hgv h2 B4
      refine wpAnyH_ready (rs := [16]) (by kernel_rfl) (by simp) ?_
      refine AllReadyH.cons (o := { dst := none, op := Go.Op.store 38 (Go.Operand.tmp 7) (Go.Operand.tmp 20), type := 0, pos := "msg.go:106", after := #[{ on := 13, ground := Go.Ground.data }, { on := 12, ground := Go.Ground.data }, { on := 15, ground := Go.Ground.chain }, { on := 0, ground := Go.Ground.phase }, { on := 1, ground := Go.Ground.phase }, { on := 2, ground := Go.Ground.phase }, { on := 3, ground := Go.Ground.phase }, { on := 4, ground := Go.Ground.phase }, { on := 5, ground := Go.Ground.phase }, { on := 6, ground := Go.Ground.phase }, { on := 7, ground := Go.Ground.phase }, { on := 8, ground := Go.Ground.phase }, { on := 9, ground := Go.Ground.phase }, { on := 10, ground := Go.Ground.phase }, { on := 11, ground := Go.Ground.phase }, { on := 12, ground := Go.Ground.phase }, { on := 13, ground := Go.Ground.phase }, { on := 14, ground := Go.Ground.phase }, { on := 15, ground := Go.Ground.phase }], guard := none }) rfl (fun K hK => ?_) AllReadyH.nil
      go_simp
      refine hK.out _ _ H4.out.1.cells (fun hHeld4 => ?_)
      clear hK K hHeld2 d0 d1 f0 f1 hgne
      (try simp only [Act.put, List.setIfInBounds_toArray, List.set_cons_zero, List.set_cons_succ])
      refine wpAnyH_done (by kernel_rfl) ?_ _
      go_wp2_with (first
        | (go_at_call 35; (with_reducible refine (pass_ok gr (.slice B l.length cb) (at_ : Int) (en : Int) _ hr4).mono ?_); (rintro e w5 ⟨rfl, hr5, hF5⟩; have HP := Lib.hid (And.intro hr5 hF5); clear hr5 hF5)))
      go_ret
      obtain ⟨hr5, hF5⟩ := HP.out
      exact ⟨rfl, H.out.post ((Frame.of_below H4.out.2).trans hF5 (fun k hk => .inl hk)) hr5 HN.out⟩
  · obtain ⟨e3, e4⟩ := get8_out h.here hin
    rw [e3, e4] at z
    have e : (rOps l).lon at_ n = .no 4 l.length := by simp only [rOps]; rw [if_neg hin]
    rw [e]
    obtain ⟨v, hv⟩ : ∃ x, x = getN l (at_ : Int) 8 := ⟨_, rfl⟩
    obtain ⟨en, hen⟩ : ∃ x, x = getP l.length (at_ : Int) 8 := ⟨_, rfl⟩
    rw [← hv, ← hen] at z
    clear e e3 e4 h hv hin hen
    go_enter Try.func73, Try.ntmps73
    go_wp2
    have HS := Lib.hid (show RdCells gr B l.length cb (at_ : Int) w.drew from H.out.cells)
    refine wp_region_held_drew (S := RdCells gr B l.length cb (at_ : Int)) (by kernel_rfl) HS.out (fun hHeld => ?_)
    unfold RdCells at hHeld ⊢
    refine wpAnyH_take (i := 0) (oi := { dst := some 9, op := Go.Op.move (Go.Operand.tmp 0), type := 57, pos := "msg.go:106", after := #[], guard := none }) (v := ?_) rfl (by kernel_rfl) (by kernel_rfl) (by kernel_rfl) (fun _ _ _ h => h) (Or.inl ⟨by rfl, ?_⟩) (by assumption) ?_
    rotate_left
    · intro w hSw
      (try dsimp only at hSw)
      go_simp
      (try with_reducible rfl)
    (try simp only [Act.put, List.setIfInBounds_toArray, List.set_cons_zero, List.set_cons_succ])
    refine wpAnyH_take (i := 1) (oi := { dst := some 10, op := Go.Op.nilCheck (Go.Operand.tmp 9), type := 0, pos := "msg.go:106", after := #[{ on := 0, ground := Go.Ground.data }], guard := none }) (v := ?_) rfl (by kernel_rfl) (by kernel_rfl) (by kernel_rfl) (fun _ _ _ h => h) (Or.inl ⟨by rfl, ?_⟩) (by assumption) ?_
    rotate_left
    · intro w hSw
      (try dsimp only at hSw)
      go_simp
      (try with_reducible rfl)
    (try simp only [Act.put, List.setIfInBounds_toArray, List.set_cons_zero, List.set_cons_succ])
    refine wpAnyH_take (i := 2) (oi := { dst := some 11, op := Go.Op.fieldAddr 59 (Go.Operand.tmp 10) 0, type := 0, pos := "msg.go:106", after := #[{ on := 1, ground := Go.Ground.data }], guard := none }) (v := ?_) rfl (by kernel_rfl) (by kernel_rfl) (by kernel_rfl) (fun _ _ _ h => h) (Or.inl ⟨by rfl, ?_⟩) (by assumption) ?_
    rotate_left
    · intro w hSw
      (try dsimp only at hSw)
      go_simp
      (try with_reducible rfl)
    (try simp only [Act.put, List.setIfInBounds_toArray, List.set_cons_zero, List.set_cons_succ])
    refine wpAnyH_take (i := 3) (oi := { dst := some 12, op := Go.Op.load 25 (Go.Operand.tmp 11), type := 25, pos := "msg.go:106", after := #[{ on := 2, ground := Go.Ground.data }], guard := none }) (v := ?_) rfl (by kernel_rfl) (by kernel_rfl) (by kernel_rfl) (fun _ _ _ h => h) (Or.inl ⟨by rfl, ?_⟩) (by assumption) ?_
    rotate_left
    · intro w hSw
      (try dsimp only at hSw)
      go_simp
      (try with_reducible rfl)
    (try simp only [Act.put, List.setIfInBounds_toArray, List.set_cons_zero, List.set_cons_succ])
    refine wpAnyH_take (i := 4) (oi := { dst := some 13, op := Go.Op.move (Go.Operand.tmp 0), type := 57, pos := "msg.go:106", after := #[], guard := none }) (v := ?_) rfl (by kernel_rfl) (by kernel_rfl) (by kernel_rfl) (fun _ _ _ h => h) (Or.inl ⟨by rfl, ?_⟩) (by assumption) ?_
    rotate_left
    · intro w hSw
      (try dsimp only at hSw)
      go_simp
      (try with_reducible rfl)
    (try simp only [Act.put, List.setIfInBounds_toArray, List.set_cons_zero, List.set_cons_succ])
    refine wpAnyH_take (i := 5) (oi := { dst := some 14, op := Go.Op.nilCheck (Go.Operand.tmp 13), type := 0, pos := "msg.go:106", after := #[{ on := 4, ground := Go.Ground.data }], guard := none }) (v := ?_) rfl (by kernel_rfl) (by kernel_rfl) (by kernel_rfl) (fun _ _ _ h => h) (Or.inl ⟨by rfl, ?_⟩) (by assumption) ?_
    rotate_left
    · intro w hSw
      (try dsimp only at hSw)
      go_simp
      (try with_reducible rfl)
    (try simp only [Act.put, List.setIfInBounds_toArray, List.set_cons_zero, List.set_cons_succ])
    refine wpAnyH_take (i := 6) (oi := { dst := some 15, op := Go.Op.fieldAddr 59 (Go.Operand.tmp 14) 1, type := 0, pos := "msg.go:106", after := #[{ on := 5, ground := Go.Ground.data }], guard := none }) (v := ?_) rfl (by kernel_rfl) (by kernel_rfl) (by kernel_rfl) (fun _ _ _ h => h) (Or.inl ⟨by rfl, ?_⟩) (by assumption) ?_
    rotate_left
    · intro w hSw
      (try dsimp only at hSw)
      go_simp
      (try with_reducible rfl)
    (try simp only [Act.put, List.setIfInBounds_toArray, List.set_cons_zero, List.set_cons_succ])
    refine wpAnyH_take (i := 7) (oi := { dst := some 16, op := Go.Op.load 3 (Go.Operand.tmp 15), type := 3, pos := "msg.go:106", after := #[{ on := 6, ground := Go.Ground.data }], guard := none }) (v := ?_) rfl (by kernel_rfl) (by kernel_rfl) (by kernel_rfl) (fun _ _ _ h => h) (Or.inl ⟨by rfl, ?_⟩) (by assumption) ?_
    rotate_left
    · intro w hSw
      (try dsimp only at hSw)
      go_simp
      (try with_reducible rfl)
    (try simp only [Act.put, List.setIfInBounds_toArray, List.set_cons_zero, List.set_cons_succ])
    refine wpAnyH_ready (rs := [8, 13]) (by kernel_rfl) (by simp) ?_
    refine AllReadyH.cons (o := { dst := some 17, op := Go.Op.call { callee := Go.Callee.value (Go.Operand.func 75), args := #[Go.Operand.tmp 12, Go.Operand.tmp 16], argTypes := #[25, 3] }, type := 79, pos := "msg.go:106", after := #[{ on := 3, ground := Go.Ground.data }, { on := 7, ground := Go.Ground.data }], guard := none }) rfl (fun K hK => ?_) (AllReadyH.cons (o := { dst := some 7, op := Go.Op.alloc 38, type := 0, pos := "msg.go:106", after := #[], guard := none }) rfl (fun K hK => ?_) AllReadyH.nil)
    · go_simp
      refine (z _ ((Below.refl _ w).drew)).mono ?_
      rintro e w2 ⟨rfl, B2⟩
      unfold flt
      have h2 := (H.out.step ((Below.refl _ w).drew)).step B2
      have H2 := Lib.hid (And.intro h2 (step_trans ((Below.refl _ w).drew) B2))
      refine hK.out _ _ h2.cells (fun hHeld2 => ?_)
      clear hK K h2 B2
      (try simp only [Act.put, List.setIfInBounds_toArray, List.set_cons_zero, List.set_cons_succ])
      refine wpAnyH_take (i := 9) (oi := { dst := some 8, op := Go.Op.move (Go.Operand.tmp 17), type := 79, pos := "msg.go:106", after := #[{ on := 8, ground := Go.Ground.data }], guard := none }) (v := ?_) rfl (by kernel_rfl) (by kernel_rfl) (by kernel_rfl) (fun _ _ _ h => h) (Or.inl ⟨by rfl, ?_⟩) (by assumption) ?_
      rotate_left
      · intro w hSw
        (try dsimp only at hSw)
        go_simp
        (try with_reducible rfl)
      (try simp only [Act.put, List.setIfInBounds_toArray, List.set_cons_zero, List.set_cons_succ])
      refine wpAnyH_take (i := 10) (oi := { dst := some 18, op := Go.Op.extract (Go.Operand.tmp 8) 0, type := 24, pos := "msg.go:106", after := #[{ on := 9, ground := Go.Ground.data }], guard := none }) (v := ?_) rfl (by kernel_rfl) (by kernel_rfl) (by kernel_rfl) (fun _ _ _ h => h) (Or.inl ⟨by rfl, ?_⟩) (by assumption) ?_
      rotate_left
      · intro w hSw
        (try dsimp only at hSw)
        go_simp
        (try with_reducible rfl)
      (try simp only [Act.put, List.setIfInBounds_toArray, List.set_cons_zero, List.set_cons_succ])
      refine wpAnyH_take (i := 11) (oi := { dst := some 19, op := Go.Op.extract (Go.Operand.tmp 8) 1, type := 3, pos := "msg.go:106", after := #[{ on := 9, ground := Go.Ground.data }, { on := 14, ground := Go.Ground.gcOnly Go.Departure.lateStores }], guard := none }) (v := ?_) rfl (by kernel_rfl) (by kernel_rfl) (by kernel_rfl) (fun _ _ _ h => h) (Or.inl ⟨by rfl, ?_⟩) (by assumption) ?_
      rotate_left
      · intro w hSw
        (try dsimp only at hSw)
        go_simp
        (try with_reducible rfl)
      (try simp only [Act.put, List.setIfInBounds_toArray, List.set_cons_zero, List.set_cons_succ])
      refine wpAnyH_take (i := 12) (oi := { dst := some 20, op := Go.Op.extract (Go.Operand.tmp 8) 2, type := 38, pos := "msg.go:106", after := #[{ on := 9, ground := Go.Ground.data }, { on := 15, ground := Go.Ground.gcOnly Go.Departure.lateStores }], guard := none }) (v := ?_) rfl (by kernel_rfl) (by kernel_rfl) (by kernel_rfl) (fun _ _ _ h => h) (Or.inl ⟨by rfl, ?_⟩) (by assumption) ?_
      rotate_left
      · intro w hSw
        (try dsimp only at hSw)
        go_simp
        (try with_reducible rfl)
      (try simp only [Act.put, List.setIfInBounds_toArray, List.set_cons_zero, List.set_cons_succ])
      refine wpAnyH_ready (rs := [13]) (by kernel_rfl) (by simp) ?_
      refine AllReadyH.cons (o := { dst := some 7, op := Go.Op.alloc 38, type := 0, pos := "msg.go:106", after := #[], guard := none }) rfl (fun K hK => ?_) AllReadyH.nil
      go_simp
      have h3 := H2.out.1.step ((Below.refl _ w2).alloc (Nat.le_refl _) (.cells #[.int .i64 0, .int .i64 0] 38))
      have H3 := Lib.hid h3
      refine hK.out _ _ H3.out.cells (fun hHeld3 => ?_)
      clear hK K hHeld hHeld2 h3
      (try simp only [Act.put, List.setIfInBounds_toArray, List.set_cons_zero, List.set_cons_succ])
      refine wpAnyH_take (i := 14) (oi := { dst := some 5, op := Go.Op.assign (Go.Operand.tmp 18), type := 24, pos := "msg.go:106", after := #[{ on := 10, ground := Go.Ground.data }, { on := 8, ground := Go.Ground.chain }, { on := 0, ground := Go.Ground.phase }, { on := 1, ground := Go.Ground.phase }, { on := 2, ground := Go.Ground.phase }, { on := 3, ground := Go.Ground.phase }, { on := 4, ground := Go.Ground.phase }, { on := 5, ground := Go.Ground.phase }, { on := 6, ground := Go.Ground.phase }, { on := 7, ground := Go.Ground.phase }, { on := 8, ground := Go.Ground.phase }, { on := 9, ground := Go.Ground.phase }, { on := 10, ground := Go.Ground.phase }, { on := 11, ground := Go.Ground.textOnly Go.Departure.lateStores }, { on := 12, ground := Go.Ground.textOnly Go.Departure.lateStores }, { on := 13, ground := Go.Ground.phase }], guard := none }) (v := ?_) rfl (by kernel_rfl) (by kernel_rfl) (by kernel_rfl) (fun _ _ _ h => h) (Or.inl ⟨by rfl, ?_⟩) (by assumption) ?_
      rotate_left
      · intro w hSw
        (try dsimp only at hSw)
        go_simp
        (try with_reducible rfl)
      (try simp only [Act.put, List.setIfInBounds_toArray, List.set_cons_zero, List.set_cons_succ])
      refine wpAnyH_take (i := 15) (oi := { dst := some 6, op := Go.Op.assign (Go.Operand.tmp 19), type := 3, pos := "msg.go:106", after := #[{ on := 11, ground := Go.Ground.data }, { on := 14, ground := Go.Ground.chain }, { on := 0, ground := Go.Ground.phase }, { on := 1, ground := Go.Ground.phase }, { on := 2, ground := Go.Ground.phase }, { on := 3, ground := Go.Ground.phase }, { on := 4, ground := Go.Ground.phase }, { on := 5, ground := Go.Ground.phase }, { on := 6, ground := Go.Ground.phase }, { on := 7, ground := Go.Ground.phase }, { on := 8, ground := Go.Ground.phase }, { on := 9, ground := Go.Ground.phase }, { on := 10, ground := Go.Ground.phase }, { on := 11, ground := Go.Ground.phase }, { on := 12, ground := Go.Ground.textOnly Go.Departure.lateStores }, { on := 13, ground := Go.Ground.phase }, { on := 14, ground := Go.Ground.phase }], guard := none }) (v := ?_) rfl (by kernel_rfl) (by kernel_rfl) (by kernel_rfl) (fun _ _ _ h => h) (Or.inl ⟨by rfl, ?_⟩) (by assumption) ?_
      rotate_left
      · intro w hSw
        (try dsimp only at hSw)
        go_simp
        (try with_reducible rfl)
      (try simp only [Act.put, List.setIfInBounds_toArray, List.set_cons_zero, List.set_cons_succ])
      refine wpAnyH_ready (rs := [16]) (by kernel_rfl) (by simp) ?_
      refine AllReadyH.cons (o := { dst := none, op := Go.Op.store 38 (Go.Operand.tmp 7) (Go.Operand.tmp 20), type := 0, pos := "msg.go:106", after := #[{ on := 13, ground := Go.Ground.data }, { on := 12, ground := Go.Ground.data }, { on := 15, ground := Go.Ground.chain }, { on := 0, ground := Go.Ground.phase }, { on := 1, ground := Go.Ground.phase }, { on := 2, ground := Go.Ground.phase }, { on := 3, ground := Go.Ground.phase }, { on := 4, ground := Go.Ground.phase }, { on := 5, ground := Go.Ground.phase }, { on := 6, ground := Go.Ground.phase }, { on := 7, ground := Go.Ground.phase }, { on := 8, ground := Go.Ground.phase }, { on := 9, ground := Go.Ground.phase }, { on := 10, ground := Go.Ground.phase }, { on := 11, ground := Go.Ground.phase }, { on := 12, ground := Go.Ground.phase }, { on := 13, ground := Go.Ground.phase }, { on := 14, ground := Go.Ground.phase }, { on := 15, ground := Go.Ground.phase }], guard := none }) rfl (fun K hK => ?_) AllReadyH.nil
      go_simp
      have h4 := H2.out.1.step ((Below.refl _ w2).alloc (Nat.le_refl _) (.cells #[.int .i64 4, .int .i64 (l.length : Int)] 38))
      have B4 : Below w.heap.size w (w2.alloc (.cells #[.int .i64 4, .int .i64 (l.length : Int)] 38)) := H2.out.2.alloc H2.out.2.size _
      have H4 := Lib.hid (And.intro h4 B4)
      have hr4 := h4.rd
      clear h4 B4
      refine hK.out _ _ H4.out.1.cells (fun hHeld4 => ?_)
      clear hK K hHeld3
      (try simp only [Act.put, List.setIfInBounds_toArray, List.set_cons_zero, List.set_cons_succ])
      refine wpAnyH_done (by kernel_rfl) ?_ _
      go_wp2_with (first
        | (go_at_call 35; (with_reducible refine (pass_no 4 (l.length : Int) en _ _ rfl).mono ?_); (rintro e w5 ⟨rfl, B5⟩; have HP := Lib.hid B5; clear B5)))
      exact ⟨rfl, rfl, Frame.of_below (step_trans H4.out.2 HP.out)⟩
    · go_simp
      have B1 : Below w.heap.size w (w.drew.alloc (.cells #[.int .i64 0, .int .i64 0] 38)) := (Below.refl _ w).drew.alloc (Nat.le_refl _) _
      have H1 := Lib.hid (And.intro (H.out.step B1) B1)
      have hv := heap_alloc_new w.drew (.cells #[.int .i64 0, .int .i64 0] 38)
      have hvl : w.drew.heap.size < (w.drew.alloc (.cells #[.int .i64 0, .int .i64 0] 38)).heap.size := by simp
      have HV := Lib.hid (And.intro hv hvl)
      refine hK.out _ _ H1.out.1.cells (fun hHeld3 => ?_)
      clear hK K hHeld hv hvl B1
      (try simp only [Act.put, List.setIfInBounds_toArray, List.set_cons_zero, List.set_cons_succ])
      refine wpAnyH_ready (rs := [8]) (by kernel_rfl) (by simp) ?_
      refine AllReadyH.cons (o := { dst := some 17, op := Go.Op.call { callee := Go.Callee.value (Go.Operand.func 75), args := #[Go.Operand.tmp 12, Go.Operand.tmp 16], argTypes := #[25, 3] }, type := 79, pos := "msg.go:106", after := #[{ on := 3, ground := Go.Ground.data }, { on := 7, ground := Go.Ground.data }], guard := none }) rfl (fun K hK => ?_) AllReadyH.nil
      go_simp
      refine (z _ H1.out.2).mono ?_
      rintro e w2 ⟨rfl, B2⟩
      unfold flt
      have h2 := H1.out.1.step B2
      have H2 := Lib.hid (And.intro h2 (step_trans H1.out.2 B2))
      have hv2 := (B2.block _ HV.out.2).trans HV.out.1
      refine hK.out _ _ h2.cells (fun hHeld2 => ?_)
      clear hK K hHeld3 h2 B2
      (try simp only [Act.put, List.setIfInBounds_toArray, List.set_cons_zero, List.set_cons_succ])
      refine wpAnyH_take (i := 9) (oi := { dst := some 8, op := Go.Op.move (Go.Operand.tmp 17), type := 79, pos := "msg.go:106", after := #[{ on := 8, ground := Go.Ground.data }], guard := none }) (v := ?_) rfl (by kernel_rfl) (by kernel_rfl) (by kernel_rfl) (fun _ _ _ h => h) (Or.inl ⟨by rfl, ?_⟩) (by assumption) ?_
      rotate_left
      · intro w hSw
        (try dsimp only at hSw)
        go_simp
        (try with_reducible rfl)
      (try simp only [Act.put, List.setIfInBounds_toArray, List.set_cons_zero, List.set_cons_succ])
      refine wpAnyH_take (i := 10) (oi := { dst := some 18, op := Go.Op.extract (Go.Operand.tmp 8) 0, type := 24, pos := "msg.go:106", after := #[{ on := 9, ground := Go.Ground.data }], guard := none }) (v := ?_) rfl (by kernel_rfl) (by kernel_rfl) (by kernel_rfl) (fun _ _ _ h => h) (Or.inl ⟨by rfl, ?_⟩) (by assumption) ?_
      rotate_left
      · intro w hSw
        (try dsimp only at hSw)
        go_simp
        (try with_reducible rfl)
      (try simp only [Act.put, List.setIfInBounds_toArray, List.set_cons_zero, List.set_cons_succ])
      refine wpAnyH_take (i := 11) (oi := { dst := some 19, op := Go.Op.extract (Go.Operand.tmp 8) 1, type := 3, pos := "msg.go:106", after := #[{ on := 9, ground := Go.Ground.data }, { on := 14, ground := Go.Ground.gcOnly Go.Departure.lateStores }], guard := none }) (v := ?_) rfl (by kernel_rfl) (by kernel_rfl) (by kernel_rfl) (fun _ _ _ h => h) (Or.inl ⟨by rfl, ?_⟩) (by assumption) ?_
      rotate_left
      · intro w hSw
        (try dsimp only at hSw)
        go_simp
        (try with_reducible rfl)
      (try simp only [Act.put, List.setIfInBounds_toArray, List.set_cons_zero, List.set_cons_succ])
      refine wpAnyH_take (i := 12) (oi := { dst := some 20, op := Go.Op.extract (Go.Operand.tmp 8) 2, type := 38, pos := "msg.go:106", after := #[{ on := 9, ground := Go.Ground.data }, { on := 15, ground := Go.Ground.gcOnly Go.Departure.lateStores }], guard := none }) (v := ?_) rfl (by kernel_rfl) (by kernel_rfl) (by kernel_rfl) (fun _ _ _ h => h) (Or.inl ⟨by rfl, ?_⟩) (by assumption) ?_
      rotate_left
      · intro w hSw
        (try dsimp only at hSw)
        go_simp
        (try with_reducible rfl)
      (try simp only [Act.put, List.setIfInBounds_toArray, List.set_cons_zero, List.set_cons_succ])
      refine wpAnyH_take (i := 14) (oi := { dst := some 5, op := Go.Op.assign (Go.Operand.tmp 18), type := 24, pos := "msg.go:106", after := #[{ on := 10, ground := Go.Ground.data }, { on := 8, ground := Go.Ground.chain }, { on := 0, ground := Go.Ground.phase }, { on := 1, ground := Go.Ground.phase }, { on := 2, ground := Go.Ground.phase }, { on := 3, ground := Go.Ground.phase }, { on := 4, ground := Go.Ground.phase }, { on := 5, ground := Go.Ground.phase }, { on := 6, ground := Go.Ground.phase }, { on := 7, ground := Go.Ground.phase }, { on := 8, ground := Go.Ground.phase }, { on := 9, ground := Go.Ground.phase }, { on := 10, ground := Go.Ground.phase }, { on := 11, ground := Go.Ground.textOnly Go.Departure.lateStores }, { on := 12, ground := Go.Ground.textOnly Go.Departure.lateStores }, { on := 13, ground := Go.Ground.phase }], guard := none }) (v := ?_) rfl (by kernel_rfl) (by kernel_rfl) (by kernel_rfl) (fun _ _ _ h => h) (Or.inl ⟨by rfl, ?_⟩) (by assumption) ?_
      rotate_left
      · intro w hSw
        (try dsimp only at hSw)
        go_simp
        (try with_reducible rfl)
      (try simp only [Act.put, List.setIfInBounds_toArray, List.set_cons_zero, List.set_cons_succ])
      refine wpAnyH_take (i := 15) (oi := { dst := some 6, op := Go.Op.assign (Go.Operand.tmp 19), type := 3, pos := "msg.go:106", after := #[{ on := 11, ground := Go.Ground.data }, { on := 14, ground := Go.Ground.chain }, { on := 0, ground := Go.Ground.phase }, { on := 1, ground := Go.Ground.phase }, { on := 2, ground := Go.Ground.phase }, { on := 3, ground := Go.Ground.phase }, { on := 4, ground := Go.Ground.phase }, { on := 5, ground := Go.Ground.phase }, { on := 6, ground := Go.Ground.phase }, { on := 7, ground := Go.Ground.phase }, { on := 8, ground := Go.Ground.phase }, { on := 9, ground := Go.Ground.phase }, { on := 10, ground := Go.Ground.phase }, { on := 11, ground := Go.Ground.phase }, { on := 12, ground := Go.Ground.textOnly Go.Departure.lateStores }, { on := 13, ground := Go.Ground.phase }, { on := 14, ground := Go.Ground.phase }], guard := none }) (v := ?_) rfl (by kernel_rfl) (by kernel_rfl) (by kernel_rfl) (fun _ _ _ h => h) (Or.inl ⟨by rfl, ?_⟩) (by assumption) ?_
      rotate_left
      · intro w hSw
        (try dsimp only at hSw)
        go_simp
        (try with_reducible rfl)
      (try simp only [Act.put, List.setIfInBounds_toArray, List.set_cons_zero, List.set_cons_succ])
      obtain ⟨gv, hgv⟩ : ∃ x, x = w.heap.size := ⟨_, rfl⟩
      have e0 : w.drew.heap.size = gv := hgv.symm
      rw [e0] at hv2
      try rw [← hgv]
      have d0 : w2.cell? ⟨gv, 0, none⟩ = some (.int .i64 0) := by unfold World.cell?; rw [hv2]; rfl
      have d1 : w2.cell? ⟨gv, 1, none⟩ = some (.int .i64 0) := by unfold World.cell?; rw [hv2]; rfl
      have f0 : w2.frozen? ⟨gv, 0, none⟩ = false := by unfold World.frozen?; rw [hv2]; rfl
      have f1 : w2.frozen? ⟨gv, 1, none⟩ = false := by unfold World.frozen?; rw [hv2]; rfl
      have hgne : gr ≠ gv := fun e => by have := H.out.rd.lt; omega
      have h2 := H2.out.1
      have hr4 : BlkR 59 ((w2.setCell ⟨gv, 0, none⟩ (.int .i64 4)).setCell ⟨gv, 1, none⟩ (.int .i64 (l.length : Int))) gr [.slice B l.length cb, .int .i64 (at_ : Int)] := (h2.rd.farG hgne _).farG hgne _
      have B4 : Below w.heap.size w ((w2.setCell ⟨gv, 0, none⟩ (.int .i64 4)).setCell ⟨gv, 1, none⟩ (.int .i64 (l.length : Int))) := (H2.out.2.setCell (by show w.heap.size ≤ gv; omega) _).setCell (by show w.heap.size ≤ gv; omega) _
      have H4 := Lib.hid (And.intro (H.out.step B4) B4)
      have hb2 : BlkR 38 w2 gv [.int .i64 0, .int .i64 0] := hv2
      have hb3 := (hb2.set_ 0 (.int .i64 4)).set_ 1 (.int .i64 (l.length : Int))
      have k0 := hb3.cell (k := 0) rfl
      have k1 := hb3.cell (k := 1) rfl
      clear hb2 hb3
      clear hv2 e0 hgv h2 B4
      refine wpAnyH_ready (rs := [16]) (by kernel_rfl) (by simp) ?_
      refine AllReadyH.cons (o := { dst := none, op := Go.Op.store 38 (Go.Operand.tmp 7) (Go.Operand.tmp 20), type := 0, pos := "msg.go:106", after := #[{ on := 13, ground := Go.Ground.data }, { on := 12, ground := Go.Ground.data }, { on := 15, ground := Go.Ground.chain }, { on := 0, ground := Go.Ground.phase }, { on := 1, ground := Go.Ground.phase }, { on := 2, ground := Go.Ground.phase }, { on := 3, ground := Go.Ground.phase }, { on := 4, ground := Go.Ground.phase }, { on := 5, ground := Go.Ground.phase }, { on := 6, ground := Go.Ground.phase }, { on := 7, ground := Go.Ground.phase }, { on := 8, ground := Go.Ground.phase }, { on := 9, ground := Go.Ground.phase }, { on := 10, ground := Go.Ground.phase }, { on := 11, ground := Go.Ground.phase }, { on := 12, ground := Go.Ground.phase }, { on := 13, ground := Go.Ground.phase }, { on := 14, ground := Go.Ground.phase }, { on := 15, ground := Go.Ground.phase }], guard := none }) rfl (fun K hK => ?_) AllReadyH.nil
      go_simp
      refine hK.out _ _ H4.out.1.cells (fun hHeld4 => ?_)
      clear hK K hHeld2 d0 d1 f0 f1 hgne
      (try simp only [Act.put, List.setIfInBounds_toArray, List.set_cons_zero, List.set_cons_succ])
      refine wpAnyH_done (by kernel_rfl) ?_ _
      go_wp2_with (first
        | (go_at_call 35; (with_reducible refine (pass_no 4 (l.length : Int) en _ _ rfl).mono ?_); (rintro e w5 ⟨rfl, B5⟩; have HP := Lib.hid B5; clear B5)))
      exact ⟨rfl, rfl, Frame.of_below (step_trans H4.out.2 HP.out)⟩
set_option maxRecDepth 100000 in
theorem sclone_any (l : List UInt8) (ad : Addr) (n c : Nat) (hn : l.length = n) (h0 : 0 < n) (h100 : n ≤ 1000) (w : World) (hr : BytesAt w w.heap.size (some ad) l) : Calls Try.prog 74 #[.slice (some ad) n c] w (ClonePost l n w) := by
  have B1 := emptyB w
  obtain ⟨c', w', hrun, hc, hW, hB⟩ := run_clone (w.alloc (.cells #[] 5)) 25 l ad n c hn h0 h100 ⟨w.heap.size, 0, none⟩ (hr.step B1)
  have hp : ClonePost l n w (.returned (.slice (some ⟨w.heap.size + 1, 0, none⟩) n c')) w' := ⟨some ⟨w.heap.size + 1, 0, none⟩, c', rfl, hc, by have := hW.less B1.size; simpa using this, step_trans B1 hB⟩
  replace hp := Lib.hid hp
  rw [show (w.alloc (.cells #[] 5)).heap.size = w.heap.size + 1 by simp] at hrun
  clear hr B1 hc hW hB
  replace hrun := Lib.hid hrun
  have qn := some_eql ad
  go_enter Try.func74, Try.ntmps74
  go_wp2_with (at_builtin; refine wpList_append_runR rfl (.tmp 5) (.tmp 6) 25 rfl rfl rfl hrun.out ?_)
  go_ret
  exact hp.out
set_option maxRecDepth 100000 in
set_option maxHeartbeats 1000000 in
theorem rByt (h : RdInv base gm gr l B cb w F m at_) (A0 : Option Addr) (n0 c0 : Nat) (hd : BlkR 27 w gm (mCells m (.slice A0 n0 c0))) : Calls Try.prog 72 #[.pointer (some ⟨gr, 0, none⟩), .slice A0 n0 c0] w (BytPost (fun w F m a => RdInv base gm gr l B cb w F m a) gm m (mCells m (.slice A0 n0 c0)) w F ((rOps l).byt at_ m.data)) := by
  obtain ⟨A, c, h⟩ := h
  have k0 := h.rd.cell (k := 0) rfl
  have k1 := h.rd.cell (k := 1) rfl
  have q1 := cut_from B l.length cb at_ h.here
  have hle := h.here
  have b1 : (0 : Int) ≤ (at_ : Int) := by omega
  have b2 : (at_ : Int) ≤ (l.length : Int) := by omega
  have hs := h.src
  obtain ⟨B', hB'⟩ : ∃ x, x = cutA B at_ cb := ⟨_, rfl⟩
  have hdrop := hs.drop at_ cb h.most.1
  rw [← hB'] at q1 hdrop
  have hsub : ((l.length - at_ : Nat) : Int) = (l.length : Int) - (at_ : Int) := by omega
  by_cases hin : at_ + 32 ≤ l.length
  · have e : (rOps l).byt at_ m.data = .ok ((l.drop at_).take 32, at_ + 32) := by simp only [rOps]; rw [if_pos hin]
    rw [e]
    have hl : ((l.drop at_).take 32).length = 32 := by simp; omega
    have ht := hdrop.take 32
    obtain ⟨v, hv⟩ : ∃ x, x = (l.drop at_).take 32 := ⟨_, rfl⟩
    rw [← hv] at hl ht
    rw [← hv]
    obtain ⟨ad, rfl, _⟩ := ht (fun e => by rw [e] at hl; simp at hl)
    have q2 := cut_to (some ad) (l.length - at_) (cb - at_) 32 (by have := h.most; omega)
    have n1 : ¬ ((l.length - at_ : Nat) : Int) < 32 := by omega
    have n2 : (32 : Int) ≤ ((cb - at_ : Nat) : Int) := by have := h.most; omega
    have w1 : IntKind.i64.wrap ((at_ : Int) + 32) = ((at_ + 32 : Nat) : Int) := by rw [IntWalk.i64_in _ (by have := h.most; omega)]; omega
    obtain ⟨en, hen⟩ : ∃ x, x = at_ + 32 := ⟨_, rfl⟩
    have HN := Lib.hid (And.intro hin hen)
    rw [← hen] at w1 ⊢
    obtain ⟨nl, hnl⟩ : ∃ x, x = l.length - at_ := ⟨_, rfl⟩
    obtain ⟨cl, hcl⟩ : ∃ x, x = cb - at_ := ⟨_, rfl⟩
    rw [← hnl] at n1 q1 q2
    rw [← hcl] at n2 q1 q2
    have H := Lib.hid (And.intro h hd)
    have HT := Lib.hid (And.intro ht hl)
    have hF : ∀ k, Frame (fun x => x = gr) w ((w.drewN k).setCell ⟨gr, 1, none⟩ (.int .i64 (en : Int))) := fun k => (Frame.of_below (⟨rfl, rfl, rfl, Nat.le_refl _, fun _ _ => rfl⟩ : Below w.heap.size w (w.drewN k))).setAt ⟨gr, 1, none⟩ _ rfl
    have hr2 : ∀ k, BlkR 59 ((w.drewN k).setCell ⟨gr, 1, none⟩ (.int .i64 (en : Int))) gr [.slice B l.length cb, .int .i64 (en : Int)] := fun k => (show BlkR 59 (w.drewN k) gr _ from h.rd).set_ 1 _
    have hz := h.rd.frozen 1
    have HK := Lib.hid (And.intro hF hr2)
    clear hF hr2 e hin hl ht hv hs hdrop hB' hle h hd hen hnl hcl hsub
    go_enter Try.func72, Try.ntmps72
    go_wp2
    go_quiet (fail)
    obtain ⟨h, hd⟩ := H.out
    have B1 : Below w.heap.size w (w.drewN nq) := ⟨rfl, rfl, rfl, Nat.le_refl _, fun _ _ => rfl⟩
    obtain ⟨hF, hr2⟩ := HK.out
    have hF := hF nq
    have hr2 := hr2 nq
    have ht2 : BytesAt ((w.drewN nq).setCell ⟨gr, 1, none⟩ (.int .i64 (en : Int))) ((w.drewN nq).setCell ⟨gr, 1, none⟩ (.int .i64 (en : Int))).heap.size (some ad) v := (HT.out.1.below (hF.below (fun k hk => by have := h.lo.1; omega) h.lo.2.2)).more (Nat.le_trans h.lo.2.2 hF.size)
    have z := sclone_any v ad 32 cl HT.out.2 (by omega) (by omega) _ ht2
    have hg0 := h.goes hF hr2 (by have := HN.out; omega)
    have HG := Lib.hid hg0
    have HF := Lib.hid hF
    clear h hd B1 hF hr2 ht2 hg0
    go_wp2_with (first
      | (go_at_call 74; (with_reducible refine z.mono ?_); (rintro e w3 ⟨A3, c3, rfl, hc3, hW3, B3⟩; have HW := Lib.hid (And.intro hc3 (And.intro hW3 B3)); clear hW3 B3)))
    go_ret
    obtain ⟨hc3, hW3, B3⟩ := HW.out
    have hg3 := HG.out.step B3
    obtain ⟨e1, e2, e3⟩ : A0 = A ∧ n0 = m.data.length ∧ c0 = c := by
      have e := (H.out.2.cell (k := 11) rfl).symm.trans (H.out.1.msg.cell (k := 11) rfl)
      injection e with e
      injection e with e1 e2 e3
      exact ⟨e1, e2, e3⟩
    subst e1; subst e2; subst e3
    refine ⟨_, _, _, rfl, hg3.msg, F, ?_, fun k hk => .inl hk, (HF.out.mono (fun k hk => (H.out.1.blk k).2 (.inr hk))).trans (Frame.of_below (F := fun _ => False) B3) (fun k hk => hk.elim)⟩
    exact ⟨A3, c3, hg3.msgSet (mCells_data m _ _ v) HT.out.2.symm (hW3.less (by have := HG.out.msg.lt; omega)) hc3⟩
  · have e : (rOps l).byt at_ m.data = .no 4 l.length := by simp only [rOps]; rw [if_neg hin]
    rw [e]
    have n1 : ((l.length - at_ : Nat) : Int) < 32 := by omega
    obtain ⟨nl, hnl⟩ : ∃ x, x = l.length - at_ := ⟨_, rfl⟩
    obtain ⟨cl, hcl⟩ : ∃ x, x = cb - at_ := ⟨_, rfl⟩
    rw [← hnl] at n1 q1
    rw [← hcl] at q1
    clear e hin hs hdrop hB' hle h hd hnl hcl hsub
    go_enter Try.func72, Try.ntmps72
    go_wp2
    go_quiet (fail)
    have B1 : Below w.heap.size w (w.drewN nq) := ⟨rfl, rfl, rfl, Nat.le_refl _, fun _ _ => rfl⟩
    go_wp2_with (go_at_call 28; (with_reducible refine (refuse_any _ _ _).mono ?_); (rintro e w2 ⟨rfl, rfl⟩))
    exact ⟨rfl, rfl, Frame.of_below B1⟩

end
/-- the reader, as what carries a message's parts -/
def rdCar (base gm gr : Nat) (l : List UInt8) (B : Option Addr) (cb : Nat) : Carr Nat where
  T := 57
  p := .pointer (some ⟨gr, 0, none⟩)
  gm := gm
  o := rOps l
  num := 27
  lon := 73
  byt := 72
  mnum := fun n w => by kernel_rfl
  fnum := fun args w => by kernel_rfl
  mlon := fun n w => by kernel_rfl
  flon := fun args w => by kernel_rfl
  mbyt := fun n w => by kernel_rfl
  fbyt := fun args w => by kernel_rfl
  Inv := RdInv base gm gr l B cb
  small := fun _ _ => True
  less := fun _ => trivial
  snum := fun _ _ _ => trivial
  slon := fun _ _ => trivial
  sbyt := fun _ _ => trivial
  cells := fun ⟨A, c, h⟩ => ⟨A, _, c, h.msg⟩
  own := fun ⟨A, c, h⟩ => h.own
  mine := fun ⟨A, c, h⟩ => (h.blk gm).2 (.inl rfl)
  step := fun ⟨A, c, h⟩ hB => ⟨A, c, h.step hB⟩
  set := fun ⟨A, c, h⟩ q v => ⟨A, c, h.msgSet (mCells_set _ _ q v) (by cases q <;> rfl) (by have := h.dat; cases q <;> exact this) h.cap⟩
  sbits := fun ⟨A, c, h⟩ x => ⟨A, c, h.msgSet (mCells_bits _ _ x) rfl h.dat h.cap⟩
  cnum := fun h _ n s mo hg => rNum h n s mo hg
  clon := fun h _ n => rLon h n
  cbyt := fun h _ A n c hd => rByt h A n c hd
end Go.Proofs.Ytfiijnpabmocdaa
