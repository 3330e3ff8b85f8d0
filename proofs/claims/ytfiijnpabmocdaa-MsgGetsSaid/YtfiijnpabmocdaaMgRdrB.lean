/-
  The document's own reader: a number, by the document's words; what stands while fields are read. Conditions: the bytes can be read.
-/
import Derived.Test.YtfiijnpabmocdaaMgRdr
import Derived.Test.YtfiijnpabmocdaaMgTie
namespace Go.Proofs.Ytfiijnpabmocdaa
open Go.RowKit Mg Fix

theorem isz_of {s : Nat} (hs : s = 6 ∨ s = 1) : isz (s : Int) = true := by rcases hs with rfl | rfl <;> decide
theorem getZ_ok (A : Option Addr) (l : List UInt8) (n c i s : Nat) (hn : l.length = n) (h1 : n ≤ 1000) (hs : s = 6 ∨ s = 1) (h : i + s ≤ n) (w : World) (hr : BytesAt w w.heap.size A l) :
    Calls Try.prog 48 #[.slice A n c, .int .i64 (i : Int), .int .i64 (s : Int)] w fun e w' => e = .returned (.tuple #[.int .i64 (le ((l.drop i).take s) : Int), .int .i64 ((i + s : Nat) : Int), .agg #[.int .i64 0, .int .i64 0]]) ∧ Below w.heap.size w w' := by
  subst hn
  have z := refGet_any A l c (i : Int) (s : Int) w (by omega) hr
  have e2 : inR l.length (i : Int) = true := (inR_iff _ _).2 ⟨by omega, by omega⟩
  have e3 : inN l.length (i : Int) s = true := (inN_iff _ _ s).2 ⟨by omega, by omega, by omega⟩
  simp only [getsN, getsP, getsE, getsA, isz_of hs, if_true, getN, getP, getE, getA, Int.toNat_natCast, e2, e3] at z
  rw [show ((i + s : Nat) : Int) = (i : Int) + (s : Int) by omega]
  exact z
theorem getZ_no (A : Option Addr) (l : List UInt8) (n c i s : Nat) (hn : l.length = n) (h1 : n ≤ 1000) (hs : s = 6 ∨ s = 1) (hi : i ≤ n) (h : ¬ i + s ≤ n) (w : World) (hr : BytesAt w w.heap.size A l) :
    Calls Try.prog 48 #[.slice A n c, .int .i64 (i : Int), .int .i64 (s : Int)] w fun e w' => e = .returned (.tuple #[.int .i64 0, .int .i64 0, .agg #[.int .i64 4, .int .i64 (n : Int)]]) ∧ Below w.heap.size w w' := by
  subst hn
  have z := refGet_any A l c (i : Int) (s : Int) w (by omega) hr
  have e2 : inR l.length (i : Int) = true := (inR_iff _ _).2 ⟨by omega, by omega⟩
  have e3 : inN l.length (i : Int) s = false := by rw [← Bool.not_eq_true, inN_iff]; omega
  simp only [getsN, getsP, getsE, getsA, isz_of hs, if_true, getN, getP, getE, getA, Int.toNat_natCast, e2, e3, Bool.false_eq_true, if_false] at z
  exact z
theorem num_ok {l : List UInt8} {i s : Nat} {y mo v : Int} {j : Nat} (h : (rOps l).num i y s mo = .ok (v, j)) : i + s ≤ l.length ∧ v = (le ((l.drop i).take s) : Int) ∧ v ≤ mo ∧ j = i + s := by
  simp only [rOps] at h
  split at h
  · rename_i h1
    split at h
    · rename_i h2
      injection h with h
      injection h with e1 e2
      exact ⟨h1, e1.symm, by rw [← e1]; exact h2, e2.symm⟩
    · cases h
  · cases h
theorem num_no {l : List UInt8} {i s : Nat} {y mo x a : Int} (h : (rOps l).num i y s mo = .no x a) : (i + s ≤ l.length ∧ mo < (le ((l.drop i).take s) : Int) ∧ x = 5 ∧ a = i) ∨ (¬ i + s ≤ l.length ∧ x = 4 ∧ a = l.length) := by
  simp only [rOps] at h
  split at h
  · rename_i h1
    split at h
    · cases h
    · rename_i h2
      injection h with e1 e2
      exact .inl ⟨h1, by omega, e1.symm, e2.symm⟩
  · rename_i h1
    injection h with e1 e2
    exact .inr ⟨h1, e1.symm, e2.symm⟩
/-- a number that is there -/
theorem rrnum_ok (R : Nat) (A : Option Addr) (l : List UInt8) (n c i s : Nat) (y mo v : Int) (j : Nat) (hn : l.length = n) (h1 : n ≤ 1000) (hs : s = 6 ∨ s = 1) (h : (rOps l).num i y s mo = .ok (v, j)) (w : World) (hR : RrAt w R A n c i 0 0) (hr : BytesAt w w.heap.size A l) :
    Calls Try.prog 36 #[.pointer (some ⟨R, 0, none⟩), .int .i64 (s : Int), .int .i64 mo] w fun x w' => x = .returned (.int .i64 v) ∧ RrAt w' R A n c j 0 0 ∧ Frame (fun k => k = R) w w' := by
  obtain ⟨g1, rfl, g3, rfl⟩ := num_ok h
  refine (rrget_good R A l n c i s mo _ _ 0 0 w hR hr (fun w hr => getZ_ok A l n c i s hn h1 hs (by omega) w hr) rfl (by omega)).mono ?_
  rintro x w' ⟨he, hr', hf⟩
  exact ⟨he, hr', hf⟩
/-- a number that is not -/
theorem rrnum_no (R : Nat) (A : Option Addr) (l : List UInt8) (n c i s : Nat) (y mo x a : Int) (hn : l.length = n) (h1 : n ≤ 1000) (hs : s = 6 ∨ s = 1) (hi : i ≤ n) (h : (rOps l).num i y s mo = .no x a) (w : World) (hR : RrAt w R A n c i 0 0) (hr : BytesAt w w.heap.size A l) :
    Calls Try.prog 36 #[.pointer (some ⟨R, 0, none⟩), .int .i64 (s : Int), .int .i64 mo] w fun e w' => e = .returned (.int .i64 0) ∧ RrAt w' R A n c i x a ∧ Frame (fun k => k = R) w w' := by
  rcases num_no h with ⟨g1, g2, rfl, rfl⟩ | ⟨g1, rfl, rfl⟩
  · refine (rrget_big R A l n c i s mo _ _ 0 0 w hR hr (fun w hr => getZ_ok A l n c i s hn h1 hs (by omega) w hr) rfl g2).mono ?_
    rintro x w' ⟨he, hr', hf⟩
    exact ⟨he, hr', hf⟩
  · refine (rrget_bad R A l n c i s mo _ _ 4 n w hR hr (fun w hr => getZ_no A l n c i s hn h1 hs hi (by omega) w hr) (by decide)).mono ?_
    rintro x w' ⟨he, hr', hf⟩
    rw [hn]
    exact ⟨he, hr', hf⟩
theorem bx_at {w : World} {X : Nat} {xs : List Value} {E : TypeId} (h : BlkR E w X xs) (k : Nat) {u : Value} (hu : xs[k]? = some u) : w.frozen? ⟨X, k, none⟩ = false ∧ w.cell? ⟨X, k, none⟩ = some u := ⟨h.frozen k, h.cell hu⟩
/-- what stands while fields are read: the reader, the message's box, the bytes -/
structure RsAt (w0 w : World) (R X B : Nat) (A : Option Addr) (l : List UInt8) (n c i : Nat) (m : M) (D : Option Addr) (d : Nat) : Prop where
  rd : RrAt w R A n c i 0 0
  bx : BlkR 27 w X (mCells m (.slice D m.data.length d))
  dat : BytesAt w w.heap.size D m.data
  nd : m.data ≠ [] → ∀ ad, D = some ad → R < ad.block ∧ X < ad.block
  src : BytesAt w B A l
  fr : Frame (fun k => k = R ∨ k = X) w0 w
/-- .. or a fault was met -/
structure FlAt (w0 w : World) (R X : Nat) (A : Option Addr) (n c : Nat) (x a : Int) : Prop where
  rd : ∃ j : Int, RrAt w R A n c j x a
  fr : Frame (fun k => k = R ∨ k = X) w0 w
section
variable {w0 w w2 : World} {R X B : Nat} {A : Option Addr} {l : List UInt8} {n c i : Nat} {m : M} {D : Option Addr} {d : Nat}
theorem BytesAt.off {F : Nat → Prop} (h : BytesAt w w.heap.size A l) (hF : Frame F w w2) (hn : l ≠ [] → ∀ ad, A = some ad → ¬ F ad.block) : BytesAt w2 w2.heap.size A l := fun hl => by
  obtain ⟨ad, e, hb, hc⟩ := h hl
  refine ⟨ad, e, Nat.lt_of_lt_of_le hb hF.size, fun k hk => ?_⟩
  have := hF.block (ad.add k).block (by rw [block_add]; exact hb) (by rw [block_add]; exact hn hl ad e)
  rw [← hc k hk]
  simp only [World.cell?, this]
theorem BytesAt.under {F : Nat → Prop} (h : BytesAt w B A l) (hB : B ≤ w.heap.size) (hF : Frame F w w2) (hn : ∀ k, F k → B ≤ k) : BytesAt w2 B A l := fun hl => by
  obtain ⟨ad, e, hb, hc⟩ := h hl
  refine ⟨ad, e, hb, fun k hk => ?_⟩
  have := hF.block (ad.add k).block (by rw [block_add]; omega) (by rw [block_add]; intro x; have := hn _ x; omega)
  rw [← hc k hk]
  simp only [World.cell?, this]
/-- nothing but the reader was changed: the box may be written -/
theorem RsAt.box (h : RsAt w0 w R X B A l n c i m D d) (hRX : R ≠ X) (hF : Frame (fun k => k = R) w w2) : BlkR 27 w2 X (mCells m (.slice D m.data.length d)) :=
  (hF.block X h.bx.lt (fun e => hRX e.symm)).trans h.bx
/-- the reader went on, and a number was written into the box -/
theorem RsAt.num (h : RsAt w0 w R X B A l n c i m D d) (hRX : R ≠ X) (hBR : B ≤ R) (hBX : B ≤ X) (hF : Frame (fun k => k = R) w w2) (j : Nat) (hr : RrAt w2 R A n c j 0 0) (m' : M) (k : Nat) (v : Value) (hm : (mCells m (.slice D m.data.length d)).set k v = mCells m' (.slice D m'.data.length d)) (hd : m'.data = m.data) :
    RsAt w0 (w2.setCell ⟨X, k, none⟩ v) R X B A l n c j m' D d := by
  have hb := h.box hRX hF
  have hF2 : Frame (fun k => k = X) w2 (w2.setCell ⟨X, k, none⟩ v) := (Frame.refl (fun k => k = X) w2).cellAt ⟨X, k, none⟩ v rfl
  have hF3 : Frame (fun k => k = R ∨ k = X) w (w2.setCell ⟨X, k, none⟩ v) := ⟨hF2.os.trans hF.os, hF2.tape.trans hF.tape, hF2.output.trans hF.output, Nat.le_trans hF.size hF2.size, fun k hk hn => (hF2.block k (Nat.lt_of_lt_of_le hk hF.size) (fun e => hn (.inr e))).trans (hF.block k hk (fun e => hn (.inl e)))⟩
  refine ⟨(hF2.block R (BlkR.lt hr) hRX).trans hr, ?_, ?_, ?_, ?_, ?_⟩
  · rw [← hm]; exact hb.set_ k v
  · rw [hd]; exact h.dat.off hF3 (fun hl ad e x => by have := h.nd hl ad e; omega)
  · rw [hd]; exact h.nd
  · exact h.src.under (by have := h.bx.lt; omega) hF3 (fun k x => by rcases x with rfl | rfl <;> assumption)
  · exact ⟨hF3.os.trans h.fr.os, hF3.tape.trans h.fr.tape, hF3.output.trans h.fr.output, Nat.le_trans h.fr.size hF3.size, fun k hk hn => (hF3.block k (Nat.lt_of_lt_of_le hk h.fr.size) hn).trans (h.fr.block k hk hn)⟩
theorem FlAt.of (h : RsAt w0 w R X B A l n c i m D d) (hF : Frame (fun k => k = R) w w2) (x a : Int) (j : Int) (hr : RrAt w2 R A n c j x a) : FlAt w0 w2 R X A n c x a :=
  ⟨⟨j, hr⟩, ⟨hF.os.trans h.fr.os, hF.tape.trans h.fr.tape, hF.output.trans h.fr.output, Nat.le_trans h.fr.size hF.size, fun k hk hn => (hF.block k (Nat.lt_of_lt_of_le hk h.fr.size) (fun e => hn (.inl e))).trans (h.fr.block k hk hn)⟩⟩
theorem FlAt.write {x a : Int} (h : FlAt w0 w R X A n c x a) (hRX : R ≠ X) (k : Nat) (v : Value) : FlAt w0 (w.setCell ⟨X, k, none⟩ v) R X A n c x a := by
  obtain ⟨j, hr⟩ := h.rd
  have hF2 : Frame (fun k => k = X) w (w.setCell ⟨X, k, none⟩ v) := (Frame.refl (fun k => k = X) w).cellAt ⟨X, k, none⟩ v rfl
  exact ⟨⟨j, (hF2.block R (BlkR.lt hr) hRX).trans hr⟩, h.fr.cellAt ⟨X, k, none⟩ v (.inr rfl)⟩
end
end Go.Proofs.Ytfiijnpabmocdaa
