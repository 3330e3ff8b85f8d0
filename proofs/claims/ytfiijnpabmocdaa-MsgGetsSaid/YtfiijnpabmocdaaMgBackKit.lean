/-
  What the walk of MsgBack asks besides. Conditions: none.
-/
import Derived.Test.YtfiijnpabmocdaaMgLaw
import Derived.Test.YtfiijnpabmocdaaMgFit
import Derived.Test.YtfiijnpabmocdaaBa
import Derived.Test.YtfiijnpabmocdaaKitCopy
namespace Go.Proofs.Ytfiijnpabmocdaa
open Go.RowKit Mg

theorem OwnB.capM {w : World} {base n c : Nat} {A : Option Addr} {l : List UInt8} (h : OwnB w base (.slice A n c) l) : c ≤ 9223372036854775807 := by
  rcases h.2 with ⟨hv, _⟩ | ⟨g, cap', cur, hv, _, _, _, hcm, _, _⟩
  · injection hv with e1 e2 e3
    subst e3; omega
  · injection hv with e1 e2 e3
    subst e3
    exact hcm
/-- a message that was got is one of 64 bits -/
theorem got_wf {b : List UInt8} {m : M} (h : got b = .ok m) : Wf m := by
  obtain ⟨fs, hf, h0, h2, h3, h4⟩ := put_may (got_back h)
  obtain ⟨K, S, d, gs, rfl, hk, hs, hg, _, _, hr⟩ := got_inv h
  have hb := (rrun hr (fields_nodup hg) (by simp)).2.2.1 (show (0 : Nat) < 18446744073709551616 by decide)
  have hq : ∀ q, 0 ≤ Mg.get m q ∧ Mg.get m q ≤ 1099511627776 := by
    intro q
    by_cases hp : Pt.num q ∈ fs.flatMap parts
    · obtain ⟨a, b⟩ := h3 _ hp
      refine ⟨a, Int.le_trans b ?_⟩
      cases q <;> simp [most]
    · have : Mg.get m q = 0 := h4 _ hp
      omega
  obtain ⟨k1, k2⟩ := fields_known hf
  have a1 := hq .term; have a2 := hq .seq; have a3 := hq .stamp; have a4 := hq .block; have a5 := hq .rt; have a6 := hq .rn; have a7 := hq .rs
  simp only [Mg.get] at a1 a2 a3 a4 a5 a6 a7
  exact ⟨⟨by omega, by omega⟩, ⟨by omega, by omega⟩, ⟨by omega, by omega⟩, ⟨by omega, by omega⟩, ⟨by omega, by omega⟩, ⟨by omega, by omega⟩, ⟨by omega, by omega⟩, ⟨by omega, by omega⟩, ⟨by omega, by omega⟩, hb⟩
abbrev zO (A : Option Addr) (c : Nat) : Obj := .cells #[.int .i64 0, .int .i64 0, .int .i64 0, .int .i64 0, .int .i64 0, .int .i64 0, .bool false, .int .i64 0, .int .i64 0, .int .i64 0, .int .u64 0, .slice A 0 c] 27
abbrev fO (e a : Int) : Obj := .cells #[.int .i64 e, .int .i64 a] 38
abbrev zV (A : Option Addr) (c : Nat) : Value := .agg #[.int .i64 0, .int .i64 0, .int .i64 0, .int .i64 0, .int .i64 0, .int .i64 0, .bool false, .int .i64 0, .int .i64 0, .int .i64 0, .int .u64 0, .slice A 0 c]
/-- Get of bytes that are no message -/
theorem getNo (l : List UInt8) (B : Option Addr) (cb : Nat) (e a : Int) (hg : got l = .no e a) (n : Nat) (hn : l.length = n) (hlc : n ≤ cb) (hl : n ≤ 140737488351232) (hcb : cb ≤ 9223372036854775807) (w : World) (hr : BytesAt w w.heap.size B l) :
    Calls Try.prog 14 #[.slice B n cb] w fun x w' => ∃ A c, x = .returned (.tuple #[zV A c, .agg #[.int .i64 e, .int .i64 a]]) ∧ Below w.heap.size w w' := by
  subst hn
  refine (mget_any l B cb w hlc hl hcb hr).mono ?_
  rintro x w' ⟨A, c', rfl, _, hW, hB⟩
  refine ⟨A, c', ?_, hB⟩
  simp only [gotM, gotE, gotA, hg]
  rfl
/-- Get of bytes that are a message -/
theorem getYes (l : List UInt8) (B : Option Addr) (cb : Nat) (m : M) (hg : got l = .ok m) (n : Nat) (hn : l.length = n) (hlc : n ≤ cb) (hl : n ≤ 140737488351232) (hcb : cb ≤ 9223372036854775807) (w : World) (hr : BytesAt w w.heap.size B l) :
    Calls Try.prog 14 #[.slice B n cb] w fun x w' => ∃ A c, x = .returned (.tuple #[mVal m A c, .agg #[.int .i64 0, .int .i64 0]]) ∧ BytesAt w' w'.heap.size A m.data ∧ Below w.heap.size w w' := by
  refine (getV l B cb w (by omega) (by omega) hcb hr n hn m 0 0 (by simp [gotM, hg]) (by simp [gotE, hg]) (by simp [gotA, hg])).mono ?_
  rintro x w' ⟨A, c', rfl, _, hW, hB⟩
  exact ⟨A, c', rfl, hW.bytes, hB⟩
/-- a message, and a fault, in two new blocks -/
theorem pair_at (w : World) (m : M) (A : Option Addr) (c : Nat) (e a : Int) (w' : World) (B : Below ((w.alloc (mObj m A c)).alloc (fO e a)).heap.size ((w.alloc (mObj m A c)).alloc (fO e a)) w') :
    MgAt w' w.heap.size m A m.data.length c ∧ w'.cell? ⟨w.heap.size + 1, 0, none⟩ = some (.int .i64 e) ∧ w'.cell? ⟨w.heap.size + 1, 1, none⟩ = some (.int .i64 a) := by
  have b1 := (BlkR.new w (mCells m (.slice A m.data.length c)) 27).allocB (fO e a)
  have b2 := BlkR.new (w.alloc (mObj m A c)) [.int .i64 e, .int .i64 a] 38
  rw [show (w.alloc (mObj m A c)).heap.size = w.heap.size + 1 by simp] at b2
  have h2 := b2.below B b2.lt
  exact ⟨mgAt (b1.below B b1.lt), h2.cell rfl, h2.cell rfl⟩
theorem fault_at (w : World) (o : Obj) (e a : Int) (w' : World) (B : Below ((w.alloc o).alloc (fO e a)).heap.size ((w.alloc o).alloc (fO e a)) w') :
    w'.cell? ⟨w.heap.size + 1, 0, none⟩ = some (.int .i64 e) ∧ w'.cell? ⟨w.heap.size + 1, 1, none⟩ = some (.int .i64 a) := by
  have b2 := BlkR.new (w.alloc o) [.int .i64 e, .int .i64 a] 38
  rw [show (w.alloc o).heap.size = w.heap.size + 1 by simp] at b2
  have h2 := b2.below B b2.lt
  exact ⟨h2.cell rfl, h2.cell rfl⟩
/-- the message's box, and the bytes, later on -/
theorem back_at (m : M) (A : Option Addr) (c : Nat) (l : List UInt8) (B0 : Option Addr) (w : World) (hr : BytesAt w w.heap.size A m.data) (hl : BytesAt w w.heap.size B0 l) (w1 : World) (B : Below (w.alloc (mObj m A c)).heap.size (w.alloc (mObj m A c)) w1) :
    MgAt w1 w.heap.size m A m.data.length c ∧ BytesAt w1 w1.heap.size A m.data ∧ BytesAt w1 w1.heap.size B0 l ∧ Below w.heap.size w w1 := by
  have b1 := BlkR.new w (mCells m (.slice A m.data.length c)) 27
  have B0 : Below w.heap.size w (w.alloc (mObj m A c)) := step_alloc (Below.refl _ w) _
  exact ⟨mgAt (b1.below B b1.lt), (hr.step B0).step B, (hl.step B0).step B, step_trans B0 B⟩
/-- a copy, and a byte more -/
theorem more_at (w0 w7 : World) (A : Option Addr) (n c : Nat) (l : List UInt8) (hn : l.length = n) (hs : n ≤ 1000) (x : UInt8) (ho : OwnB w7 w0.heap.size (.slice A n c) l) (hB : Below w0.heap.size w0 w7) (ty : TypeId) :
    ∃ v w', (Builtin.append_ #[25, 25] ty #[.slice A n c, .slice (some ⟨w7.heap.size, 0, none⟩) 1 1]).run Try.prog (w7.alloc (.cells #[.int .u8 (x.toNat : Int)] 5)) = .ok v w' ∧
      ∃ A' c', v = .slice A' (n + 1) c' ∧ n + 1 ≤ c' ∧ c' ≤ 9223372036854775807 ∧ BytesAt w' w'.heap.size A' (l ++ [x]) ∧ Below w0.heap.size w0 w' := by
  subst hn
  have e1 : (w7.alloc (.cells #[.int .u8 (x.toNat : Int)] 5)).heap.size = w7.heap.size + 1 := by simp
  have hx : BytesAt (w7.alloc (.cells #[.int .u8 (x.toNat : Int)] 5)) (w7.heap.size + 1) (some ⟨w7.heap.size, 0, none⟩) [x] := (bytes_new w7 [x] 5 (0, 0)).more (by simp)
  have hB2 := step_alloc hB (.cells #[.int .u8 (x.toNat : Int)] 5)
  obtain ⟨v, w', h1, h2, h3, h4⟩ := run_appendB (ho.alloc (.cells #[.int .u8 (x.toNat : Int)] 5)) (k := [x]) (m := 1) (c := 1) rfl hx (by simp; omega) hB2.size ty 25 rfl
  obtain ⟨A', c', rfl, hc'⟩ := h2.form
  have e2 : (l ++ [x]).length = l.length + 1 := by simp
  rw [e2] at hc' h1 h2
  exact ⟨_, w', h1, A', c', rfl, hc', h2.capM, h2.bytes, hB2.grown h3 hB2.size (fun j hj => (ho.lt j hj).1)⟩
end Go.Proofs.Ytfiijnpabmocdaa
