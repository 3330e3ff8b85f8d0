/-
  What the walks of the message's laws share. Conditions: none.
-/
import Derived.Test.YtfiijnpabmocdaaMgAwake
import Derived.Test.YtfiijnpabmocdaaMgSame
import Derived.Test.YtfiijnpabmocdaaMgRound
import Derived.Test.YtfiijnpabmocdaaBa
namespace Go.Proofs.Ytfiijnpabmocdaa
open Go.RowKit Mg

/-- a message's cells in memory -/
def MgAt (w : World) (g : Nat) (m : M) (A : Option Addr) (n c : Nat) : Prop :=
  w.cell? ⟨g, 0, none⟩ = some (.int .i64 m.kind) ∧ w.cell? ⟨g, 1, none⟩ = some (.int .i64 m.src) ∧ w.cell? ⟨g, 2, none⟩ = some (.int .i64 m.term) ∧ w.cell? ⟨g, 3, none⟩ = some (.int .i64 m.seq) ∧ w.cell? ⟨g, 4, none⟩ = some (.int .i64 m.stamp) ∧ w.cell? ⟨g, 5, none⟩ = some (.int .i64 m.block) ∧
    w.cell? ⟨g, 6, none⟩ = some (.bool m.ok) ∧ w.cell? ⟨g, 7, none⟩ = some (.int .i64 m.rt) ∧ w.cell? ⟨g, 8, none⟩ = some (.int .i64 m.rn) ∧ w.cell? ⟨g, 9, none⟩ = some (.int .i64 m.rs) ∧ w.cell? ⟨g, 10, none⟩ = some (.int .u64 (m.bits : Int)) ∧ w.cell? ⟨g, 11, none⟩ = some (.slice A n c)
theorem mgAt {w : World} {g : Nat} {m : M} {A : Option Addr} {n c : Nat} {E : TypeId} (h : BlkR E w g (mCells m (.slice A n c))) : MgAt w g m A n c :=
  ⟨h.cell rfl, h.cell rfl, h.cell rfl, h.cell rfl, h.cell rfl, h.cell rfl, h.cell rfl, h.cell rfl, h.cell rfl, h.cell rfl, h.cell rfl, h.cell rfl⟩
abbrev mObj (m : M) (A : Option Addr) (c : Nat) : Obj := .cells #[.int .i64 m.kind, .int .i64 m.src, .int .i64 m.term, .int .i64 m.seq, .int .i64 m.stamp, .int .i64 m.block, .bool m.ok, .int .i64 m.rt, .int .i64 m.rn, .int .i64 m.rs, .int .u64 (m.bits : Int), .slice A m.data.length c] 27
abbrev mVal (m : M) (A : Option Addr) (c : Nat) : Value := .agg #[.int .i64 m.kind, .int .i64 m.src, .int .i64 m.term, .int .i64 m.seq, .int .i64 m.stamp, .int .i64 m.block, .bool m.ok, .int .i64 m.rt, .int .i64 m.rn, .int .i64 m.rs, .int .u64 (m.bits : Int), .slice A m.data.length c]
theorem putV (m : M) (A : Option Addr) (c : Nat) (hwf : Wf m) (l : List UInt8) (E : Int) (hb : Mg.putB m = l) (hE : Mg.putE m = E) (n : Nat) (hn : l.length = n) (w : World) (hr : BytesAt w w.heap.size A m.data) :
    Calls Try.prog 6 #[mVal m A c] w fun e w' => ∃ A' c', e = .returned (.tuple #[.slice A' n c', .int .i64 E]) ∧ n ≤ c' ∧ c' ≤ 9223372036854775807 ∧ Whole w' w.heap.size A' c' l ∧ Below w.heap.size w w' := by
  subst hb hE hn
  exact (mput_any m A c hwf w hr).mono fun e w' ⟨A', c', h1, h2, h3, h4⟩ => ⟨A', c', h1, h3.cap, h2, h3, h4⟩
theorem checkV (m : M) (A : Option Addr) (c : Nat) (hwf : Wf m) (E : Int) (hE : Mg.putE m = E) (w : World) (hr : BytesAt w w.heap.size A m.data) :
    Calls Try.prog 8 #[mVal m A c] w fun e w' => e = .returned (.int .i64 E) ∧ Below w.heap.size w w' := by
  subst hE
  exact mcheck_any m A c hwf w hr
theorem sameV (m n : M) (A : Option Addr) (c : Nat) (A' : Option Addr) (c' : Nat) (b : Bool) (hb : sameM m n = b) (w : World) (hr : BytesAt w w.heap.size A m.data) (hr' : BytesAt w w.heap.size A' n.data) :
    Calls Try.prog 16 #[mVal m A c, mVal n A' c'] w fun e w' => e = .returned (.bool b) ∧ Below w.heap.size w w' := by
  subst hb
  exact sameMsg_any m n A c A' c' w hr hr'
theorem getV (l : List UInt8) (B : Option Addr) (cb : Nat) (w : World) (hlc : l.length ≤ cb) (hl : l.length ≤ 140737488351232) (hcb : cb ≤ 9223372036854775807) (hr : BytesAt w w.heap.size B l) (n : Nat) (hn : l.length = n) (m : M) (e a : Int) (hm : gotM l = m) (he : gotE l = e) (ha : gotA l = a) :
    Calls Try.prog 14 #[.slice B n cb] w fun x w' => ∃ A c, x = .returned (.tuple #[mVal m A c, .agg #[.int .i64 e, .int .i64 a]]) ∧ c ≤ 9223372036854775807 ∧ Whole w' w.heap.size A c m.data ∧ Below w.heap.size w w' := by
  subst hn hm he ha
  exact mget_any l B cb w hlc hl hcb hr
theorem put_err {m : M} : (put m = none ∧ Mg.putB m = [] ∧ Mg.putE m = 2) ∨ ∃ b, put m = some b ∧ Mg.putB m = b ∧ Mg.putE m = 0 := by
  unfold Mg.putB Mg.putE
  cases h : put m with
  | none => exact .inl ⟨rfl, rfl, rfl⟩
  | some b => exact .inr ⟨b, rfl, rfl, rfl⟩
end Go.Proofs.Ytfiijnpabmocdaa
