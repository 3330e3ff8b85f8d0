/-
  A message in memory; what carries its parts, to bytes or from them. Conditions: none.
-/
import Derived.Test.YtfiijnpabmocdaaWhole
import Derived.Test.YtfiijnpabmocdaaBa
import Derived.Test.YtfiijnpabmocdaaMgMath
namespace Go.Proofs.Ytfiijnpabmocdaa
open Go.RowKit Mg

/-- a message's cells -/
def mCells (m : M) (d : Value) : List Value :=
  [.int .i64 m.kind, .int .i64 m.src, .int .i64 m.term, .int .i64 m.seq, .int .i64 m.stamp, .int .i64 m.block, .bool m.ok, .int .i64 m.rt, .int .i64 m.rn, .int .i64 m.rs, .int .u64 (m.bits : Int), d]
/-- where a number stands, and how -/
def Mg.off : Nt → Nat
  | .term => 2 | .seq => 3 | .stamp => 4 | .block => 5 | .ok => 6 | .rt => 7 | .rn => 8 | .rs => 9
def Mg.val (q : Nt) (v : Int) : Value := match q with
  | .ok => .bool (v == 1)
  | _ => .int .i64 v
theorem mCells_set (m : M) (d : Value) (q : Nt) (v : Int) : (mCells m d).set (off q) (val q v) = mCells (set m v q) d := by cases q <;> rfl
theorem mCells_bits (m : M) (d : Value) (x : Nat) : (mCells m d).set 10 (.int .u64 (x : Int)) = mCells { m with bits := x } d := rfl
theorem mCells_data (m : M) (d d' : Value) (l : List UInt8) : (mCells m d).set 11 d' = mCells { m with data := l } d' := rfl
theorem mCells_length (m : M) (d : Value) : (mCells m d).length = 12 := rfl
/-- a fault, handed out -/
def wrongP (e a : Int) : List PanicEntry := [{ v := .iface 66 (.agg #[.int .i64 e, .int .i64 a]), recovered := false }]
/-- how many bytes, and up to which number, a part may have -/
def Mg.good (s : Nat) (mo : Int) : Prop := (s = 6 ∧ mo = 1099511627776) ∨ (s = 1 ∧ 0 ≤ mo ∧ mo ≤ 255)
theorem Mg.good_of (q : Nt) : good (size q) (most q) := by
  cases q <;> first | exact .inl ⟨rfl, rfl⟩ | exact .inr ⟨rfl, by decide, by decide⟩
/-- what a step of a carrier leaves behind -/
def CarPost {α : Type} (Inv : World → (Nat → Prop) → α → Prop) (w : World) (F : Nat → Prop) (a' : α) (w' : World) : Prop :=
  ∃ F', Inv w' F' a' ∧ (∀ k, F' k → F k ∨ w.heap.size ≤ k) ∧ Frame F w w'
/-- what a carrier's methods leave behind -/
def NumPost {α : Type} (Inv : World → (Nat → Prop) → α → Prop) (w : World) (F : Nat → Prop) (r : R (Int × α)) (e : Ending) (w' : World) : Prop := match r with
  | .ok x => e = .returned (.int .i64 x.1) ∧ CarPost Inv w F x.2 w'
  | .no er at_ => e = .panicked (wrongP er at_) ∧ Frame F w w'
def LonPost {α : Type} (Inv : World → (Nat → Prop) → α → Prop) (w : World) (F : Nat → Prop) (r : R (Nat × α)) (e : Ending) (w' : World) : Prop := match r with
  | .ok x => e = .returned (.int .u64 (x.1 : Int)) ∧ CarPost Inv w F x.2 w'
  | .no er at_ => e = .panicked (wrongP er at_) ∧ Frame F w w'
def BytPost {α : Type} (Inv : World → (Nat → Prop) → M → α → Prop) (gm : Nat) (m : M) (xs : List Value) (w : World) (F : Nat → Prop) (r : R (List UInt8 × α)) (e : Ending) (w' : World) : Prop := match r with
  | .ok x => ∃ A' n' c', e = .returned (.slice A' n' c') ∧ BlkR 27 w' gm xs ∧ CarPost (fun w F a => Inv (w.setCell ⟨gm, 11, none⟩ (.slice A' n' c')) F { m with data := x.1 } a) w F x.2 w'
  | .no er at_ => e = .panicked (wrongP er at_) ∧ Frame F w w'
/-- WHAT CARRIES A MESSAGE's PARTS: its value and its methods' numbers; 'Inv w F m a': in the world w the message m lies at block gm, the carrier is at a, and their memory is the blocks F. -/
structure Carr (α : Type) where
  T : TypeId
  p : Value
  gm : Nat
  o : Ops α
  num : FuncId
  lon : FuncId
  byt : FuncId
  mnum : ∀ (n : Nat) (w : World), (method (n + 1) T p "tandem/msg.number").run Try.prog w = .ok (num, p) w
  fnum : ∀ (args : Array Value) (w : World), (callFunc num args).run Try.prog w = .ok (.enter num args) w
  mlon : ∀ (n : Nat) (w : World), (method (n + 1) T p "tandem/msg.long").run Try.prog w = .ok (lon, p) w
  flon : ∀ (args : Array Value) (w : World), (callFunc lon args).run Try.prog w = .ok (.enter lon args) w
  mbyt : ∀ (n : Nat) (w : World), (method (n + 1) T p "tandem/msg.bytes").run Try.prog w = .ok (byt, p) w
  fbyt : ∀ (args : Array Value) (w : World), (callFunc byt args).run Try.prog w = .ok (.enter byt args) w
  Inv : World → (Nat → Prop) → M → α → Prop
  small : Nat → α → Prop
  less : ∀ {k a}, small (k + 1) a → small k a
  snum : ∀ {k a n s mo x}, good s mo → small (k + 1) a → o.num a n s mo = .ok x → small k x.2
  slon : ∀ {k a n x}, small (k + 1) a → o.lon a n = .ok x → small k x.2
  sbyt : ∀ {k a l x}, small (k + 1) a → o.byt a l = .ok x → small k x.2
  cells : ∀ {w F m a}, Inv w F m a → ∃ A n c, BlkR 27 w gm (mCells m (.slice A n c))
  own : ∀ {w F m a}, Inv w F m a → ∀ k, F k → k < w.heap.size
  mine : ∀ {w F m a}, Inv w F m a → F gm
  step : ∀ {w w' F m a}, Inv w F m a → Below w.heap.size w w' → Inv w' F m a
  set : ∀ {w F m a}, Inv w F m a → ∀ q v, Inv (w.setCell ⟨gm, off q, none⟩ (val q v)) F (Mg.set m v q) a
  sbits : ∀ {w F m a}, Inv w F m a → ∀ x : Nat, Inv (w.setCell ⟨gm, 10, none⟩ (.int .u64 (x : Int))) F { m with bits := x } a
  cnum : ∀ {w F m a}, Inv w F m a → small 1 a → ∀ n s mo, good s mo → Calls Try.prog num #[p, .int .i64 n, .int .i64 (s : Int), .int .i64 mo] w (NumPost (fun w F a => Inv w F m a) w F (o.num a n s mo))
  clon : ∀ {w F m a}, Inv w F m a → small 1 a → ∀ n : Nat, Calls Try.prog lon #[p, .int .u64 (n : Int)] w (LonPost (fun w F a => Inv w F m a) w F (o.lon a n))
  cbyt : ∀ {w F m a}, Inv w F m a → small 1 a → ∀ A n c, BlkR 27 w gm (mCells m (.slice A n c)) → Calls Try.prog byt #[p, .slice A n c] w (BytPost Inv gm m (mCells m (.slice A n c)) w F (o.byt a m.data))
/-- the message, and its carrier, as a value -/
def Carr.val {α : Type} (C : Carr α) : Value := .agg #[.pointer (some ⟨C.gm, 0, none⟩), .iface C.T C.p]
/-- what a field's method leaves behind -/
def FldPost {α : Type} (C : Carr α) (w : World) (F : Nat → Prop) (r : R (M × α)) (e : Ending) (w' : World) : Prop := match r with
  | .ok x => e = .returned (.tuple #[]) ∧ CarPost (fun w F (s : M × α) => C.Inv w F s.1 s.2) w F x w'
  | .no er at_ => e = .panicked (wrongP er at_) ∧ Frame F w w'
theorem CarPost.trans {α : Type} {Inv : World → (Nat → Prop) → α → Prop} {w w' w'' : World} {F F' : Nat → Prop} {a : α} (hF : ∀ k, F' k → F k ∨ w.heap.size ≤ k) (h1 : Frame F w w') (h2 : CarPost Inv w' F' a w'') : CarPost Inv w F a w'' := by
  obtain ⟨F2, hI, hF2, hR⟩ := h2
  refine ⟨F2, hI, fun k hk => ?_, h1.trans hR hF⟩
  rcases hF2 k hk with h | h
  · exact hF k h
  · exact .inr (Nat.le_trans h1.size h)
end Go.Proofs.Ytfiijnpabmocdaa
