/-
  Messages as bytes, by the document: plain mathematics. Conditions: none.
-/
import Derived.Test.YtfiijnpabmocdaaFx
namespace Go.Proofs.Ytfiijnpabmocdaa.Mg
open Fix

/-- a message -/
structure M where
  kind : Int
  src : Int
  term : Int
  seq : Int
  stamp : Int
  block : Int
  ok : Bool
  rt : Int
  rn : Int
  rs : Int
  bits : Nat
  data : List UInt8
/-- what is a number in it -/
inductive Nt | term | seq | stamp | block | ok | rt | rn | rs
/-- its parts -/
inductive Pt | num (q : Nt) | bits | data
/-- its fields -/
inductive Fd | term | seq | stamp | block | ok | recd | bits | data
def parts : Fd → List Pt
  | .term => [.num .term] | .seq => [.num .seq] | .stamp => [.num .stamp] | .block => [.num .block] | .ok => [.num .ok]
  | .recd => [.num .rt, .num .rn, .num .rs] | .bits => [.bits] | .data => [.data]
def size : Nt → Nat
  | .block | .ok | .rs => 1
  | _ => 6
def most : Nt → Int
  | .block => 63 | .ok => 1 | .rs => 3
  | _ => 1099511627776
def get (m : M) : Nt → Int
  | .term => m.term | .seq => m.seq | .stamp => m.stamp | .block => m.block | .ok => if m.ok then 1 else 0 | .rt => m.rt | .rn => m.rn | .rs => m.rs
def set (m : M) (v : Int) : Nt → M
  | .term => { m with term := v } | .seq => { m with seq := v } | .stamp => { m with stamp := v } | .block => { m with block := v } | .ok => { m with ok := v == 1 }
  | .rt => { m with rt := v } | .rn => { m with rn := v } | .rs => { m with rs := v }
/-- what a call tells, or the fault that it hands out -/
inductive R (β : Type) | ok (b : β) | no (e a : Int)
def R.bind {β γ : Type} : R β → (β → R γ) → R γ
  | .ok b, f => f b
  | .no e a, _ => .no e a
/-- a carrier of parts -/
structure Ops (α : Type) where
  num : α → Int → Nat → Int → R (Int × α)
  lon : α → Nat → R (Nat × α)
  byt : α → List UInt8 → R (List UInt8 × α)
section
variable {α : Type}
def step (o : Ops α) : Pt → M × α → R (M × α)
  | .num q, s => (o.num s.2 (get s.1 q) (size q) (most q)).bind fun x => .ok (set s.1 x.1 q, x.2)
  | .bits, s => (o.lon s.2 s.1.bits).bind fun x => .ok ({ s.1 with bits := x.1 }, x.2)
  | .data, s => (o.byt s.2 s.1.data).bind fun x => .ok ({ s.1 with data := x.1 }, x.2)
def run (o : Ops α) : List Pt → M × α → R (M × α)
  | [], s => .ok s
  | p :: r, s => (step o p s).bind (run o r)
theorem bind_bind {β γ δ : Type} (r : R β) (f : β → R γ) (g : γ → R δ) : (r.bind f).bind g = r.bind fun b => (f b).bind g := by cases r <;> rfl
theorem run_one (o : Ops α) (p : Pt) (s : M × α) : run o [p] s = step o p s := by
  show (step o p s).bind (fun x => .ok x) = _
  cases step o p s <;> rfl
theorem run_append (o : Ops α) (a b : List Pt) (s : M × α) : run o (a ++ b) s = (run o a s).bind (run o b) := by
  induction a generalizing s with
  | nil => rfl
  | cons p r ih =>
    simp only [List.cons_append, run, bind_bind]
    congr 1
    funext x
    exact ih x
end
/-- what a kind has -/
def fields (k : Int) : Option (List Fd) :=
  if k = 1 then some [.term, .recd, .stamp] else if k = 2 then some [.term, .ok, .stamp, .recd] else if k = 3 then some [.term, .stamp] else if k = 4 then some [.term, .ok, .stamp]
  else if k = 5 then some [.term, .recd] else if k = 6 then some [.term, .ok, .recd] else if k = 7 then some [.term, .seq, .stamp, .block, .data] else if k = 8 then some [.term, .seq, .ok, .stamp]
  else if k = 9 then some [.term] else if k = 10 then some [.term, .ok, .stamp, .bits] else if k = 11 then some [.term, .bits] else none
def all (k : Int) : List Pt := ((fields k).getD []).flatMap parts
theorem fields_known {k : Int} {fs : List Fd} (h : fields k = some fs) : 1 ≤ k ∧ k ≤ 11 := by
  unfold fields at h
  by_cases h1 : 1 ≤ k ∧ k ≤ 11
  · exact h1
  · simp only [show k ≠ 1 by omega, show k ≠ 2 by omega, show k ≠ 3 by omega, show k ≠ 4 by omega, show k ≠ 5 by omega, show k ≠ 6 by omega, show k ≠ 7 by omega, show k ≠ 8 by omega, show k ≠ 9 by omega, show k ≠ 10 by omega, show k ≠ 11 by omega, if_false] at h
    cases h
/-- all that is carried behind the kind and the node -/
def carry {α : Type} (o : Ops α) (s : M × α) : R (M × α) :=
  match fields s.1.kind with
  | none => .no 6 0
  | some fs => if 0 ≤ s.1.src ∧ s.1.src ≤ 2 then run o (fs.flatMap parts) s else .no 5 1
/-- bytes that are laid -/
def wOps : Ops (List UInt8) where
  num := fun a n s mo => if 0 ≤ n ∧ n ≤ mo then .ok (0, a ++ dig n.toNat s) else .no 5 a.length
  lon := fun a x => .ok (0, a ++ dig x 8)
  byt := fun a l => if l.length = 32 then .ok ([], a ++ l) else .no 5 a.length
/-- bytes that are read -/
def rOps (l : List UInt8) : Ops Nat where
  num := fun at_ _ s mo => if at_ + s ≤ l.length then (if (le ((l.drop at_).take s) : Int) ≤ mo then .ok ((le ((l.drop at_).take s) : Int), at_ + s) else .no 5 at_) else .no 4 l.length
  lon := fun at_ _ => if at_ + 8 ≤ l.length then .ok (le ((l.drop at_).take 8), at_ + 8) else .no 4 l.length
  byt := fun at_ _ => if at_ + 32 ≤ l.length then .ok ((l.drop at_).take 32, at_ + 32) else .no 4 l.length
/-- nothing beside the kind and the node -/
def bare (m : M) : Bool := m.term == 0 && m.seq == 0 && m.stamp == 0 && m.block == 0 && !m.ok && m.rt == 0 && m.rn == 0 && m.rs == 0 && m.bits == 0 && m.data.length == 0
/-- Put's bytes, if it tells any -/
def put (m : M) : Option (List UInt8) :=
  match carry wOps (m, [UInt8.ofNat (m.kind % 256).toNat, UInt8.ofNat (m.src % 256).toNat]) with
  | .ok s => if bare s.1 then some s.2 else none
  | .no _ _ => none
def putB (m : M) : List UInt8 := (put m).getD []
def putE (m : M) : Int := if (put m).isSome then 0 else 2
def zero : M := { kind := 0, src := 0, term := 0, seq := 0, stamp := 0, block := 0, ok := false, rt := 0, rn := 0, rs := 0, bits := 0, data := [] }
/-- the message that bytes are -/
def got (l : List UInt8) : R M :=
  ((rOps l).num 0 0 1 255).bind fun x => ((rOps l).num x.2 0 1 255).bind fun y =>
    (carry (rOps l) ({ zero with kind := x.1, src := y.1 }, y.2)).bind fun s => if s.2 = l.length then .ok s.1 else .no 4 s.2
def gotM (l : List UInt8) : M := match got l with | .ok m => m | .no _ _ => zero
def gotE (l : List UInt8) : Int := match got l with | .ok _ => 0 | .no e _ => e
def gotA (l : List UInt8) : Int := match got l with | .ok _ => 0 | .no _ a => a
end Go.Proofs.Ytfiijnpabmocdaa.Mg
