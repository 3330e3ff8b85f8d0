/-
  A store, by the document: what Make, Open, Put, Get make of a disk: plain mathematics. Conditions: none.
-/
import Derived.Test.YtlchpolheciadaaDoorJo
import Derived.Test.YtlchpolheciadaaDoorBk
namespace Go.Proofs.YtlchpolheciadaaDoor
open Fix

/-- a store: where it lies, how many blocks it has, its number, whether ErrBroken was told -/
structure StM where
  at_ : Nat
  n : Nat
  num : Nat
  broken : Bool
namespace St
def zeros : List UInt8 := List.replicate 32 0
/-- may a store lie there -/
def room (S : DS) (p m : Int) : Int := if S.out = true then 10 else if m < 1 ∨ 64 < m then 2 else if p < 0 ∨ (S.n : Int) ≤ p ∨ (S.n : Int) - p ≤ m then 5 else 0
/-- the sectors of a store that is made, one behind the other -/
def fill (S : DS) (p : Int) : Nat → DS × Int
  | 0 => S.write p Slot.nots
  | k + 1 => if (fill S p k).2 = 0 then (fill S p k).1.write (p + 1 + (k : Int)) (Blk.bytesB (k : Int) 1 zeros) else fill S p k
def make (S : DS) (p m : Int) : DS × Int := if room S p m = 0 then (if (fill S p m.toNat).2 = 0 then (fill S p m.toNat).1.flush else fill S p m.toNat) else (S, room S p m)
/-- a block's number and bytes -/
def bE (S : DS) (p i : Int) : Int := if S.readE (p + 1 + i) = 0 then Blk.readE i (S.readB (p + 1 + i)) else S.readE (p + 1 + i)
def bN (S : DS) (p i : Int) : Nat := if S.readE (p + 1 + i) = 0 then Blk.readN i (S.readB (p + 1 + i)) else 0
def bB (S : DS) (p i : Int) : List UInt8 := if S.readE (p + 1 + i) = 0 then Blk.readB i (S.readB (p + 1 + i)) else []
/-- a block's sector is written as an entry says, and flushed -/
def lay (S : DS) (p : Int) (e : Ent) : DS × Int := Slot.put1 S (p + 1 + e.b) (Blk.bytesB e.b e.n e.d)
/-- does the entry mend its block -/
def heals (S : DS) (p : Int) (m : Nat) : Bool :=
  decide (Jn.lastE S p = 0) && decide ((Jn.lastV S p).b < (m : Int)) && (decide (bE S p (Jn.lastV S p).b ≠ 0) || decide ((bN S p (Jn.lastV S p).b : Int) < (Jn.lastV S p).n))
def mended (S : DS) (p : Int) (m : Nat) : DS × Int := if heals S p m = true then lay S p (Jn.lastV S p) else (S, 0)
def openE (S : DS) (p m : Int) : Int := if room S p m = 0 then (mended S p m.toNat).2 else room S p m
def openS (S : DS) (p m : Int) : DS := if room S p m = 0 then (mended S p m.toNat).1 else S
/-- the bad ones of the first k blocks, and the greatest number of these and another one -/
def bads (T : DS) (p : Int) : Nat → List Int
  | 0 => []
  | k + 1 => if bE T p (k : Int) = 0 then bads T p k else bads T p k ++ [(k : Int)]
def top (T : DS) (p : Int) (a : Nat) : Nat → Nat
  | 0 => a
  | k + 1 => max (top T p a k) (bN T p (k : Int))
def begin_ (S : DS) (p : Int) : Nat := if Jn.lastE S p = 0 then (Jn.lastV S p).n.toNat else 0
/-- the store that Open makes -/
def opened (S : DS) (p m : Int) : StM := ⟨p.toNat, m.toNat, top (openS S p m) p (begin_ S p) m.toNat, false⟩
def out (S : DS) (s : StM) : Bool := s.broken || S.out
def putD (S : DS) (s : StM) (b : Int) (d : List UInt8) : DS × Int :=
  if out S s = true then (S, 10) else if b < 0 ∨ (s.n : Int) ≤ b then (S, 5) else if d.length ≠ 32 then (S, 2) else if 1099511627776 ≤ s.num then (S, 8)
  else if (Jn.write S s.at_ ⟨b, ((s.num + 1 : Nat) : Int), d⟩).2 = 0 then lay (Jn.write S s.at_ ⟨b, ((s.num + 1 : Nat) : Int), d⟩).1 s.at_ ⟨b, ((s.num + 1 : Nat) : Int), d⟩ else Jn.write S s.at_ ⟨b, ((s.num + 1 : Nat) : Int), d⟩
def putS (S : DS) (s : StM) (b : Int) (d : List UInt8) : StM :=
  if out S s = true then { s with broken := true } else if b < 0 ∨ (s.n : Int) ≤ b then s else if d.length ≠ 32 then s else if 1099511627776 ≤ s.num then s
  else { s with num := if (Jn.write S s.at_ ⟨b, ((s.num + 1 : Nat) : Int), d⟩).2 = 0 then s.num + 1 else s.num, broken := decide ((putD S s b d).2 = 10) }
def getE (S : DS) (s : StM) (b : Int) : Int := if out S s = true then 10 else if b < 0 ∨ (s.n : Int) ≤ b then 5 else bE S s.at_ b
def getB (S : DS) (s : StM) (b : Int) : List UInt8 := if out S s = true then [] else if b < 0 ∨ (s.n : Int) ≤ b then [] else bB S s.at_ b
def getS (S : DS) (s : StM) : StM := if out S s = true then { s with broken := true } else s
end St
end Go.Proofs.YtlchpolheciadaaDoor
