/-
  Several texts in one (Journ, JnMem, JnSame, JnPost). Conditions: as each says.
-/
import Derived.Test.YtlchpolheciadaaDoorSa
import Derived.Test.YtlchpolheciadaaDoorBa
import Derived.Test.YtlchpolheciadaaDoorDiskKit
import Derived.Test.YtlchpolheciadaaDoorSlSave
/-
  An entry's sector, what it says, a journal, by the document: plain mathematics. Conditions: none.
-/
namespace Go.Proofs.YtlchpolheciadaaDoor
open Go.RowKit

/-- an entry: its block, the number of the write, the bytes -/
structure Ent where
  b : Int
  n : Int
  d : List UInt8
namespace Jn
def zero : Ent := ⟨0, 0, []⟩
/-- what stands behind the bytes: a byte 1, eleven noughts -/
def mid : List UInt8 := 1 :: List.replicate 11 0
theorem mid_length : mid.length = 12 := by decide
/-- the first 60 bytes of an entry's sector, and the sector -/
def body (a n : Nat) (d : List UInt8) : List UInt8 := Fix.dig n 8 ++ (Fix.dig a 2 ++ (d ++ (mid ++ Fix.dig n 6)))
def sect (a n : Nat) (d : List UInt8) : List UInt8 := Slot.seal_ (body a n d)
/-- an entry may be -/
def may (e : Ent) : Bool := decide (0 ≤ e.b ∧ e.b < 64 ∧ 1 ≤ e.n ∧ e.n ≤ 1099511627776 ∧ e.d.length = 32)
def bytesE (e : Ent) : Int := if may e = true then 0 else 2
def bytesB (e : Ent) : List UInt8 := if may e = true then sect e.b.toNat e.n.toNat e.d else []
/-- what stands in a sector: its number, the block, the bytes, the number once more -/
def num (b : List UInt8) : Nat := Fix.le (b.take 8)
def place (b : List UInt8) : Nat := Fix.le ((b.drop 8).take 2)
def dat (b : List UInt8) : List UInt8 := (b.drop 10).take 32
def again (b : List UInt8) : Nat := Fix.le ((b.drop 54).take 6)
def ent (b : List UInt8) : Ent := ⟨place b, num b, dat b⟩
def right (b : List UInt8) : Bool := decide (b.length = 64 ∧ may (ent b) = true ∧ sect (place b) (num b) (dat b) = b)
def readE (b : List UInt8) : Int := if b.length ≠ 64 then 4 else if right b = true then 0 else 11
def readV (b : List UInt8) : Ent := if right b = true then ent b else zero

theorem may_iff (e : Ent) : may e = true ↔ 0 ≤ e.b ∧ e.b < 64 ∧ 1 ≤ e.n ∧ e.n ≤ 1099511627776 ∧ e.d.length = 32 := by unfold may; rw [decide_eq_true_iff]
theorem may_mk (a n : Int) (d : List UInt8) : may ⟨a, n, d⟩ = true ↔ 0 ≤ a ∧ a < 64 ∧ 1 ≤ n ∧ n ≤ 1099511627776 ∧ d.length = 32 := may_iff _
theorem bytesE_yes {e : Ent} (h : may e = true) : bytesE e = 0 := by unfold bytesE; rw [if_pos h]
theorem bytesE_no {e : Ent} (h : may e = false) : bytesE e = 2 := by unfold bytesE; rw [if_neg (by rw [h]; decide)]
theorem bytesE_zero (e : Ent) : bytesE e = 0 ↔ may e = true := by
  unfold bytesE
  split
  · simp [*]
  · rename_i h
    simp [h]
theorem bytesB_yes {a n : Nat} {d : List UInt8} (h : may ⟨a, n, d⟩ = true) : bytesB ⟨a, n, d⟩ = sect a n d := by
  unfold bytesB
  rw [if_pos h, Int.toNat_natCast, Int.toNat_natCast]
theorem bytesB_no {e : Ent} (h : may e = false) : bytesB e = [] := by unfold bytesB; rw [if_neg (by rw [h]; decide)]
theorem may_nat {e : Ent} (h : may e = true) : ∃ a n : Nat, e = ⟨a, n, e.d⟩ ∧ a < 64 ∧ 1 ≤ n ∧ n ≤ 1099511627776 ∧ e.d.length = 32 := by
  obtain ⟨h1, h2, h3, h4, h5⟩ := (may_iff e).1 h
  obtain ⟨b, n, d⟩ := e
  refine ⟨b.toNat, n.toNat, ?_, ?_, ?_, ?_, h5⟩
  · show (⟨b, n, d⟩ : Ent) = ⟨(b.toNat : Int), (n.toNat : Int), d⟩
    rw [Int.toNat_of_nonneg h1, Int.toNat_of_nonneg (Int.le_trans (by decide) h3)]
  · have : b < 64 := h2
    omega
  · have : 1 ≤ n := h3
    omega
  · have : n ≤ 1099511627776 := h4
    omega
section
variable (a n : Nat) (d : List UInt8) (h : d.length = 32)
include h
theorem body_length : (body a n d).length = 60 := by simp [body, Fix.dig_length, mid_length]; omega
theorem sect_length : (sect a n d).length = 64 := by
  rw [sect, Slot.seal_, List.length_append, body_length a n d h, Fix.dig_length]
omit h in
theorem sect_open : sect a n d = Fix.dig n 8 ++ (Fix.dig a 2 ++ (d ++ (mid ++ (Fix.dig n 6 ++ Fix.dig (Crc.sum (body a n d)) 4)))) := by
  unfold sect Slot.seal_
  conv => lhs; lhs; unfold body
  simp only [List.append_assoc]
omit h in
theorem sect_num (hn : n ≤ 1099511627776) : num (sect a n d) = n := by
  unfold num
  rw [sect_open, List.take_left' (Fix.dig_length n 8), Fix.le_dig_self n 8 (by omega)]
omit h in
theorem sect_drop8 : (sect a n d).drop 8 = Fix.dig a 2 ++ (d ++ (mid ++ (Fix.dig n 6 ++ Fix.dig (Crc.sum (body a n d)) 4))) := by
  rw [sect_open, List.drop_left' (Fix.dig_length n 8)]
omit h in
theorem sect_place (ha : a < 65536) : place (sect a n d) = a := by
  unfold place
  rw [sect_drop8, List.take_left' (Fix.dig_length a 2), Fix.le_dig_self a 2 (by omega)]
omit h in
theorem sect_drop10 : (sect a n d).drop 10 = d ++ (mid ++ (Fix.dig n 6 ++ Fix.dig (Crc.sum (body a n d)) 4)) := by
  rw [show 10 = 8 + 2 from rfl, ← List.drop_drop, sect_drop8, List.drop_left' (Fix.dig_length a 2)]
theorem sect_dat : dat (sect a n d) = d := by
  unfold dat
  rw [sect_drop10, List.take_left' h]
theorem sect_drop42 : (sect a n d).drop 42 = mid ++ (Fix.dig n 6 ++ Fix.dig (Crc.sum (body a n d)) 4) := by
  rw [show 42 = 10 + 32 from rfl, ← List.drop_drop, sect_drop10, List.drop_left' h]
theorem sect_again (hn : n ≤ 1099511627776) : again (sect a n d) = n := by
  unfold again
  rw [show 54 = 42 + 12 from rfl, ← List.drop_drop, sect_drop42 a n d h, List.drop_left' mid_length, List.take_left' (Fix.dig_length n 6), Fix.le_dig_self n 6 (by omega)]
end
theorem right_iff (b : List UInt8) : right b = true ↔ b.length = 64 ∧ may (ent b) = true ∧ sect (place b) (num b) (dat b) = b := by unfold right; rw [decide_eq_true_iff]
theorem sect_ent (a n : Nat) (d : List UInt8) (h : may ⟨a, n, d⟩ = true) : ent (sect a n d) = ⟨a, n, d⟩ := by
  obtain ⟨h1, h2, h3, h4, h5⟩ := (may_mk _ _ _).1 h
  unfold ent
  rw [sect_num a n d (by omega), sect_dat a n d h5, sect_place a n d (by omega)]
theorem sect_right (a n : Nat) (d : List UInt8) (h : may ⟨a, n, d⟩ = true) : right (sect a n d) = true := by
  obtain ⟨h1, h2, h3, h4, h5⟩ := (may_mk _ _ _).1 h
  rw [right_iff, sect_ent a n d h, sect_num a n d (by omega), sect_dat a n d h5, sect_place a n d (by omega)]
  exact ⟨sect_length a n d h5, h, rfl⟩
theorem again_right {b : List UInt8} (h : right b = true) : again b = num b := by
  obtain ⟨_, h2, h3⟩ := (right_iff b).1 h
  obtain ⟨_, _, _, h4, h5⟩ := (may_mk _ _ _).1 h2
  have h4 : (num b : Int) ≤ 1099511627776 := h4
  have e := sect_again (place b) (num b) (dat b) h5 (by omega)
  rwa [h3] at e
theorem readE_zero (b : List UInt8) : readE b = 0 ↔ right b = true := by
  unfold readE
  constructor
  · intro h
    split at h
    · cases h
    · split at h
      · assumption
      · cases h
  · intro h
    rw [if_neg (by rw [Decidable.not_not]; exact ((right_iff b).1 h).1), if_pos h]
theorem readE_bad {b : List UInt8} (hb : b.length = 64) (h : right b = false) : readE b = 11 := by
  unfold readE
  rw [if_neg (by rw [Decidable.not_not]; exact hb), if_neg (by rw [h]; decide)]
theorem readE_len {b : List UInt8} (hb : b.length ≠ 64) : readE b = 4 := by
  unfold readE
  rw [if_pos hb]
theorem right_len {b : List UInt8} (hb : b.length ≠ 64) : right b = false := by
  rw [← Bool.not_eq_true, right_iff]
  exact fun x => hb x.1
theorem readV_yes {b : List UInt8} (h : right b = true) : readV b = ent b := by unfold readV; rw [if_pos h]
theorem readV_no {b : List UInt8} (h : right b = false) : readV b = zero := by unfold readV; rw [if_neg (by rw [h]; decide)]
theorem dat_length {b : List UInt8} (h : b.length = 64) : (dat b).length = 32 := by
  unfold dat
  rw [List.length_take, List.length_drop, h]
  decide
theorem num_lt {b : List UInt8} (h : b.length = 64) : num b < 18446744073709551616 := Fix.le_take_lt b 8 (by omega)
/-- a number that is none, or a block that is none -/
theorem not_right (b : List UInt8) (nn : Int) (hnn : IntKind.i64.wrap (num b : Int) = nn) (h : may ⟨place b, nn, dat b⟩ = false) : right b = false := by
  rw [← Bool.not_eq_true, right_iff]
  rintro ⟨h1, h2, _⟩
  obtain ⟨_, _, _, h4, _⟩ := (may_mk _ _ _).1 h2
  have h4 : (num b : Int) ≤ 1099511627776 := h4
  rw [IntKind.wrap_i64] at hnn
  rw [← hnn, show ((num b : Int) + 9223372036854775808) % 18446744073709551616 - 9223372036854775808 = (num b : Int) by omega] at h
  unfold ent at h2
  rw [h2] at h
  cases h
/-- a number that may be is the sector's own -/
theorem num_wrap (b : List UInt8) (nn : Int) (hb : b.length = 64) (hnn : IntKind.i64.wrap (num b : Int) = nn) (h : may ⟨place b, nn, dat b⟩ = true) : nn = (num b : Int) := by
  obtain ⟨_, _, h3, h4, _⟩ := (may_mk _ _ _).1 h
  have h3 : 1 ≤ nn := h3
  have h4 : nn ≤ 1099511627776 := h4
  have := num_lt hb
  rw [IntKind.wrap_i64] at hnn
  omega
theorem read_sect (a n : Nat) (d : List UInt8) (h : may ⟨a, n, d⟩ = true) : readV (sect a n d) = ⟨a, n, d⟩ ∧ readE (sect a n d) = 0 := by
  have hr := sect_right a n d h
  exact ⟨by rw [readV_yes hr, sect_ent a n d h], (readE_zero _).2 hr⟩
theorem sect_read (l : List UInt8) (h : readE l = 0) : may (readV l) = true ∧ bytesB (readV l) = l ∧ (readV l).d.length = 32 ∧ l.length = 64 := by
  have hr := (readE_zero l).1 h
  obtain ⟨h1, h2, h3⟩ := (right_iff l).1 hr
  rw [readV_yes hr]
  refine ⟨h2, ?_, ((may_mk _ _ _).1 h2).2.2.2.2, h1⟩
  exact (bytesB_yes (a := place l) (n := num l) (d := dat l) h2).trans h3
/-- two sectors are the same just if what they are made of is -/
theorem sect_inj (a n : Nat) (d : List UInt8) (b m : Nat) (e : List UInt8) (h : may ⟨a, n, d⟩ = true) (h' : may ⟨b, m, e⟩ = true) : (sect a n d = sect b m e) ↔ a = b ∧ n = m ∧ d = e := by
  obtain ⟨_, h2, _, h4, h5⟩ := (may_mk _ _ _).1 h
  obtain ⟨_, g2, _, g4, g5⟩ := (may_mk _ _ _).1 h'
  constructor
  · intro x
    refine ⟨?_, ?_, ?_⟩
    · have := congrArg place x
      rwa [sect_place a n d (by omega), sect_place b m e (by omega)] at this
    · have := congrArg num x
      rwa [sect_num a n d (by omega), sect_num b m e (by omega)] at this
    · have := congrArg dat x
      rwa [sect_dat a n d h5, sect_dat b m e g5] at this
  · rintro ⟨rfl, rfl, rfl⟩; rfl
/-- half of one, and half of another one -/
def torn (a b : List UInt8) : List UInt8 := a.take 32 ++ b.drop 32
theorem torn_length (a b : List UInt8) (ha : a.length = 64) (hb : b.length = 64) : (torn a b).length = 64 := by
  unfold torn; rw [List.length_append, List.length_take, List.length_drop]; omega
theorem torn_num (a b : List UInt8) (ha : a.length = 64) : num (torn a b) = num a := by
  unfold num torn
  rw [List.take_append_of_le_length (by rw [List.length_take]; omega), List.take_take]
  rfl
theorem torn_again (a b : List UInt8) (ha : a.length = 64) : again (torn a b) = again b := by
  unfold again torn
  have l : (a.take 32).length = 32 := by rw [List.length_take]; omega
  rw [List.drop_append, List.drop_of_length_le (by omega), List.nil_append, l, List.drop_drop]
theorem again_nots : again Slot.nots = 0 := by decide
theorem torn_bad (a b : List UInt8) (ha : a.length = 64) (hb : b.length = 64) (h : num a ≠ again b) : readE (torn a b) = 11 ∧ right (torn a b) = false := by
  have hr : right (torn a b) = false := by
    rw [← Bool.not_eq_true]
    intro x
    have := again_right x
    rw [torn_num a b ha, torn_again a b ha] at this
    exact h this.symm
  exact ⟨readE_bad (torn_length a b ha hb) hr, hr⟩
theorem right_nots : right Slot.nots = false := by
  rw [← Bool.not_eq_true, right_iff]
  rintro ⟨_, h, _⟩
  have h := (may_mk _ _ _).1 h
  have e : num Slot.nots = 0 := by decide
  have h3 : 1 ≤ (num Slot.nots : Int) := h.2.2.1
  omega
/-- all that is sealed has one checksum -/
theorem sum_right {b : List UInt8} (h : right b = true) : Crc.sum b = 558161692 := by
  have e := ((right_iff b).1 h).2.2
  rw [← e]
  unfold sect Slot.seal_
  rw [show ∀ n, Fix.dig n 4 = Crc.word n from fun n => by simp [Fix.dig, Crc.word, List.range, List.range.loop]]
  exact (Crc.sum_tail _ _ (Crc.sum_lt _)).2 rfl
/-- bits turned within 32 in a row -/
theorem turned_bad (l k : List UInt8) (hl : Crc.sum l = 558161692) (hk : k.length = l.length) (f m : Nat) (hm : m ≠ 0) (hm2 : m < 4294967296) (hf : f + 32 ≤ 8 * l.length) (hn : Crc.num k = Crc.num l ^^^ (2 ^ f * m)) : right k = false := by
  rw [← Bool.not_eq_true]
  intro h
  have e := sum_right h
  exact Crc.sum_burst l k hk.symm f m hm hm2 (by omega) hn (by rw [e, hl])
/-- a journal: what Write makes of a disk, what Last tells -/
def write (S : DS) (i : Int) (e : Ent) : DS × Int := if may e = true then Slot.put1 S i (bytesB e) else (S, 2)
def lastE (S : DS) (i : Int) : Int := if S.readE i = 0 then (if right (S.readB i) = true then 0 else 6) else S.readE i
def lastV (S : DS) (i : Int) : Ent := if S.readE i = 0 then readV (S.readB i) else zero
end Jn
end Go.Proofs.YtlchpolheciadaaDoor
/-
  An entry as it lies in memory, or is handed on by value. Conditions: none.
-/
namespace Go.Proofs.YtlchpolheciadaaDoor
open Go.RowKit

/-- an entry's cells: its bytes at A, with room for c -/
def entL (e : Ent) (A : Option Addr) (c : Nat) : List Value := [.int .i64 e.b, .int .i64 e.n, .slice A e.d.length c]
/-- the same, by its parts -/
def entN (b n : Int) (A : Option Addr) (m c : Nat) : List Value := [.int .i64 b, .int .i64 n, .slice A m c]
theorem entN_one (b n : Int) (A : Option Addr) (m c : Nat) : ∀ v ∈ entN b n A m c, v.oneCell' = true := by
  intro v hv
  simp only [entN, List.mem_cons, List.not_mem_nil, or_false] at hv
  rcases hv with rfl | rfl | rfl <;> rfl
theorem entL_eq (b n : Int) (d : List UInt8) (m : Nat) (hm : d.length = m) (A : Option Addr) (c : Nat) : entL ⟨b, n, d⟩ A c = entN b n A m c := by subst hm; rfl
def entZ : List Value := [.int .i64 0, .int .i64 0, .slice none 0 0]
theorem ent_one (e : Ent) (A : Option Addr) (c : Nat) : ∀ v ∈ entL e A c, v.oneCell' = true := by
  intro v hv
  simp only [entL, List.mem_cons, List.not_mem_nil, or_false] at hv
  rcases hv with rfl | rfl | rfl <;> rfl
theorem entZ_eq : entL Jn.zero none 0 = entZ := rfl
theorem entTy : RowTy Tryd.prog 79 entZ := ⟨fun w => by kernel_rfl, by kernel_rfl, _, Tryd.underlying79, rfl⟩
theorem ent_cells {w : World} {g : Nat} {e : Ent} {A : Option Addr} {c : Nat} {E : TypeId} (h : BlkR E w g (entL e A c)) : w.cell? ⟨g, 0, none⟩ = some (.int .i64 e.b) ∧ w.cell? ⟨g, 1, none⟩ = some (.int .i64 e.n) ∧ w.cell? ⟨g, 2, none⟩ = some (.slice A e.d.length c) :=
  ⟨h.cell rfl, h.cell rfl, h.cell rfl⟩
/-- an entry in a new variable, whole -/
theorem boxE (w : World) (e : Ent) (A : Option Addr) (c : Nat) : Hid (BlkR 79 (w.alloc (.cells (entL e A c).toArray 79)) w.heap.size (entL e A c) ∧ Below w.heap.size w (w.alloc (.cells (entL e A c).toArray 79))) := Lib.hid ⟨BlkR.new w (entL e A c) _, (Below.refl _ _).alloc (Nat.le_refl _) _⟩
/-- a new row of noughts -/
def row0 (n : Nat) : Obj := .cells (List.replicate n (Value.int .u8 0)).toArray 5
theorem row0_facts (w : World) (n : Nat) : BlkR 5 (w.alloc (row0 n)) w.heap.size (cellsOfBytes (List.replicate n 0)) ∧ Below w.heap.size w (w.alloc (row0 n)) := by
  have h := heap_alloc_new w (.cells (cellsOfBytes (List.replicate n 0)).toArray 5)
  have e : cellsOfBytes (List.replicate n 0) = List.replicate n (Value.int .u8 0) := by simp [cellsOfBytes]
  rw [e] at h
  refine ⟨?_, (Below.refl _ _).alloc (Nat.le_refl _) _⟩
  unfold BlkR row0
  rw [e]
  exact h
/-- bytes that lie elsewhere than what a store turned -/
theorem BytesAt.else_ {w w' : World} {g : Nat} {A : Option Addr} {l : List UInt8} (h : BytesAt w w.heap.size A l) (hs : w'.heap.size = w.heap.size) (hk : ∀ k, k ≠ g → w'.heap[k]? = w.heap[k]?) (hA : ∀ ad, A = some ad → ad.block ≠ g) : BytesAt w' w'.heap.size A l := fun hne => by
  obtain ⟨ad, e, hlt, hc⟩ := h hne
  exact ⟨ad, e, by rw [hs]; exact hlt, fun j hj => (World.cell?_of_block (w := w) (hk _ (by rw [block_add]; exact hA ad e))).trans (hc j hj)⟩
/-- two entries, field by field -/
def Jn.same (x y : Ent) : Bool := x.b == y.b && (x.n == y.n && x.d == y.d)
theorem Jn.same_self (x : Ent) : Jn.same x x = true := by simp [Jn.same]
theorem Jn.same_iff (x y : Ent) : Jn.same x y = true ↔ x = y := by
  obtain ⟨a, b, c⟩ := x
  obtain ⟨d, e, f⟩ := y
  simp [Jn.same]
end Go.Proofs.YtlchpolheciadaaDoor
/-
  tandemkit.SameEntry. Conditions: the bytes can be read.
-/
namespace Go.Proofs.YtlchpolheciadaaDoor
open Go.RowKit

def twoE (w : World) (x : Ent) (A : Option Addr) (c : Nat) (y : Ent) (A' : Option Addr) (c' : Nat) : World := (w.alloc (.cells (entL x A c).toArray 79)).alloc (.cells (entL y A' c').toArray 79)
theorem twoE_facts (w : World) (x : Ent) (A : Option Addr) (c : Nat) (y : Ent) (A' : Option Addr) (c' : Nat) : BlkR 79 (twoE w x A c y A' c') w.heap.size (entL x A c) ∧ BlkR 79 (twoE w x A c y A' c') (w.heap.size + 1) (entL y A' c') ∧ Below w.heap.size w (twoE w x A c y A' c') := by
  unfold twoE
  refine ⟨(BlkR.new w (entL x A c) 79).step ((Below.refl _ _).alloc (Nat.le_refl _) _), ?_, ((Below.refl _ _).alloc (Nat.le_refl _) _).alloc (by simp) _⟩
  have := BlkR.new (w.alloc (.cells (entL x A c).toArray 79)) (entL y A' c') 79
  rw [World.size_alloc] at this
  exact this
end Go.Proofs.YtlchpolheciadaaDoor
/-
  What the functions of journal tell, and make of a disk, by the document. Conditions: none.
-/
namespace Go.Proofs.YtlchpolheciadaaDoor
open Go.RowKit Fix

/-- bytes that lie somewhere in a new block (of blocks from base on), with no room behind them -/
def Inner (w : World) (base : Nat) (A : Option Addr) (c : Nat) (l : List UInt8) : Prop :=
  (l = [] ∧ c = 0) ∨ ∃ g p E m, A = some ⟨g, p, none⟩ ∧ base ≤ g ∧ BlkR E w g (cellsOfBytes m) ∧ c = l.length ∧ l = (m.drop p).take c
section
variable {w w' : World} {base c : Nat} {A : Option Addr} {l : List UInt8}
theorem Inner.none_ : Inner w base A 0 [] := .inl ⟨rfl, rfl⟩
theorem Inner.cap (h : Inner w base A c l) : l.length ≤ c := by
  rcases h with ⟨rfl, rfl⟩ | ⟨g, p, E, m, rfl, _, hb, e, _⟩
  · exact Nat.le_refl _
  · exact Nat.le_of_eq e.symm
theorem part_len {m : List UInt8} {p : Nat} (e : c = l.length) (el : l = (m.drop p).take c) : c ≤ m.length - p := by
  have := congrArg List.length el
  rw [List.length_take, List.length_drop] at this
  omega
theorem Inner.bytes (h : Inner w base A c l) : BytesAt w w.heap.size A l := fun hl => by
  rcases h with ⟨rfl, _⟩ | ⟨g, p, E, m, rfl, _, hb, e, el⟩
  · exact absurd rfl hl
  · refine ⟨_, rfl, hb.lt, fun k hk => ?_⟩
    have hx := part_len e el
    rw [Addr.add_mid, hb.cell (cellsOfBytes_get m (p + k) (by omega))]
    congr 3
    rw [el, List.getD_eq_getElem?_getD, List.getD_eq_getElem?_getD, List.getElem?_take, if_pos (by omega), List.getElem?_drop]
theorem Inner.step (h : Inner w base A c l) (hb : Below w.heap.size w w') : Inner w' base A c l := by
  rcases h with h | ⟨g, p, E, m, rfl, hg, hk, e⟩
  · exact .inl h
  · exact .inr ⟨g, p, E, m, rfl, hg, hk.below hb hk.lt, e⟩
theorem Inner.less (h : Inner w base A c l) {b : Nat} (hb : b ≤ base) : Inner w b A c l := by
  rcases h with h | ⟨g, p, E, m, rfl, hg, hk, e⟩
  · exact .inl h
  · exact .inr ⟨g, p, E, m, rfl, Nat.le_trans hb hg, hk, e⟩
theorem Inner.keepBut {b g : Nat} (h : Inner w b A c l) (hk : ∀ k, k ≠ g → w'.heap[k]? = w.heap[k]?) (hg : g < base) (h2 : Inner w base A c l) : Inner w' b A c l := by
  rcases h with h | ⟨g1, p1, E1, m1, e1, hg1, hk1, e⟩
  · exact .inl h
  · rcases h2 with h2 | ⟨g2, p2, E2, m2, e2, hg2, hk2, e3⟩
    · exact .inl h2
    · rw [e1] at e2; cases e2
      exact .inr ⟨g1, p1, E1, m1, e1, hg1, (hk g1 (by omega)).trans hk1, e⟩
theorem Inner.frame {F : Nat → Prop} (h : Inner w base A c l) (hF : Frame F w w') (hf : ∀ k, F k → k < base) : Inner w' base A c l := by
  rcases h with h | ⟨g, p, E, m, rfl, hg, hk, e⟩
  · exact .inl h
  · exact .inr ⟨g, p, E, m, rfl, hg, (hF.block g hk.lt (fun x => by have := hf g x; omega)).trans hk, e⟩
theorem Inner.lt (h : Inner w base A c l) : ∀ k, BlockOf A c k → k < w.heap.size := fun k ⟨h0, ad, e, hk⟩ => by
  obtain ⟨g, p, E, m, rfl, _, hb, _⟩ := h.resolve_left fun x => h0 x.2
  cases e
  rw [← hk]
  exact hb.lt
theorem Inner.new (h : Inner w base A c l) : ∀ ad, A = some ad → l ≠ [] → base ≤ ad.block := fun ad e hne => by
  rcases h with ⟨rfl, _⟩ | ⟨g, p, E, m, rfl, hg, _, _⟩
  · exact absurd rfl hne
  · cases e; exact hg
end
def JbPost (e : Ent) (w : World) (en : Ending) (w' : World) : Prop :=
  ∃ A c, en = .returned (.tuple #[.slice A (Jn.bytesB e).length c, .int .i64 (Jn.bytesE e)]) ∧ c ≤ 9223372036854775807 ∧ Whole w' w.heap.size A c (Jn.bytesB e) ∧ Below w.heap.size w w'
def JrPost (l : List UInt8) (w : World) (en : Ending) (w' : World) : Prop :=
  ∃ A c, en = .returned (.tuple #[.agg (entL (Jn.readV l) A c).toArray, .int .i64 (Jn.readE l)]) ∧ c ≤ 9223372036854775807 ∧ Inner w' w.heap.size A c (Jn.readV l).d ∧ Below w.heap.size w w'
def JlPost (S : DS) (i : Int) (w : World) (en : Ending) (w' : World) : Prop :=
  ∃ A c, en = .returned (.tuple #[.agg (entL (Jn.lastV S i) A c).toArray, .int .i64 (Jn.lastE S i)]) ∧ c ≤ 9223372036854775807 ∧ Inner w' w.heap.size A c (Jn.lastV S i).d ∧ Below w.heap.size w w'
theorem Whole.cells {w : World} {b c : Nat} {A : Option Addr} {l : List UInt8} (h : Whole w b A c l) : BytesAt w w.heap.size A l := h.bytes
/-- what Last tells of a disk that is in, at a place that there is -/
theorem Jn.last_in {S : DS} {i : Int} (h : S.readE i = 0) : Jn.lastE S i = (if Jn.right (S.readB i) = true then 0 else 6) ∧ Jn.lastV S i = Jn.readV (S.readB i) := by
  unfold Jn.lastE Jn.lastV
  rw [if_pos h, if_pos h]
  exact ⟨rfl, rfl⟩
theorem Jn.bytes_len {e : Ent} (h : Jn.may e = true) : (Jn.bytesB e).length = 64 := by
  obtain ⟨a, n, he, _, _, _, hd⟩ := Jn.may_nat h
  rw [he] at h ⊢
  rw [Jn.bytesB_yes h]
  exact Jn.sect_length a n e.d hd
theorem Jn.read_bytes {e : Ent} (h : Jn.may e = true) : Jn.readV (Jn.bytesB e) = e ∧ Jn.readE (Jn.bytesB e) = 0 ∧ Jn.right (Jn.bytesB e) = true := by
  obtain ⟨a, n, he, _, _, _, hd⟩ := Jn.may_nat h
  rw [he] at h ⊢
  rw [Jn.bytesB_yes h]
  exact ⟨(Jn.read_sect a n e.d h).1, (Jn.read_sect a n e.d h).2, Jn.sect_right a n e.d h⟩
theorem jn_ops (S : DS) (i : Int) (e : Ent) : (Jn.write S i e).1.ops ≤ S.ops + 2 := by
  unfold Jn.write
  split
  · exact ops_put1 S i _
  · exact Nat.le_add_right _ _
end Go.Proofs.YtlchpolheciadaaDoor
