/-
  A net in memory. Conditions: none.
-/
import Derived.Test.YtplfhlmipdlmnaaNtMath
import Derived.Test.YtplfhlmipdlmnaaRowK
import Derived.Test.YtplfhlmipdlmnaaBa
import Derived.Test.YtplfhlmipdlmnaaRowStep
import Derived.Test.YtplfhlmipdlmnaaWhole
import Derived.StillTailTactics
import Derived.Deep.RegionHeld3
import Derived.LaidEqlPtr
namespace Go.Proofs.Ytplfhlmipdlmnaa
open Go.RowKit Nt

set_option maxRecDepth 100000 in
theorem info_pk : RowTy Try.prog 48 [.int .i64 0, .int .i64 0, .slice none 0 0] := ⟨fun w => by kernel_rfl, by kernel_rfl, _, Try.underlying48, rfl⟩
set_option maxRecDepth 100000 in
theorem elPk : ElemK Try.prog 26 48 [.int .i64 0, .int .i64 0, .slice none 0 0] 3 40 := ⟨Try.underlying26, ⟨_, _, rfl, rfl, by kernel_rfl, by kernel_rfl, by kernel_rfl⟩, rfl, by decide, by
  intro v hv
  simp only [List.mem_cons, List.not_mem_nil, or_false] at hv
  rcases hv with rfl | rfl | rfl <;> rfl⟩
/-- a datagram, and where its bytes lie -/
structure PkM where
  p : Pk
  A : Option Addr
  c : Nat
def pkCells (m : PkM) : List Value := [.int .i64 (m.p.fr : Int), .int .i64 (m.p.to : Int), .slice m.A m.p.b.length m.c]
theorem pk_len (m : PkM) : (pkCells m).length = 3 := rfl
theorem pk_one (m : PkM) : ∀ v ∈ pkCells m, v.oneCell' = true := by
  intro v hv
  simp only [pkCells, List.mem_cons, List.not_mem_nil, or_false] at hv
  rcases hv with rfl | rfl | rfl <;> rfl
/-- the cut links -/
def dnC (d : Nat → Bool) : List Value := (List.range 9).map fun k => .bool (d k)
theorem dnC_get {k : Nat} (d : Nat → Bool) (h : k < 9) : (dnC d)[k]? = some (.bool (d k)) := by simp [dnC, h]
theorem dnC_len (d : Nat → Bool) : (dnC d).length = 9 := by simp [dnC]
theorem dnC_set (k : Nat) (d : Nat → Bool) (x : Bool) : (dnC d).set k (.bool x) = dnC (upd d k x) := by
  refine List.ext_getElem? fun j => ?_
  by_cases h : k = j
  · subst h
    by_cases hk : k < 9
    · rw [List.getElem?_set_self (by rw [dnC_len]; exact hk), dnC_get _ hk]; simp [upd]
    · rw [List.getElem?_eq_none (by rw [List.length_set, dnC_len]; omega), List.getElem?_eq_none (by rw [dnC_len]; omega)]
  · rw [List.getElem?_set_ne h]
    by_cases hj : j < 9
    · rw [dnC_get _ hj, dnC_get _ hj]
      unfold upd
      rw [if_neg (fun e => h e.symm)]
    · rw [List.getElem?_eq_none (by rw [dnC_len]; omega), List.getElem?_eq_none (by rw [dnC_len]; omega)]
theorem dnC_one (d : Nat → Bool) : ∀ v ∈ dnC d, v.oneCell' = true := by
  intro v hv
  simp only [dnC, List.mem_map] at hv
  obtain ⟨k, _, rfl⟩ := hv
  rfl
/-- what is on its way: the row is the net's own; the bytes lie in blocks of F, beside it -/
structure WayAt (F : Nat → Prop) (w : World) (v : Value) (ms : List PkM) : Prop where
  own : OwnK 48 3 w 0 v ms.length (ms.flatMap pkCells)
  row : ∀ j, v.ownBlock = some j → F j
  byt : ∀ m ∈ ms, BytesAt w w.heap.size m.A m.p.b ∧ m.p.b.length ≤ m.c ∧ (∀ ad, m.A = some ad → m.p.b ≠ [] → F ad.block ∧ v.ownBlock ≠ some ad.block)
def ntCells (b : Nat) (d : Nat → Bool) (v : Value) (lost : Nat) : List Value := .pointer (some ⟨b, 0, none⟩) :: (dnC d ++ [v, .int .i64 (lost : Int)])
/-- a net: at b; all else of it lies in blocks of F -/
structure NetAt (w : World) (b : Nat) (F : Nat → Prop) (s : N) : Prop where
  mem : ∃ v ms, BlkR 45 w b (ntCells b s.down v s.lost) ∧ WayAt F w v ms ∧ ms.map (·.p) = s.way
  in_ : ¬ F b
  lt : ∀ j, F j → j < w.heap.size
  ok : s.Ok
section
variable {w w' : World} {b : Nat} {F G : Nat → Prop} {s : N} {v : Value} {ms : List PkM} {m : PkM}
theorem WayAt.frame {X : Nat → Prop} (h : WayAt F w v ms) (hX : Frame X w w') (hk : ∀ j, F j → ¬ X j) : WayAt F w' v ms :=
  ⟨h.own.frame fun j hj => hX.block j (h.own.lt j hj).2 (hk j (h.row j hj)), h.row, fun m hm => by
    obtain ⟨h1, h2, h3⟩ := h.byt m hm
    refine ⟨fun hne => ?_, h2, h3⟩
    obtain ⟨ad, e, hl, hc⟩ := h1 hne
    refine ⟨ad, e, Nat.lt_of_lt_of_le hl hX.size, fun k hk2 => ?_⟩
    rw [← hc k hk2]
    exact World.cell?_of_block (by rw [block_add]; exact hX.block _ hl (hk _ (h3 ad e hne).1))⟩
theorem WayAt.wide (h : WayAt F w v ms) (hG : ∀ j, F j → G j) : WayAt G w v ms :=
  ⟨h.own, fun j hj => hG j (h.row j hj), fun m hm => by
    obtain ⟨h1, h2, h3⟩ := h.byt m hm
    exact ⟨h1, h2, fun ad e hne => ⟨hG _ (h3 ad e hne).1, (h3 ad e hne).2⟩⟩⟩
theorem NetAt.frame {X : Nat → Prop} (h : NetAt w b F s) (hX : Frame X w w') (hb : ¬ X b) (hk : ∀ j, F j → ¬ X j) : NetAt w' b F s := by
  obtain ⟨v, ms, h1, h2, h3⟩ := h.mem
  exact ⟨⟨v, ms, (hX.block b h1.lt hb).trans h1, h2.frame hX hk, h3⟩, h.in_, fun j hj => Nat.lt_of_lt_of_le (h.lt j hj) hX.size, h.ok⟩
theorem NetAt.blt (h : NetAt w b F s) : b < w.heap.size := by obtain ⟨v, ms, h1, _⟩ := h.mem; exact h1.lt
theorem NetAt.step (h : NetAt w b F s) (hb : Below w.heap.size w w') : NetAt w' b F s := h.frame (X := fun _ => False) (Frame.of_below hb) (fun e => e) fun _ _ e => e
/-- a net's cells -/
theorem net_cells {d : Nat → Bool} {n : Nat} (r : BlkR 45 w b (ntCells b d v n)) :
    w.cell? ⟨b, 0, none⟩ = some (.pointer (some ⟨b, 0, none⟩)) ∧ w.cell? ⟨b, 10, none⟩ = some v ∧ w.cell? ⟨b, 11, none⟩ = some (.int .i64 (n : Int)) ∧ ∀ k, k < 9 → w.cell? ⟨b, 1 + k, none⟩ = some (.bool (d k)) := by
  refine ⟨r.cell rfl, r.cell ?_, r.cell ?_, fun k hk => r.cell ?_⟩
  · unfold ntCells
    rw [List.getElem?_cons_succ, List.getElem?_append_right (by rw [dnC_len]; decide), dnC_len]; rfl
  · unfold ntCells
    rw [List.getElem?_cons_succ, List.getElem?_append_right (by rw [dnC_len]; decide), dnC_len]; rfl
  · unfold ntCells
    rw [Nat.add_comm, List.getElem?_cons_succ, List.getElem?_append_left (by rw [dnC_len]; exact hk), dnC_get _ hk]
end
end Go.Proofs.Ytplfhlmipdlmnaa
