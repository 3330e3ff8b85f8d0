/-
  A session in memory: its ring's items, its cells. Conditions: none.
-/
import Derived.Test.YtfopjilncfndnaaDoorSsMath
import Derived.Test.YtfopjilncfndnaaDoorKitCopy
import Derived.Test.YtfopjilncfndnaaDoorWhole
import Derived.Deep.RegionHeld3
import Derived.StillTailTactics
import Derived.Lib.Hide
namespace Go.Proofs.YtfopjilncfndnaaDoor
open Go.RowKit Fix

theorem info_msg : RowTy Tryd.prog 55 [.int .i64 0, .slice none 0 0] := ⟨fun w => by kernel_rfl, by kernel_rfl, _, Tryd.underlying55, rfl⟩
theorem info_known : RowTy Tryd.prog 61 [.int .i64 0, .int .i64 0, .int .u64 0] := ⟨fun w => by kernel_rfl, by kernel_rfl, _, Tryd.underlying61, rfl⟩
theorem info_dat : RowTy Tryd.prog 101 [.int .i64 0, .int .i64 0, .int .i64 0, .int .i64 0, .int .u64 0, .slice none 0 0] := ⟨fun w => by kernel_rfl, by kernel_rfl, _, Tryd.underlying101, rfl⟩
/-- sixteen messages that nobody put -/
def its0 : List Value := (List.replicate 16 [Value.int .i64 0, .slice none 0 0]).flatten
theorem info_ring : RowTy Tryd.prog 58 (its0 ++ [.int .i64 0, .int .i64 0]) := ⟨fun w => by kernel_rfl, by kernel_rfl, _, Tryd.underlying58, rfl⟩
theorem info_ses : RowTy Tryd.prog 63 (.pointer none :: .int .i64 0 :: .int .i64 0 :: ((its0 ++ [.int .i64 0, .int .i64 0]) ++ [.int .i64 0, .int .i64 0, .int .u64 0])) := ⟨fun w => by kernel_rfl, by kernel_rfl, _, Tryd.underlying63, rfl⟩

/-- a payload that is kept: its blocks are among F -/
def PayAt (F : Nat → Prop) (w : World) (v : Value) (l : List UInt8) : Prop := ∃ A c, v = .slice A l.length c ∧ l.length ≤ c ∧ BytesAt w w.heap.size A l ∧ ∀ ad, A = some ad → l ≠ [] → F ad.block
/-- the items of a ring: the oldest one stands at f -/
structure Its (F : Nat → Prop) (w : World) (its : List Value) (f : Nat) (l : List (Nat × List UInt8)) : Prop where
  len : its.length = 32
  one : ∀ v ∈ its, v.oneCell' = true
  f16 : f < 16
  many : l.length ≤ 16
  num : ∀ i m, l[i]? = some m → its[2 * ((f + i) % 16)]? = some (.int .i64 (m.1 : Int))
  pay : ∀ i m, l[i]? = some m → ∃ v, its[2 * ((f + i) % 16) + 1]? = some v ∧ PayAt F w v m.2
def rgL (its : List Value) (f n : Nat) : List Value := its ++ [.int .i64 (f : Int), .int .i64 (n : Int)]
theorem PayAt.keep {F : Nat → Prop} {w w' : World} {v : Value} {l : List UInt8} (h : PayAt F w v l) (hs : w.heap.size ≤ w'.heap.size) (hk : ∀ k, F k → w'.heap[k]? = w.heap[k]?) : PayAt F w' v l := by
  obtain ⟨A, c, e, hc, hb, hF⟩ := h
  refine ⟨A, c, e, hc, fun hne => ?_, hF⟩
  obtain ⟨ad, ha, hl, hx⟩ := hb hne
  refine ⟨ad, ha, by omega, fun k hk2 => ?_⟩
  have := hx k hk2
  unfold World.cell? at this ⊢
  rw [block_add] at this ⊢
  rw [hk _ (hF ad ha hne)]
  exact this
theorem PayAt.wide {F G : Nat → Prop} {w : World} {v : Value} {l : List UInt8} (h : PayAt F w v l) (hFG : ∀ k, F k → G k) : PayAt G w v l := by
  obtain ⟨A, c, e, hc, hb, hF⟩ := h
  exact ⟨A, c, e, hc, hb, fun ad ha hne => hFG _ (hF ad ha hne)⟩
theorem Its.keep {F : Nat → Prop} {w w' : World} {its : List Value} {f : Nat} {l : List (Nat × List UInt8)} (h : Its F w its f l) (hs : w.heap.size ≤ w'.heap.size) (hk : ∀ k, F k → w'.heap[k]? = w.heap[k]?) : Its F w' its f l :=
  ⟨h.len, h.one, h.f16, h.many, h.num, fun i m hm => by
    obtain ⟨v, hv, hp⟩ := h.pay i m hm
    exact ⟨v, hv, hp.keep hs hk⟩⟩
theorem Its.wide {F G : Nat → Prop} {w : World} {its : List Value} {f : Nat} {l : List (Nat × List UInt8)} (h : Its F w its f l) (hFG : ∀ k, F k → G k) : Its G w its f l :=
  ⟨h.len, h.one, h.f16, h.many, h.num, fun i m hm => by
    obtain ⟨v, hv, hp⟩ := h.pay i m hm
    exact ⟨v, hv, hp.wide hFG⟩⟩
theorem Its.nil_ {F : Nat → Prop} {w : World} {its : List Value} {f : Nat} (h1 : its.length = 32) (h2 : ∀ v ∈ its, v.oneCell' = true) (h3 : f < 16) : Its F w its f [] := ⟨h1, h2, h3, Nat.zero_le _, fun i m h => (by cases h), fun i m h => (by cases h)⟩
/-- a message is put at place k -/
def setM (its : List Value) (k : Nat) (a b : Value) : List Value := its.take (2 * k) ++ [a, b] ++ its.drop (2 * k + 2)
theorem setM_length (its : List Value) (k : Nat) (a b : Value) (h : its.length = 32) (hk : k < 16) : (setM its k a b).length = 32 := by
  simp only [setM, List.length_append, List.length_take, List.length_drop, List.length_cons, List.length_nil]; omega
theorem setM_at (its : List Value) (k : Nat) (a b : Value) (h : its.length = 32) (hk : k < 16) : (setM its k a b)[2 * k]? = some a ∧ (setM its k a b)[2 * k + 1]? = some b := by
  have hl : (its.take (2 * k)).length = 2 * k := by rw [List.length_take]; omega
  unfold setM
  rw [List.append_assoc]
  constructor
  · rw [List.getElem?_append_right (by omega), hl, Nat.sub_self]; rfl
  · rw [List.getElem?_append_right (by omega), hl, show 2 * k + 1 - 2 * k = 1 by omega]; rfl
theorem setM_other (its : List Value) (k j : Nat) (a b : Value) (h : its.length = 32) (hk : k < 16) (hj : j < 2 * k ∨ 2 * k + 2 ≤ j) : (setM its k a b)[j]? = its[j]? := by
  have hl : (its.take (2 * k)).length = 2 * k := by rw [List.length_take]; omega
  unfold setM
  rw [List.append_assoc]
  rcases hj with hj | hj
  · rw [List.getElem?_append_left (by omega), List.getElem?_take_of_lt hj]
  · rw [List.getElem?_append_right (by omega), hl, List.getElem?_append_right (by simp; omega), List.getElem?_drop]
    congr 1
    simp; omega
theorem setM_one {its : List Value} {k : Nat} {a b : Value} (h : ∀ v ∈ its, v.oneCell' = true) (ha : a.oneCell' = true) (hb : b.oneCell' = true) : ∀ v ∈ setM its k a b, v.oneCell' = true := by
  intro v hv
  simp only [setM, List.mem_append, List.mem_cons, List.not_mem_nil, or_false] at hv
  rcases hv with (hv | rfl | rfl) | hv
  · exact h v (List.mem_of_mem_take hv)
  · exact ha
  · exact hb
  · exact h v (List.mem_of_mem_drop hv)
/-- put: one more, or the oldest one goes -/
theorem Its.put {F : Nat → Prop} {w : World} {its : List Value} {f : Nat} {l : List (Nat × List UInt8)} (h : Its F w its f l) (m : Nat × List UInt8) (v : Value) (hv : PayAt F w v m.2) :
    Its F w (setM its ((f + l.length) % 16) (.int .i64 (m.1 : Int)) v) (if l.length < 16 then f else (f + 1) % 16) (Ss.push l m) := by
  have h1 := h.len
  have h3 := h.f16
  have h4 := h.many
  have hk : (f + l.length) % 16 < 16 := Nat.mod_lt _ (by decide)
  have hone : v.oneCell' = true := by obtain ⟨A, c, e, _⟩ := hv; rw [e]; rfl
  obtain ⟨s1, s2⟩ := setM_at its _ (.int .i64 (m.1 : Int)) v h1 hk
  by_cases hl : l.length < 16
  · rw [if_pos hl]
    unfold Ss.push
    rw [if_pos hl]
    refine ⟨setM_length _ _ _ _ h1 hk, setM_one h.one rfl hone, h3, by simp; omega, fun i x hx => ?_, fun i x hx => ?_⟩
    · by_cases hi : i < l.length
      · rw [List.getElem?_append_left hi] at hx
        rw [setM_other _ _ _ _ _ h1 hk (by omega)]
        exact h.num i x hx
      · rw [List.getElem?_append_right (by omega)] at hx
        have hi0 : i - l.length = 0 := by
          rcases Nat.eq_zero_or_pos (i - l.length) with e | e
          · exact e
          · rw [List.getElem?_eq_none (by simp; omega)] at hx; cases hx
        rw [hi0] at hx
        obtain rfl : m = x := by simpa using hx
        rw [show i = l.length by omega]
        exact s1
    · by_cases hi : i < l.length
      · rw [List.getElem?_append_left hi] at hx
        rw [setM_other _ _ _ _ _ h1 hk (by omega)]
        exact h.pay i x hx
      · rw [List.getElem?_append_right (by omega)] at hx
        have hi0 : i - l.length = 0 := by
          rcases Nat.eq_zero_or_pos (i - l.length) with e | e
          · exact e
          · rw [List.getElem?_eq_none (by simp; omega)] at hx; cases hx
        rw [hi0] at hx
        obtain rfl : m = x := by simpa using hx
        rw [show i = l.length by omega]
        exact ⟨v, s2, hv⟩
  · rw [if_neg hl]
    unfold Ss.push
    rw [if_neg hl]
    have hL : l.length = 16 := by omega
    have ht : l.tail.length = 15 := by rw [List.length_tail]; omega
    refine ⟨setM_length _ _ _ _ h1 hk, setM_one h.one rfl hone, Nat.mod_lt _ (by decide), by simp; omega, fun i x hx => ?_, fun i x hx => ?_⟩
    · by_cases hi : i < 15
      · rw [List.getElem?_append_left (by omega), List.getElem?_tail] at hx
        have hz := h.num (i + 1) x hx
        rw [show (f + (i + 1)) % 16 = ((f + 1) % 16 + i) % 16 by omega] at hz
        rw [setM_other _ _ _ _ _ h1 hk (by omega)]
        exact hz
      · rw [List.getElem?_append_right (by omega)] at hx
        have hi0 : i - l.tail.length = 0 := by
          rcases Nat.eq_zero_or_pos (i - l.tail.length) with e | e
          · exact e
          · rw [List.getElem?_eq_none (by simp; omega)] at hx; cases hx
        rw [hi0] at hx
        obtain rfl : m = x := by simpa using hx
        rw [show ((f + 1) % 16 + i) % 16 = (f + l.length) % 16 by omega]
        exact s1
    · by_cases hi : i < 15
      · rw [List.getElem?_append_left (by omega), List.getElem?_tail] at hx
        have hz := h.pay (i + 1) x hx
        rw [show (f + (i + 1)) % 16 = ((f + 1) % 16 + i) % 16 by omega] at hz
        rw [setM_other _ _ _ _ _ h1 hk (by omega)]
        exact hz
      · rw [List.getElem?_append_right (by omega)] at hx
        have hi0 : i - l.tail.length = 0 := by
          rcases Nat.eq_zero_or_pos (i - l.tail.length) with e | e
          · exact e
          · rw [List.getElem?_eq_none (by simp; omega)] at hx; cases hx
        rw [hi0] at hx
        obtain rfl : m = x := by simpa using hx
        rw [show ((f + 1) % 16 + i) % 16 = (f + l.length) % 16 by omega]
        exact ⟨v, s2, hv⟩
/-- a ring somewhere within a block -/
structure RgAt (E : TypeId) (F : Nat → Prop) (w : World) (g o : Nat) (pre post its : List Value) (f : Nat) (l : List (Nat × List UInt8)) : Prop where
  blk : BlkR E w g (pre ++ rgL its f l.length ++ post)
  off : pre.length = o
  its : Its F w its f l
  in_ : ¬ F g
end Go.Proofs.YtfopjilncfndnaaDoor
