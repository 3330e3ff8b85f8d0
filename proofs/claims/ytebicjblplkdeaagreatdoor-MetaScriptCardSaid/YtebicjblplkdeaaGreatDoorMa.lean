/-
  Several texts in one (MetaMath, MetaDec, MetaSmall, MetaBytes, MetaRead). Conditions: as each says.
-/
import Derived.Test.YtebicjblplkdeaaGreatDoorFx
import Derived.Test.YtebicjblplkdeaaGreatDoorBa
import Derived.Deep.RegionHeld3
import Derived.Lib.Hide
/-
  A meta as six numbers: which may be, their bytes. Plain mathematics. Conditions: none.
-/
namespace Go.Proofs.YtebicjblplkdeaaGreatDoor
open Fix

/-- the greatest term -/
abbrev top : Int := 1099511627776
/-- a number, or the bound that it is beyond -/
def near (n lo hi : Int) : Int := max lo (min n hi)
theorem near_in {n lo hi : Int} (h1 : lo ≤ n) (h2 : n ≤ hi) : near n lo hi = n := by unfold near; omega
theorem near_out {n lo hi : Int} (h : lo ≤ hi) (h2 : ¬ (lo ≤ n ∧ n ≤ hi)) : near n lo hi ≠ n := by unfold near; omega
structure Mt where
  t : Int
  v : Int
  rt : Int
  rn : Int
  rs : Int
  b : Int
namespace Mt
def num (n : Int) : Bool := decide (0 ≤ n) && decide (n ≤ 1099511627776)
theorem num_iff (n : Int) : num n = true ↔ 0 ≤ n ∧ n ≤ 1099511627776 := by unfold num; simp
/-- may the record be -/
def recB (rt rn rs : Int) : Bool := num rt && num rn && (decide (0 ≤ rs) && decide (rs ≤ 3))
theorem recB_iff (rt rn rs : Int) : recB rt rn rs = true ↔ (0 ≤ rt ∧ rt ≤ 1099511627776) ∧ (0 ≤ rn ∧ rn ≤ 1099511627776) ∧ (0 ≤ rs ∧ rs ≤ 3) := by
  unfold recB; simp only [Bool.and_eq_true, num_iff, decide_eq_true_eq]; exact and_assoc
/-- may it be -/
def ok (m : Mt) : Bool := num m.t && num m.b && recB m.rt m.rn m.rs && (decide (-1 ≤ m.v) && decide (m.v ≤ 2))
theorem ok_iff (m : Mt) : m.ok = true ↔ (0 ≤ m.t ∧ m.t ≤ 1099511627776) ∧ (-1 ≤ m.v ∧ m.v ≤ 2) ∧ (0 ≤ m.rt ∧ m.rt ≤ 1099511627776) ∧ (0 ≤ m.rn ∧ m.rn ≤ 1099511627776) ∧ (0 ≤ m.rs ∧ m.rs ≤ 3) ∧ (0 ≤ m.b ∧ m.b ≤ 1099511627776) := by
  unfold ok; simp only [Bool.and_eq_true, num_iff, recB_iff, decide_eq_true_eq]
  constructor
  · rintro ⟨⟨⟨h1, h2⟩, h3, h4, h5⟩, h6⟩; exact ⟨h1, h6, h3, h4, h5, h2⟩
  · rintro ⟨h1, h6, h3, h4, h5, h2⟩; exact ⟨⟨⟨h1, h2⟩, h3, h4, h5⟩, h6⟩
/-- all are ints -/
structure In (m : Mt) : Prop where
  t : -9223372036854775808 ≤ m.t ∧ m.t ≤ 9223372036854775807
  v : -9223372036854775808 ≤ m.v ∧ m.v ≤ 9223372036854775807
  rt : -9223372036854775808 ≤ m.rt ∧ m.rt ≤ 9223372036854775807
  rn : -9223372036854775808 ≤ m.rn ∧ m.rn ≤ 9223372036854775807
  rs : -9223372036854775808 ≤ m.rs ∧ m.rs ≤ 9223372036854775807
  b : -9223372036854775808 ≤ m.b ∧ m.b ≤ 9223372036854775807
theorem In.of_ok {m : Mt} (h : m.ok = true) : m.In := by
  rw [ok_iff] at h
  obtain ⟨h1, h2, h3, h4, h5, h6⟩ := h
  constructor <;> omega
/-- why it may not be -/
def err (m : Mt) : Int := if m.ok = true then 0 else 2
theorem err_ok {m : Mt} (h : m.ok = true) : m.err = 0 := if_pos h
theorem err_no {m : Mt} (h : m.ok = false) : m.err = 2 := if_neg (by rw [h]; decide)
theorem err_zero {m : Mt} : m.err = 0 ↔ m.ok = true := by
  unfold err; split
  · simp [*]
  · rename_i h; simp [h]
def first : Mt := ⟨0, -1, 0, 0, 0, 0⟩
def zero : Mt := ⟨0, 0, 0, 0, 0, 0⟩
/-- its bytes, if it may be -/
def enc (m : Mt) : List UInt8 := dig m.t.toNat 6 ++ dig (m.v + 1).toNat 1 ++ dig m.rt.toNat 6 ++ dig m.rn.toNat 6 ++ dig m.rs.toNat 1 ++ dig m.b.toNat 6
theorem enc_length (m : Mt) : m.enc.length = 26 := by simp [enc, dig_length]
def bytes (m : Mt) : List UInt8 := if m.ok = true then m.enc else []
/-- the number of n bytes from o on -/
def at_ (l : List UInt8) (o n : Nat) : Nat := le ((l.drop o).take n)
/-- what any 26 bytes say -/
def dec (l : List UInt8) : Mt := ⟨at_ l 0 6, (at_ l 6 1 : Int) - 1, at_ l 7 6, at_ l 13 6, at_ l 19 1, at_ l 20 6⟩
/-- are they the bytes of a meta -/
def good (l : List UInt8) : Bool := decide (l.length = 26) && (dec l).ok
def readE (l : List UInt8) : Int := if good l = true then 0 else 4
def readM (l : List UInt8) : Mt := if good l = true then dec l else zero
end Mt
end Go.Proofs.YtebicjblplkdeaaGreatDoor
/-
  A meta's bytes lead back to it, and the bytes of a meta are those of what they say. Plain mathematics. Conditions: none.
-/
namespace Go.Proofs.YtebicjblplkdeaaGreatDoor
open Fix
namespace Mt
theorem at_mid (p q r : List UInt8) (o n : Nat) (ho : p.length = o) (hn : q.length = n) : at_ (p ++ (q ++ r)) o n = le q := by
  subst ho; subst hn
  unfold at_
  rw [List.drop_left, List.take_left]
theorem dec_enc (m : Mt) (h : m.ok = true) : dec m.enc = m := by
  rw [ok_iff] at h
  obtain ⟨h1, h2, h3, h4, h5, h6⟩ := h
  have e : m.enc = [] ++ (dig m.t.toNat 6 ++ (dig (m.v + 1).toNat 1 ++ (dig m.rt.toNat 6 ++ (dig m.rn.toNat 6 ++ (dig m.rs.toNat 1 ++ (dig m.b.toNat 6 ++ [])))))) := by simp [enc]
  have l6 : ∀ n, (dig n 6).length = 6 := fun n => dig_length n 6
  have l1 : ∀ n, (dig n 1).length = 1 := fun n => dig_length n 1
  have a0 : at_ m.enc 0 6 = m.t.toNat := by rw [e, at_mid _ _ _ 0 6 rfl (l6 _), le_dig_self _ _ (by omega)]
  have a1 : at_ m.enc 6 1 = (m.v + 1).toNat := by rw [e, ← List.append_assoc, at_mid _ _ _ 6 1 (by simp [l6]) (l1 _), le_dig_self _ _ (by omega)]
  have a2 : at_ m.enc 7 6 = m.rt.toNat := by rw [e, ← List.append_assoc, ← List.append_assoc, at_mid _ _ _ 7 6 (by simp [l6, l1]) (l6 _), le_dig_self _ _ (by omega)]
  have a3 : at_ m.enc 13 6 = m.rn.toNat := by rw [e, ← List.append_assoc, ← List.append_assoc, ← List.append_assoc, at_mid _ _ _ 13 6 (by simp [l6, l1]) (l6 _), le_dig_self _ _ (by omega)]
  have a4 : at_ m.enc 19 1 = m.rs.toNat := by rw [e, ← List.append_assoc, ← List.append_assoc, ← List.append_assoc, ← List.append_assoc, at_mid _ _ _ 19 1 (by simp [l6, l1]) (l1 _), le_dig_self _ _ (by omega)]
  have a5 : at_ m.enc 20 6 = m.b.toNat := by rw [e, ← List.append_assoc, ← List.append_assoc, ← List.append_assoc, ← List.append_assoc, ← List.append_assoc, at_mid _ _ _ 20 6 (by simp [l6, l1]) (l6 _), le_dig_self _ _ (by omega)]
  unfold dec
  rw [a0, a1, a2, a3, a4, a5]
  cases m
  simp only [Mt.mk.injEq]
  simp only at h1 h2 h3 h4 h5 h6
  omega
theorem good_enc (m : Mt) (h : m.ok = true) : good m.enc = true := by
  unfold good
  rw [dec_enc m h, enc_length, h]
  rfl
theorem read_enc (m : Mt) (h : m.ok = true) : readE m.enc = 0 ∧ readM m.enc = m := by
  unfold readE readM
  rw [if_pos (good_enc m h), if_pos (good_enc m h), dec_enc m h]
  exact ⟨rfl, rfl⟩
theorem dig_at (l : List UInt8) (o n : Nat) (h : o + n ≤ l.length) : dig (at_ l o n) n = (l.drop o).take n := by
  have e : ((l.drop o).take n).length = n := by simp; omega
  have := dig_le ((l.drop o).take n)
  rw [e] at this
  exact this
theorem split_at (l : List UInt8) (o n : Nat) : (l.drop o).take n ++ l.drop (o + n) = l.drop o := by
  rw [← List.drop_drop, List.take_append_drop]
theorem enc_dec (l : List UInt8) (h : l.length = 26) : (dec l).enc = l := by
  unfold enc dec
  simp only [Int.toNat_natCast, Int.sub_add_cancel]
  rw [dig_at l 0 6 (by omega), dig_at l 6 1 (by omega), dig_at l 7 6 (by omega), dig_at l 13 6 (by omega), dig_at l 19 1 (by omega), dig_at l 20 6 (by omega)]
  have e6 : (l.drop 20).take 6 = l.drop 20 := List.take_of_length_le (by simp; omega)
  rw [e6]
  simp only [List.append_assoc]
  rw [show l.drop 20 = l.drop (19 + 1) from rfl, split_at l 19 1, show l.drop 19 = l.drop (13 + 6) from rfl, split_at l 13 6, show l.drop 13 = l.drop (7 + 6) from rfl, split_at l 7 6, show l.drop 7 = l.drop (6 + 1) from rfl, split_at l 6 1, show l.drop 6 = l.drop (0 + 6) from rfl, split_at l 0 6]
  rfl
theorem good_iff (l : List UInt8) : good l = true ↔ l.length = 26 ∧ (dec l).ok = true := by simp [good]
theorem bytes_read (l : List UInt8) (h : readE l = 0) : (readM l).bytes = l ∧ (readM l).err = 0 := by
  have hg : good l = true := by
    unfold readE at h
    split at h
    · assumption
    · cases h
  have h2 := (good_iff l).1 hg
  unfold readM bytes
  rw [if_pos hg, if_pos h2.2, enc_dec l h2.1]
  exact ⟨rfl, err_ok h2.2⟩
end Mt
end Go.Proofs.YtebicjblplkdeaaGreatDoor
/-
  meta.within, nearest, Check, Newer, First, metaOf, fields: what each tells. Conditions: numbers are ints.
-/
namespace Go.Proofs.YtebicjblplkdeaaGreatDoor
open Go.RowKit Fix

/-- a meta's cells -/
def mtL (m : Mt) : List Value := [.int .i64 m.t, .int .i64 m.v, .int .i64 m.rt, .int .i64 m.rn, .int .i64 m.rs, .int .i64 m.b]
theorem mtL_one (m : Mt) : ∀ v ∈ mtL m, v.oneCell' = true := by
  intro v hv
  simp [mtL] at hv
  rcases hv with rfl | rfl | rfl | rfl | rfl | rfl <;> rfl
theorem metaTy : RowTy Tryz.prog 39 (mtL Mt.zero) := ⟨fun w => by kernel_rfl, by kernel_rfl, _, Tryz.underlying39, rfl⟩
theorem within_any (n lo hi : Int) (w : World) : Calls Tryz.prog 72 #[.int .i64 n, .int .i64 lo, .int .i64 hi] w fun e w' => e = .returned (.int .i64 (near n lo hi)) ∧ w = w' := by
  go_enter Tryz.func72, Tryz.ntmps72
  go_wp2
  all_goals (go_ret; refine ⟨?_, rfl⟩; unfold near; show Ending.returned (Value.int .i64 _) = _; congr 2; split at * <;> omega)
/-- is the record of Term and N a newer than that of b -/
def newB (a0 a1 b0 b1 : Int) : Bool := decide (b0 < a0) || (decide (a0 = b0) && decide (b1 < a1))
theorem newB_iff (a0 a1 b0 b1 : Int) : newB a0 a1 b0 b1 = true ↔ b0 < a0 ∨ (a0 = b0 ∧ b1 < a1) := by simp [newB]
theorem first_any (w : World) : Calls Tryz.prog 52 #[] w fun e w' => e = .returned (.agg (mtL Mt.first).toArray) ∧ Below w.heap.size w w' := by
  go_enter Tryz.func52, Tryz.ntmps52
  go_wp2
  exact bodyPost_ret (results_cell1 Tryz.results52 _ _ _ _ _ rfl (loadRow metaTy (xs := mtL Mt.first) (by rfl) (heap_alloc_new _ _))) rfl ⟨rfl, (Below.refl _ _).alloc (Nat.le_refl _) _⟩
def nearM (m : Mt) : Mt := ⟨near m.t 0 1099511627776, near m.v (-1) 2, near m.rt 0 1099511627776, near m.rn 0 1099511627776, near m.rs 0 3, near m.b 0 1099511627776⟩
theorem nearest_any (m : Mt) (w : World) : Calls Tryz.prog 48 #[.agg (mtL m).toArray] w fun e w' => e = .returned (.agg (mtL (nearM m)).toArray) ∧ Below w.heap.size w w' := by
  have S0 : ∀ C : Obj, Hid (((w.alloc (.cells (mtL m).toArray 39)).alloc C).drew.cell? ⟨w.heap.size, 0, none⟩ = some (.int .i64 m.t) ∧ ((w.alloc (.cells (mtL m).toArray 39)).alloc C).drew.cell? ⟨w.heap.size, 1, none⟩ = some (.int .i64 m.v) ∧ ((w.alloc (.cells (mtL m).toArray 39)).alloc C).drew.cell? ⟨w.heap.size, 2, none⟩ = some (.int .i64 m.rt) ∧ ((w.alloc (.cells (mtL m).toArray 39)).alloc C).drew.cell? ⟨w.heap.size, 3, none⟩ = some (.int .i64 m.rn) ∧ ((w.alloc (.cells (mtL m).toArray 39)).alloc C).drew.cell? ⟨w.heap.size, 4, none⟩ = some (.int .i64 m.rs) ∧ ((w.alloc (.cells (mtL m).toArray 39)).alloc C).drew.cell? ⟨w.heap.size, 5, none⟩ = some (.int .i64 m.b)) := fun C => by
    have b := (BlkR.new w (mtL m) 39).below (Below.refl (w.heap.size + 1) _ |>.alloc (by simp) C) (Nat.lt_succ_self _)
    exact Lib.hid ⟨b.cell rfl, b.cell rfl, b.cell rfl, b.cell rfl, b.cell rfl, b.cell rfl⟩
  unfold mtL at S0 ⊢
  go_enter Tryz.func48, Tryz.ntmps48
  go_wp2
  go_region_held3 (fun w' => w'.cell? ⟨w.heap.size, 0, none⟩ = some (.int .i64 m.t) ∧ w'.cell? ⟨w.heap.size, 1, none⟩ = some (.int .i64 m.v) ∧ w'.cell? ⟨w.heap.size, 2, none⟩ = some (.int .i64 m.rt) ∧ w'.cell? ⟨w.heap.size, 3, none⟩ = some (.int .i64 m.rn) ∧ w'.cell? ⟨w.heap.size, 4, none⟩ = some (.int .i64 m.rs) ∧ w'.cell? ⟨w.heap.size, 5, none⟩ = some (.int .i64 m.b)) (first | assumption | exact (S0 _).out) (first
    | (go_at_call 72; refine (within_any _ _ _ _).mono ?_; (rintro e w2 ⟨rfl, rfl⟩)))
  go_wp2
  have hb : BlkR 39 (((w.alloc (.cells (mtL m).toArray 39)).alloc (.cells (mtL (nearM m)).toArray 39)).drew) (w.heap.size + 1) (mtL (nearM m)) := by
    have := heap_alloc_new (w.alloc (.cells (mtL m).toArray 39)) (.cells (mtL (nearM m)).toArray 39)
    rw [World.size_alloc] at this
    exact this
  exact bodyPost_ret (results_cell1 Tryz.results48 _ _ _ _ _ rfl (loadRow metaTy (xs := mtL (nearM m)) (by rfl) hb)) rfl ⟨rfl, (((Below.refl _ _).alloc (Nat.le_refl _) _).alloc (by simp) _).drew⟩
theorem nearM_iff (m : Mt) : m = nearM m ↔ m.ok = true := by
  rw [Mt.ok_iff]
  unfold nearM
  constructor
  · intro h
    have h1 := congrArg Mt.t h; have h2 := congrArg Mt.v h; have h3 := congrArg Mt.rt h; have h4 := congrArg Mt.rn h; have h5 := congrArg Mt.rs h; have h6 := congrArg Mt.b h
    simp only [near] at h1 h2 h3 h4 h5 h6
    omega
  · rintro ⟨h1, h2, h3, h4, h5, h6⟩
    rw [near_in h1.1 h1.2, near_in h2.1 h2.2, near_in h3.1 h3.2, near_in h4.1 h4.2, near_in h5.1 h5.2, near_in h6.1 h6.2]
theorem mtL_inj {m n : Mt} : mtL m = mtL n ↔ m = n := by
  constructor
  · intro h
    simp [mtL] at h
    cases m; cases n
    simp_all
  · rintro rfl; rfl
theorem BlkR.go {E : TypeId} {w w' : World} {g : Nat} {xs : List Value} (h : BlkR E w g xs) (hb : Below w.heap.size w w') : BlkR E w' g xs := h.below hb h.lt
theorem boxM (m : Mt) (w : World) : Hid (∀ w', Below (w.heap.size + 1) (w.alloc (.cells (mtL m).toArray 39)) w' → w'.cell? ⟨w.heap.size, 0, none⟩ = some (.int .i64 m.t) ∧ w'.cell? ⟨w.heap.size, 1, none⟩ = some (.int .i64 m.v) ∧ w'.cell? ⟨w.heap.size, 2, none⟩ = some (.int .i64 m.rt) ∧ w'.cell? ⟨w.heap.size, 3, none⟩ = some (.int .i64 m.rn) ∧ w'.cell? ⟨w.heap.size, 4, none⟩ = some (.int .i64 m.rs) ∧ w'.cell? ⟨w.heap.size, 5, none⟩ = some (.int .i64 m.b)) := Lib.hid fun w' hb => by
  have b := (BlkR.new w (mtL m) 39).below hb (Nat.lt_succ_self _)
  exact ⟨b.cell rfl, b.cell rfl, b.cell rfl, b.cell rfl, b.cell rfl, b.cell rfl⟩
theorem below_box {w w2 : World} {o : Obj} (h : Below (w.heap.size + 1) (w.alloc o) w2) : Below w.heap.size w w2 := ((Below.refl _ _).alloc (Nat.le_refl _) o).trans (h.mono (Nat.le_succ _))
/-- are both the same -/
def eqB (m n : Mt) : Bool := decide (m.t = n.t) && (decide (m.v = n.v) && (decide (m.rt = n.rt) && (decide (m.rn = n.rn) && (decide (m.rs = n.rs) && decide (m.b = n.b)))))
theorem eqB_iff (m n : Mt) : eqB m n = true ↔ m = n := by
  cases m; cases n; simp [eqB]
theorem eqB_self (m : Mt) : eqB m m = true := (eqB_iff m m).2 rfl
theorem eqB_no {m n : Mt} (h : m ≠ n) : eqB m n = false := by
  rw [← Bool.not_eq_true, eqB_iff]; exact h
theorem eqM (m n : Mt) (w : World) : (Op.equalIn 10000 39 (.agg (mtL m).toArray) (.agg (mtL n).toArray)).run Tryz.prog w = .ok (eqB m n) w := by
  obtain ⟨q, hq⟩ : ∃ q, q = eqB m n := ⟨_, rfl⟩
  have HQ := Lib.hid hq
  rw [← hq]
  clear hq
  unfold mtL
  go_simp
  rw [HQ.out]
  unfold eqB
  by_cases h1 : m.t = n.t <;> by_cases h2 : m.v = n.v <;> by_cases h3 : m.rt = n.rt <;> by_cases h4 : m.rn = n.rn <;> by_cases h5 : m.rs = n.rs <;> by_cases h6 : m.b = n.b <;> simp [h1, h2, h3, h4, h5, h6]
theorem check_any (m : Mt) (w : World) : Calls Tryz.prog 19 #[.agg (mtL m).toArray] w fun e w' => e = .returned (.int .i64 m.err) ∧ Below w.heap.size w w' := by
  have z := fun w => nearest_any m w
  have S0 := boxM m w
  have E := fun w => eqM m (nearM m) w
  have hm : Hid (m.err = if eqB m (nearM m) = true then 0 else 2) := Lib.hid (by
    by_cases h : m = nearM m
    · rw [(eqB_iff _ _).2 h, Mt.err_ok ((nearM_iff m).1 h)]; rfl
    · rw [eqB_no h, Mt.err_no (by rw [← Bool.not_eq_true]; exact fun h2 => h ((nearM_iff m).2 h2))]; rfl)
  obtain ⟨n, hn⟩ : ∃ n, n = nearM m := ⟨_, rfl⟩
  obtain ⟨x, hx⟩ : ∃ x, x = m.err := ⟨_, rfl⟩
  rw [← hn] at z hm E
  rw [← hx] at hm ⊢
  clear hn hx
  obtain ⟨q, hq⟩ : ∃ q, q = eqB m n := ⟨_, rfl⟩
  rw [← hq] at hm E
  clear hq
  unfold mtL at S0 z E ⊢
  go_enter Tryz.func19, Tryz.ntmps19
  go_wp2
  go_region_held3 (fun w' => w'.cell? ⟨w.heap.size, 0, none⟩ = some (.int .i64 m.t) ∧ w'.cell? ⟨w.heap.size, 1, none⟩ = some (.int .i64 m.v) ∧ w'.cell? ⟨w.heap.size, 2, none⟩ = some (.int .i64 m.rt) ∧ w'.cell? ⟨w.heap.size, 3, none⟩ = some (.int .i64 m.rn) ∧ w'.cell? ⟨w.heap.size, 4, none⟩ = some (.int .i64 m.rs) ∧ w'.cell? ⟨w.heap.size, 5, none⟩ = some (.int .i64 m.b)) (first | assumption | exact S0.out _ (Below.refl _ _).drew | exact S0.out _ B2) (first
    | (go_at_call 48; refine (z _).mono ?_; (rintro e w2 ⟨rfl, B2⟩; have B2 : Below (w.heap.size + 1) (w.alloc (.cells (mtL m).toArray 39)) w2 := undrew (by simpa [mtL] using B2))))
  cases q with
  | true =>
    have hm := hm.out
    simp only [if_true] at hm
    subst hm
    go_wp2
    go_ret
    exact ⟨rfl, below_box B2⟩
  | false =>
    have hm := hm.out
    simp only [Bool.false_eq_true, if_false] at hm
    subst hm
    go_wp2
    go_ret
    exact ⟨rfl, below_box B2⟩
/-- the fields' cells -/
def fldL (a b c d e f : Int) : List Value := [.int .i64 a, .int .i64 6, .int .i64 b, .int .i64 1, .int .i64 c, .int .i64 6, .int .i64 d, .int .i64 6, .int .i64 e, .int .i64 1, .int .i64 f, .int .i64 6]
def fldZ : List Value := [.int .i64 0, .int .i64 0, .int .i64 0, .int .i64 0, .int .i64 0, .int .i64 0, .int .i64 0, .int .i64 0, .int .i64 0, .int .i64 0, .int .i64 0, .int .i64 0]
theorem fldL_one (a b c d e f : Int) : ∀ v ∈ fldL a b c d e f, v.oneCell' = true := by
  intro v hv
  simp only [fldL, List.mem_cons, List.not_mem_nil, or_false] at hv
  rcases hv with rfl | rfl | rfl | rfl | rfl | rfl | rfl | rfl | rfl | rfl | rfl | rfl <;> rfl
theorem fldTy : RowTy Tryz.prog 94 fldZ := ⟨fun w => by kernel_rfl, by kernel_rfl, _, Tryz.underlying94, rfl⟩
theorem fields_any (m : Mt) (hv : -9223372036854775808 ≤ m.v ∧ m.v < 9223372036854775807) (w : World) : Calls Tryz.prog 46 #[.agg (mtL m).toArray] w fun e w' => e = .returned (.agg (fldL m.t (m.v + 1) m.rt m.rn m.rs m.b).toArray) ∧ Below w.heap.size w w' := by
  have e1 : IntKind.i64.wrap (m.v + 1) = m.v + 1 := IntWalk.i64_in _ (by omega)
  unfold mtL
  go_enter Tryz.func46, Tryz.ntmps46
  go_wp2
  have hb : BlkR 94 (((w.alloc (.cells (mtL m).toArray 39)).alloc (.cells (fldL m.t (m.v + 1) m.rt m.rn m.rs m.b).toArray 94))) (w.heap.size + 1) (fldL m.t (m.v + 1) m.rt m.rn m.rs m.b) := by
    have := heap_alloc_new (w.alloc (.cells (mtL m).toArray 39)) (.cells (fldL m.t (m.v + 1) m.rt m.rn m.rs m.b).toArray 94)
    rw [World.size_alloc] at this
    exact this
  exact bodyPost_ret (results_cell1 Tryz.results46 _ _ _ _ _ rfl (loadRow fldTy (xs := fldL m.t (m.v + 1) m.rt m.rn m.rs m.b) (by rfl) hb)) rfl ⟨rfl, ((Below.refl _ _).alloc (Nat.le_refl _) _).alloc (by simp) _⟩
theorem metaOf_any (a b c d e f : Int) (hb : -9223372036854775808 < b ∧ b ≤ 9223372036854775807) (w : World) : Calls Tryz.prog 54 #[.agg (fldL a b c d e f).toArray] w fun x w' => x = .returned (.agg (mtL ⟨a, b - 1, c, d, e, f⟩).toArray) ∧ Below w.heap.size w w' := by
  have e1 : IntKind.i64.wrap (b - 1) = b - 1 := IntWalk.i64_in _ (by omega)
  unfold fldL
  go_enter Tryz.func54, Tryz.ntmps54
  go_wp2
  have hb : BlkR 39 (((w.alloc (.cells (fldL a b c d e f).toArray 94)).alloc (.cells (mtL ⟨a, b - 1, c, d, e, f⟩).toArray 39))) (w.heap.size + 1) (mtL ⟨a, b - 1, c, d, e, f⟩) := by
    have := heap_alloc_new (w.alloc (.cells (fldL a b c d e f).toArray 94)) (.cells (mtL ⟨a, b - 1, c, d, e, f⟩).toArray 39)
    rw [World.size_alloc] at this
    exact this
  exact bodyPost_ret (results_cell1 Tryz.results54 _ _ _ _ _ rfl (loadRow metaTy (xs := mtL ⟨a, b - 1, c, d, e, f⟩) (by rfl) hb)) rfl ⟨rfl, ((Below.refl _ _).alloc (Nat.le_refl _) _).alloc (by simp) _⟩
end Go.Proofs.YtebicjblplkdeaaGreatDoor
/-
  meta.Bytes: what it tells. Conditions: none.
-/
namespace Go.Proofs.YtebicjblplkdeaaGreatDoor
open Go.RowKit Fix

namespace Mt
/-- its first k fields, as bytes -/
def pre (m : Mt) : Nat → List UInt8
  | 0 => []
  | 1 => dig m.t.toNat 6
  | 2 => dig m.t.toNat 6 ++ dig (m.v + 1).toNat 1
  | 3 => dig m.t.toNat 6 ++ dig (m.v + 1).toNat 1 ++ dig m.rt.toNat 6
  | 4 => dig m.t.toNat 6 ++ dig (m.v + 1).toNat 1 ++ dig m.rt.toNat 6 ++ dig m.rn.toNat 6
  | 5 => dig m.t.toNat 6 ++ dig (m.v + 1).toNat 1 ++ dig m.rt.toNat 6 ++ dig m.rn.toNat 6 ++ dig m.rs.toNat 1
  | _ => m.enc
theorem pre_length (m : Mt) (k : Nat) : (m.pre k).length ≤ 26 := by
  match k with
  | 0 => simp [pre]
  | 1 => simp [pre, dig_length]
  | 2 => simp [pre, dig_length]
  | 3 => simp [pre, dig_length]
  | 4 => simp [pre, dig_length]
  | 5 => simp [pre, dig_length]
  | k + 6 => simp [pre, enc_length]
end Mt
theorem pow6 : (256 : Int) ^ 6 = 281474976710656 := by decide
theorem put6 (n : Int) (h : 0 ≤ n ∧ n ≤ 1099511627776) : putB n 6 = dig n.toNat 6 ∧ putE n 6 = 0 := putBE_good n 6 (by decide) ((fitsB_iff n 6).2 ⟨h.1, by rw [show (6 : Int).toNat = 6 from rfl, pow6]; omega⟩)
theorem put1 (n : Int) (h : 0 ≤ n ∧ n ≤ 3) : putB n 1 = dig n.toNat 1 ∧ putE n 1 = 0 := putBE_good n 1 (by decide) ((fitsB_iff n 1).2 ⟨h.1, by rw [show (1 : Int).toNat = 1 from rfl, show (256 : Int) ^ 1 = 256 from rfl]; omega⟩)
/-- a field, put -/
def FldPost (n : Int) (s : Nat) (w : World) (e : Ending) (w' : World) : Prop :=
  ∃ A c, e = .returned (.tuple #[.slice A s c, .int .i64 0]) ∧ s ≤ c ∧ BytesAt w' w'.heap.size A (dig n.toNat s) ∧ Below w.heap.size w w'
theorem fld6 (n : Int) (h : 0 ≤ n ∧ n ≤ 1099511627776) (w : World) : Calls Tryz.prog 47 #[.int .i64 n, .int .i64 6] w (FldPost n 6 w) := (put_any n 6 w (by omega)).mono fun e w' => by
  unfold PutPost FldPost
  rw [(put6 n h).1, (put6 n h).2, dig_length]
  exact id
theorem fld1 (n : Int) (h : 0 ≤ n ∧ n ≤ 3) (w : World) : Calls Tryz.prog 47 #[.int .i64 n, .int .i64 1] w (FldPost n 1 w) := (put_any n 1 w (by omega)).mono fun e w' => by
  unfold PutPost FldPost
  rw [(put1 n h).1, (put1 n h).2, dig_length]
  exact id
theorem idx_fld (a b c d e f : Int) : (∀ w : World, (Instr.index 94 (.agg #[.int .i64 a, .int .i64 6, .int .i64 b, .int .i64 1, .int .i64 c, .int .i64 6, .int .i64 d, .int .i64 6, .int .i64 e, .int .i64 1, .int .i64 f, .int .i64 6]) (.int .i64 0)).run Tryz.prog w = .ok (.agg #[.int .i64 a, .int .i64 6]) w) ∧ (∀ w : World, (Instr.index 94 (.agg #[.int .i64 a, .int .i64 6, .int .i64 b, .int .i64 1, .int .i64 c, .int .i64 6, .int .i64 d, .int .i64 6, .int .i64 e, .int .i64 1, .int .i64 f, .int .i64 6]) (.int .i64 1)).run Tryz.prog w = .ok (.agg #[.int .i64 b, .int .i64 1]) w) ∧ (∀ w : World, (Instr.index 94 (.agg #[.int .i64 a, .int .i64 6, .int .i64 b, .int .i64 1, .int .i64 c, .int .i64 6, .int .i64 d, .int .i64 6, .int .i64 e, .int .i64 1, .int .i64 f, .int .i64 6]) (.int .i64 2)).run Tryz.prog w = .ok (.agg #[.int .i64 c, .int .i64 6]) w) ∧ (∀ w : World, (Instr.index 94 (.agg #[.int .i64 a, .int .i64 6, .int .i64 b, .int .i64 1, .int .i64 c, .int .i64 6, .int .i64 d, .int .i64 6, .int .i64 e, .int .i64 1, .int .i64 f, .int .i64 6]) (.int .i64 3)).run Tryz.prog w = .ok (.agg #[.int .i64 d, .int .i64 6]) w) ∧ (∀ w : World, (Instr.index 94 (.agg #[.int .i64 a, .int .i64 6, .int .i64 b, .int .i64 1, .int .i64 c, .int .i64 6, .int .i64 d, .int .i64 6, .int .i64 e, .int .i64 1, .int .i64 f, .int .i64 6]) (.int .i64 4)).run Tryz.prog w = .ok (.agg #[.int .i64 e, .int .i64 1]) w) ∧ (∀ w : World, (Instr.index 94 (.agg #[.int .i64 a, .int .i64 6, .int .i64 b, .int .i64 1, .int .i64 c, .int .i64 6, .int .i64 d, .int .i64 6, .int .i64 e, .int .i64 1, .int .i64 f, .int .i64 6]) (.int .i64 5)).run Tryz.prog w = .ok (.agg #[.int .i64 f, .int .i64 6]) w) := ⟨fun _ => by kernel_rfl, fun _ => by kernel_rfl, fun _ => by kernel_rfl, fun _ => by kernel_rfl, fun _ => by kernel_rfl, fun _ => by kernel_rfl⟩
/-- what Bytes tells -/
def MtBs (m : Mt) (w : World) (e : Ending) (w' : World) : Prop :=
  ∃ A c, e = .returned (.tuple #[.slice A m.bytes.length c, .int .i64 m.err]) ∧ m.bytes.length ≤ c ∧ OwnZ w' w.heap.size (.slice A m.bytes.length c) m.bytes ∧ Below w.heap.size w w'
theorem metaBytes_any (m : Mt) (w : World) : Calls Tryz.prog 17 #[.agg (mtL m).toArray] w (MtBs m w) := by
  have zc := fun w => check_any m w
  have S0 := boxM m w
  unfold MtBs
  cases hk : m.ok with
  | false =>
    rw [Mt.err_no hk] at zc ⊢
    rw [show m.bytes = [] by unfold Mt.bytes; rw [hk]; rfl]
    clear hk
    unfold mtL at zc S0 ⊢
    go_enter Tryz.func17, Tryz.ntmps17
    go_wp2_with (first
      | (go_at_call 19; refine (zc _).mono ?_; (rintro e w2 ⟨rfl, B2⟩)))
    go_ret2
    exact ⟨none, 0, rfl, Nat.zero_le _, OwnZ.nil_, ((Below.refl _ _).alloc (Nat.le_refl _) _).trans (B2.mono (by simp))⟩
  | true =>
    have hok := (Mt.ok_iff m).1 hk
    obtain ⟨h1, h2, h3, h4, h5, h6⟩ := hok
    have zf := fun w => fields_any m (by omega) w
    rw [Mt.err_ok hk] at zc ⊢
    rw [show m.bytes = m.enc by unfold Mt.bytes; rw [hk]; rfl]
    have p0 := fun w => fld6 m.t h1 w
    have p1 := fun w => fld1 (m.v + 1) (by omega) w
    have p2 := fun w => fld6 m.rt h3 w
    have p3 := fun w => fld6 m.rn h4 w
    have p4 := fun w => fld1 m.rs h5 w
    have p5 := fun w => fld6 m.b h6 w
    clear hk h1 h2 h3 h4 h5 h6
    unfold mtL fldL at zf
    unfold mtL at zc S0 ⊢
    go_enter Tryz.func17, Tryz.ntmps17
    go_wp2_with (first
      | (go_at_call 19; refine (zc _).mono ?_; (rintro e w2 ⟨rfl, B2⟩; have S2 := S0.out w2 (by simpa [mtL] using B2)))
      | (go_at_call 46; refine (zf _).mono ?_; (rintro e w3 ⟨rfl, B3⟩)))
    have B03 : Below w.heap.size w w3 := (((Below.refl _ _).alloc (Nat.le_refl _) (.cells (mtL m).toArray 39)).trans (B2.mono (by simp))).trans (B3.mono (by have := B2.size; simp at this; omega))
    clear zc zf S0 S2 B2 B3
    obtain ⟨x0, x1, x2, x3, x4, x5⟩ := idx_fld m.t (m.v + 1) m.rt m.rn m.rs m.b
    go_loopw [5, 17] (fun v i wr => ∃ k : Nat, k ≤ 6 ∧ i = .int .i64 (k : Int) ∧ OwnZ wr w.heap.size v (m.pre k) ∧ Below w.heap.size w wr) (fun _ i _ => 6 - (intOf i).toNat)
    case atStart => exact ⟨0, Nat.zero_le _, rfl, OwnZ.nil_, B03⟩
    case round =>
    obtain ⟨k, hk, rfl, hown, hbel⟩ := hrel
    rcases k with _ | _ | _ | _ | _ | _ | _ | k
    · have hl := m.pre_length 0
      have hd := dig_length m.t.toNat 6
      go_wp2_with (first
        | (go_at_call 47; refine (p0 _).mono ?_; (rintro e w5 ⟨A5, c5, rfl, hc5, r5, B5⟩; have ho5 := (hown.alloc (.cells #[.int .i64 m.t, .int .i64 6] 93)).below B5; have B05 := (hbel.alloc hbel.size (.cells #[.int .i64 m.t, .int .i64 6] 93)).trans (B5.mono (by have := hbel.size; simp; omega))))
        | (at_builtin; refine wpList_appendZ rfl (.tmp 28) (.tmp 29) 32 rfl rfl w.heap.size _ (m.pre 0) rfl ho5 A5 (dig m.t.toNat 6) 6 c5 w5.heap.size rfl hd r5 (by omega) B05.size ?_; (intro v' w' ho hg; have B06 := B05.grown hg B05.size (fun j hj => (ho5.lt j hj).1))))
      go_roundw
      case rel => exact ⟨1, by omega, rfl, ho, B06⟩
      case measure => simp [intOf]
    · have hl := m.pre_length 1
      have hd := dig_length (m.v + 1).toNat 1
      go_wp2_with (first
        | (go_at_call 47; refine (p1 _).mono ?_; (rintro e w5 ⟨A5, c5, rfl, hc5, r5, B5⟩; have ho5 := (hown.alloc (.cells #[.int .i64 (m.v + 1), .int .i64 1] 93)).below B5; have B05 := (hbel.alloc hbel.size (.cells #[.int .i64 (m.v + 1), .int .i64 1] 93)).trans (B5.mono (by have := hbel.size; simp; omega))))
        | (at_builtin; refine wpList_appendZ rfl (.tmp 28) (.tmp 29) 32 rfl rfl w.heap.size _ (m.pre 1) rfl ho5 A5 (dig (m.v + 1).toNat 1) 1 c5 w5.heap.size rfl hd r5 (by omega) B05.size ?_; (intro v' w' ho hg; have B06 := B05.grown hg B05.size (fun j hj => (ho5.lt j hj).1))))
      go_roundw
      case rel => exact ⟨2, by omega, rfl, ho, B06⟩
      case measure => simp [intOf]
    · have hl := m.pre_length 2
      have hd := dig_length m.rt.toNat 6
      go_wp2_with (first
        | (go_at_call 47; refine (p2 _).mono ?_; (rintro e w5 ⟨A5, c5, rfl, hc5, r5, B5⟩; have ho5 := (hown.alloc (.cells #[.int .i64 m.rt, .int .i64 6] 93)).below B5; have B05 := (hbel.alloc hbel.size (.cells #[.int .i64 m.rt, .int .i64 6] 93)).trans (B5.mono (by have := hbel.size; simp; omega))))
        | (at_builtin; refine wpList_appendZ rfl (.tmp 28) (.tmp 29) 32 rfl rfl w.heap.size _ (m.pre 2) rfl ho5 A5 (dig m.rt.toNat 6) 6 c5 w5.heap.size rfl hd r5 (by omega) B05.size ?_; (intro v' w' ho hg; have B06 := B05.grown hg B05.size (fun j hj => (ho5.lt j hj).1))))
      go_roundw
      case rel => exact ⟨3, by omega, rfl, ho, B06⟩
      case measure => simp [intOf]
    · have hl := m.pre_length 3
      have hd := dig_length m.rn.toNat 6
      go_wp2_with (first
        | (go_at_call 47; refine (p3 _).mono ?_; (rintro e w5 ⟨A5, c5, rfl, hc5, r5, B5⟩; have ho5 := (hown.alloc (.cells #[.int .i64 m.rn, .int .i64 6] 93)).below B5; have B05 := (hbel.alloc hbel.size (.cells #[.int .i64 m.rn, .int .i64 6] 93)).trans (B5.mono (by have := hbel.size; simp; omega))))
        | (at_builtin; refine wpList_appendZ rfl (.tmp 28) (.tmp 29) 32 rfl rfl w.heap.size _ (m.pre 3) rfl ho5 A5 (dig m.rn.toNat 6) 6 c5 w5.heap.size rfl hd r5 (by omega) B05.size ?_; (intro v' w' ho hg; have B06 := B05.grown hg B05.size (fun j hj => (ho5.lt j hj).1))))
      go_roundw
      case rel => exact ⟨4, by omega, rfl, ho, B06⟩
      case measure => simp [intOf]
    · have hl := m.pre_length 4
      have hd := dig_length m.rs.toNat 1
      go_wp2_with (first
        | (go_at_call 47; refine (p4 _).mono ?_; (rintro e w5 ⟨A5, c5, rfl, hc5, r5, B5⟩; have ho5 := (hown.alloc (.cells #[.int .i64 m.rs, .int .i64 1] 93)).below B5; have B05 := (hbel.alloc hbel.size (.cells #[.int .i64 m.rs, .int .i64 1] 93)).trans (B5.mono (by have := hbel.size; simp; omega))))
        | (at_builtin; refine wpList_appendZ rfl (.tmp 28) (.tmp 29) 32 rfl rfl w.heap.size _ (m.pre 4) rfl ho5 A5 (dig m.rs.toNat 1) 1 c5 w5.heap.size rfl hd r5 (by omega) B05.size ?_; (intro v' w' ho hg; have B06 := B05.grown hg B05.size (fun j hj => (ho5.lt j hj).1))))
      go_roundw
      case rel => exact ⟨5, by omega, rfl, ho, B06⟩
      case measure => simp [intOf]
    · have hl := m.pre_length 5
      have hd := dig_length m.b.toNat 6
      go_wp2_with (first
        | (go_at_call 47; refine (p5 _).mono ?_; (rintro e w5 ⟨A5, c5, rfl, hc5, r5, B5⟩; have ho5 := (hown.alloc (.cells #[.int .i64 m.b, .int .i64 6] 93)).below B5; have B05 := (hbel.alloc hbel.size (.cells #[.int .i64 m.b, .int .i64 6] 93)).trans (B5.mono (by have := hbel.size; simp; omega))))
        | (at_builtin; refine wpList_appendZ rfl (.tmp 28) (.tmp 29) 32 rfl rfl w.heap.size _ (m.pre 5) rfl ho5 A5 (dig m.b.toNat 6) 6 c5 w5.heap.size rfl hd r5 (by omega) B05.size ?_; (intro v' w' ho hg; have B06 := B05.grown hg B05.size (fun j hj => (ho5.lt j hj).1))))
      go_roundw
      case rel => exact ⟨6, by omega, rfl, ho, B06⟩
      case measure => simp [intOf]
    · have hl := m.enc_length
      obtain ⟨A, c, rfl, hlc⟩ := hown.form
      rw [show (m.pre (0 + 1 + 1 + 1 + 1 + 1 + 1)) = m.enc from rfl] at hlc hown ⊢
      go_wp2
      go_ret2
      exact ⟨A, c, rfl, hlc, hown, hbel⟩
    · omega
end Go.Proofs.YtebicjblplkdeaaGreatDoor
/-
  meta.Read: what it tells. Conditions: the bytes can be read.
-/
namespace Go.Proofs.YtebicjblplkdeaaGreatDoor
open Go.RowKit Fix

theorem fget_yes (A : Option Addr) (l : List UInt8) (c : Nat) (oi si : Int) (o s e : Nat) (ho : oi = (o : Int)) (hs : si = (s : Int)) (he : e = o + s) (h1 : 1 ≤ s) (h7 : s ≤ 7) (h : e ≤ l.length) (w : World) (hlc : l.length ≤ c) (hc : l.length ≤ 140737488351232) (hr : BytesAt w w.heap.size A l) :
    Calls Tryz.prog 53 #[.slice A l.length c, .int .i64 oi, .int .i64 si] w fun x w' => x = .returned (.tuple #[.int .i64 (Mt.at_ l o s : Int), .int .i64 (e : Int), .agg #[.int .i64 0, .int .i64 0]]) ∧ Below w.heap.size w w' := by
  have z := get_any A l c oi si w hlc hc hr
  subst ho; subst hs; subst he
  have hz : isz (s : Int) = true := (isz_iff _).2 ⟨by omega, by omega⟩
  have hR : inR l.length (o : Int) = true := by simp [inR]; omega
  have hI : inN l.length (o : Int) s = true := by simp [inN, inR]; omega
  have e1 : getsN l (o : Int) (s : Int) = Mt.at_ l o s := by simp [getsN, hz, getN, hI, Mt.at_]
  have e2 : getsP l.length (o : Int) (s : Int) = ((o + s : Nat) : Int) := by simp [getsP, hz, getP, hI]
  have e3 : getsE l.length (o : Int) (s : Int) = 0 := by simp [getsE, hz, getE, hI, hR]
  have e4 : getsA l.length (o : Int) (s : Int) = 0 := by simp [getsA, hz, getA, hI, hR]
  rw [e1, e2, e3, e4] at z
  exact z
theorem fget_no (A : Option Addr) (l : List UInt8) (c : Nat) (oi si : Int) (o s : Nat) (ho : oi = (o : Int)) (hs : si = (s : Int)) (h1 : 1 ≤ s) (h7 : s ≤ 7) (h : ¬ o + s ≤ l.length) (h2 : o ≤ l.length) (hlc : l.length ≤ c) (hc : l.length ≤ 140737488351232) :
    ∃ a : Int, ∀ w, BytesAt w w.heap.size A l → Calls Tryz.prog 53 #[.slice A l.length c, .int .i64 oi, .int .i64 si] w fun x w' => x = .returned (.tuple #[.int .i64 0, .int .i64 0, .agg #[.int .i64 4, .int .i64 a]]) ∧ Below w.heap.size w w' := by
  refine ⟨getsA l.length oi si, fun w hr => ?_⟩
  have z := get_any A l c oi si w hlc hc hr
  subst ho; subst hs
  have hz : isz (s : Int) = true := (isz_iff _).2 ⟨by omega, by omega⟩
  have hR : inR l.length (o : Int) = true := by simp [inR]; omega
  have hI : inN l.length (o : Int) s = false := by rw [← Bool.not_eq_true]; simp [inN, inR]; omega
  have e1 : getsN l (o : Int) (s : Int) = 0 := by simp [getsN, hz, getN, hI]
  have e2 : getsP l.length (o : Int) (s : Int) = 0 := by simp [getsP, hz, getP, hI]
  have e3 : getsE l.length (o : Int) (s : Int) = 4 := by simp [getsE, hz, getE, hI, hR]
  rw [e1, e2, e3] at z
  exact z
theorem idx_fldF (a b c d e f : Int) : (∀ w : World, (Instr.index 94 (.agg (fldL a b c d e f).toArray) (.int .i64 0)).run Tryz.prog w = .ok (.agg #[.int .i64 a, .int .i64 6]) w) ∧ (∀ w : World, (Instr.index 94 (.agg (fldL a b c d e f).toArray) (.int .i64 1)).run Tryz.prog w = .ok (.agg #[.int .i64 b, .int .i64 1]) w) ∧ (∀ w : World, (Instr.index 94 (.agg (fldL a b c d e f).toArray) (.int .i64 2)).run Tryz.prog w = .ok (.agg #[.int .i64 c, .int .i64 6]) w) ∧ (∀ w : World, (Instr.index 94 (.agg (fldL a b c d e f).toArray) (.int .i64 3)).run Tryz.prog w = .ok (.agg #[.int .i64 d, .int .i64 6]) w) ∧ (∀ w : World, (Instr.index 94 (.agg (fldL a b c d e f).toArray) (.int .i64 4)).run Tryz.prog w = .ok (.agg #[.int .i64 e, .int .i64 1]) w) ∧ (∀ w : World, (Instr.index 94 (.agg (fldL a b c d e f).toArray) (.int .i64 5)).run Tryz.prog w = .ok (.agg #[.int .i64 f, .int .i64 6]) w) := idx_fld a b c d e f
/-- where field k begins -/
def rdP : Nat → Nat
  | 0 => 0
  | 1 => 6
  | 2 => 7
  | 3 => 13
  | 4 => 19
  | 5 => 20
  | _ => 26
/-- the fields, k of them read -/
def rdL (l : List UInt8) : Nat → List Value
  | 0 => fldL 0 0 0 0 0 0
  | 1 => fldL (Mt.at_ l 0 6) 0 0 0 0 0
  | 2 => fldL (Mt.at_ l 0 6) (Mt.at_ l 6 1) 0 0 0 0
  | 3 => fldL (Mt.at_ l 0 6) (Mt.at_ l 6 1) (Mt.at_ l 7 6) 0 0 0
  | 4 => fldL (Mt.at_ l 0 6) (Mt.at_ l 6 1) (Mt.at_ l 7 6) (Mt.at_ l 13 6) 0 0
  | 5 => fldL (Mt.at_ l 0 6) (Mt.at_ l 6 1) (Mt.at_ l 7 6) (Mt.at_ l 13 6) (Mt.at_ l 19 1) 0
  | _ => fldL (Mt.at_ l 0 6) (Mt.at_ l 6 1) (Mt.at_ l 7 6) (Mt.at_ l 13 6) (Mt.at_ l 19 1) (Mt.at_ l 20 6)
theorem rd_short {l : List UInt8} (h : l.length ≠ 26) : Mt.readE l = 4 ∧ Mt.readM l = Mt.zero := by
  have : Mt.good l = false := by simp [Mt.good, h]
  simp [Mt.readE, Mt.readM, this]
theorem at_lt (l : List UInt8) (o s : Nat) : Mt.at_ l o s < 256 ^ s := by
  have h := le_lt ((l.drop o).take s)
  exact Nat.lt_of_lt_of_le h (Nat.pow_le_pow_right (by decide) (by simp; omega))
theorem mt_cells {E : TypeId} {w : World} {g : Nat} {m : Mt} (b : BlkR E w g (mtL m)) : w.cell? ⟨g, 0, none⟩ = some (.int .i64 m.t) ∧ w.cell? ⟨g, 1, none⟩ = some (.int .i64 m.v) ∧ w.cell? ⟨g, 2, none⟩ = some (.int .i64 m.rt) ∧ w.cell? ⟨g, 3, none⟩ = some (.int .i64 m.rn) ∧ w.cell? ⟨g, 4, none⟩ = some (.int .i64 m.rs) ∧ w.cell? ⟨g, 5, none⟩ = some (.int .i64 m.b) := ⟨b.cell rfl, b.cell rfl, b.cell rfl, b.cell rfl, b.cell rfl, b.cell rfl⟩
/-- what Read tells -/
def MtRd (l : List UInt8) (w : World) (e : Ending) (w' : World) : Prop :=
  e = .returned (.tuple #[.agg (mtL (Mt.readM l)).toArray, .int .i64 (Mt.readE l)]) ∧ Below w.heap.size w w'
set_option maxRecDepth 100000 in
set_option maxHeartbeats 2000000 in
theorem metaRead_any (A : Option Addr) (l : List UInt8) (c : Nat) (w : World) (hlc : l.length ≤ c) (hcm : l.length ≤ 140737488351232) (hr : BytesAt w w.heap.size A l) :
    Calls Tryz.prog 23 #[.slice A l.length c] w (MtRd l w) := by
  have zf := fun w => fields_any Mt.first (by decide) w
  have z1 := fun w => first_any w
  unfold MtRd
  rw [show fldL Mt.first.t (Mt.first.v + 1) Mt.first.rt Mt.first.rn Mt.first.rs Mt.first.b = fldL 0 0 0 0 0 0 from rfl] at zf
  go_enter Tryz.func23, Tryz.ntmps23
  go_wp2_with (first
    | ((with_reducible refine atWorld w ?_); refine wpList_allocRow (w := w) metaTy rfl rfl ?_; (intro w0 b0 B0 s0; have b0 := Lib.hid b0))
    | (go_at_call 52; refine (z1 w0).mono ?_; (rintro e w1 ⟨rfl, B1⟩))
    | (go_at_call 46; refine (zf w1).mono ?_; (rintro e w2 ⟨rfl, B2⟩))
    | ((with_reducible refine atWorld w2 ?_); refine wpList_allocRow (w := w2) fldTy rfl rfl ?_; (intro w3 b3 B3 s3; have b3 := Lib.hid b3))
    | ((with_reducible refine atWorld w3 ?_); refine wpList_storeRow (w := w3) fldTy rfl (.tmp 4) (.tmp 13) rfl w2.heap.size (fldL 0 0 0 0 0 0) fldZ rfl rfl rfl rfl (fldL_one _ _ _ _ _ _) b3.out ?_; (intro w4 b4 B4 s4 k4; have b4 := Lib.hid b4))
    | ((with_reducible refine atWorld w4 ?_); refine wpList_loadRow (w := w4) fldTy rfl (.tmp 4) rfl w2.heap.size 0 (fldL 0 0 0 0 0 0) rfl rfl (rangeOf b4.out) ?_))

  have B04 : Below w.heap.size w w4 := ((((B0.trans (B1.mono B0.size)).trans (B2.mono (Nat.le_trans B0.size B1.size))).trans (B3.mono (Nat.le_trans B0.size (Nat.le_trans B1.size B2.size)))).trans (B4.mono (Nat.le_trans B0.size (Nat.le_trans B1.size B2.size))))
  have hg : w.heap.size < w2.heap.size := Nat.lt_of_lt_of_le (by omega : w.heap.size < w0.heap.size) (Nat.le_trans B1.size B2.size)
  have bz4 : BlkR 39 w4 w.heap.size (mtL Mt.zero) := (((b0.out.go B1).go B2).go B3).below B4 hg
  have b4 := b4.out
  obtain ⟨g, hge⟩ : ∃ g, g = w2.heap.size := ⟨_, rfl⟩
  rw [← hge] at b4 hg ⊢
  clear zf z1 b0 b3 B0 B1 B2 B3 B4 s0 s3 s4 k4 hge
  go_loopw [5, 15] (fun a i wr => ∃ k : Nat, k ≤ 6 ∧ i = .int .i64 (k : Int) ∧ a = .int .i64 (rdP k : Int) ∧ rdP k ≤ l.length ∧ BlkR 94 wr g (rdL l k) ∧ BlkR 39 wr w.heap.size (mtL Mt.zero) ∧ Below w.heap.size w wr) (fun _ i _ => 6 - (intOf i).toNat)
  case atStart => exact ⟨0, Nat.zero_le _, rfl, rfl, Nat.zero_le _, b4, bz4, B04⟩
  case round =>
  obtain ⟨k, hk, rfl, rfl, hle, hblk, hz, hbel⟩ := hrel
  obtain ⟨x0, x1, x2, x3, x4, x5⟩ := idx_fldF 0 0 0 0 0 0
  clear b4 bz4 B04
  rcases k with _ | _ | _ | _ | _ | _ | _ | k
  · have hp : (rdP (0) : Int) = 0 := rfl
    have hpn : rdP (0) = 0 := rfl
    rw [hp]
    rw [hpn] at hle
    rw [show rdL l (0) = fldL 0 0 0 0 0 0 from rfl] at hblk
    have F7 : Below wr.heap.size wr (wr.alloc (.cells #[.int .i64 0, .int .i64 6] 93)) := (Below.refl wr.heap.size wr).alloc (Nat.le_refl _) _
    have hb7 := hblk.go F7
    have hz7 := hz.go F7
    have hr7 := ((hr.below hbel).more hbel.size).stepA (.cells #[.int .i64 0, .int .i64 6] 93)
    have B7 := hbel.alloc hbel.size (.cells #[.int .i64 0, .int .i64 6] 93)
    clear F7 hblk hz hbel hp hpn
    by_cases hfit : 6 ≤ l.length
    · have zg := fun w hr => fget_yes A l c 0 6 0 6 6 rfl rfl rfl (by decide) (by decide) hfit w hlc hcm hr
      go_wp2_with (first
        | (go_at_call 53; refine (zg _ hr7).mono ?_; (rintro e w5 ⟨rfl, B5⟩; have b8 := BlkR.go (BlkR.go hb7 B5) ((Below.refl _ _).alloc (Nat.le_refl _) (.cells #[.int .i64 0, .int .i64 0] 102)); have y := b8.cell (k := 0) rfl; have yf := b8.frozen 0; have z8 := BlkR.go (BlkR.go hz7 B5) ((Below.refl _ _).alloc (Nat.le_refl _) (.cells #[.int .i64 0, .int .i64 0] 102)); have B8 := (B7.trans (B5.mono B7.size)).alloc (Nat.le_trans B7.size B5.size) (.cells #[.int .i64 0, .int .i64 0] 102))))
      go_roundw
      case rel => exact ⟨1, by omega, rfl, rfl, hfit, b8.set_ 0 (.int .i64 (Mt.at_ l 0 6)), (Below.heap_setCell _ ⟨g, 0, none⟩ _ _ (Nat.ne_of_lt hg)).trans z8, B8.setCell (Nat.le_of_lt hg) _⟩
      case measure => simp [intOf]
    · obtain ⟨a, zg⟩ := fget_no A l c 0 6 0 6 rfl rfl (by decide) (by decide) hfit hle hlc hcm
      obtain ⟨hE, hM⟩ := rd_short (l := l) (by omega)
      go_wp2_with (first
        | (go_at_call 53; refine (zg _ hr7).mono ?_; (rintro e w5 ⟨rfl, B5⟩; have z8 := BlkR.go (BlkR.go hz7 B5) ((Below.refl _ _).alloc (Nat.le_refl _) (.cells #[.int .i64 4, .int .i64 a] 102)); have B8 := (B7.trans (B5.mono B7.size)).alloc (Nat.le_trans B7.size B5.size) (.cells #[.int .i64 4, .int .i64 a] 102)))
        | ((with_reducible refine atWorld (w5.alloc (.cells #[.int .i64 4, .int .i64 a] 102)) ?_); refine wpList_storeRow (w := w5.alloc (.cells #[.int .i64 4, .int .i64 a] 102)) metaTy rfl (.tmp 2) (.tmp 31) rfl w.heap.size (mtL Mt.zero) (mtL Mt.zero) rfl rfl rfl rfl (mtL_one _) z8 ?_; (intro w9 b9 B9 s9 k9)))
      refine bodyPost_ret (w := w9) (results_cell2 Tryz.results23 _ _ _ _ _ _ rfl rfl (loadRow metaTy (by rfl) b9)) rfl ⟨?_, B8.trans B9⟩
      rw [hE, hM]; rfl
  · have hp : (rdP (0 + 1) : Int) = 6 := rfl
    have hpn : rdP (0 + 1) = 6 := rfl
    rw [hp]
    rw [hpn] at hle
    rw [show rdL l (0 + 1) = fldL (Mt.at_ l 0 6) 0 0 0 0 0 from rfl] at hblk
    have F7 : Below wr.heap.size wr (wr.alloc (.cells #[.int .i64 0, .int .i64 1] 93)) := (Below.refl wr.heap.size wr).alloc (Nat.le_refl _) _
    have hb7 := hblk.go F7
    have hz7 := hz.go F7
    have hr7 := ((hr.below hbel).more hbel.size).stepA (.cells #[.int .i64 0, .int .i64 1] 93)
    have B7 := hbel.alloc hbel.size (.cells #[.int .i64 0, .int .i64 1] 93)
    clear F7 hblk hz hbel hp hpn
    by_cases hfit : 7 ≤ l.length
    · have zg := fun w hr => fget_yes A l c 6 1 6 1 7 rfl rfl rfl (by decide) (by decide) hfit w hlc hcm hr
      go_wp2_with (first
        | (go_at_call 53; refine (zg _ hr7).mono ?_; (rintro e w5 ⟨rfl, B5⟩; have b8 := BlkR.go (BlkR.go hb7 B5) ((Below.refl _ _).alloc (Nat.le_refl _) (.cells #[.int .i64 0, .int .i64 0] 102)); have y := b8.cell (k := 2) rfl; have yf := b8.frozen 2; have z8 := BlkR.go (BlkR.go hz7 B5) ((Below.refl _ _).alloc (Nat.le_refl _) (.cells #[.int .i64 0, .int .i64 0] 102)); have B8 := (B7.trans (B5.mono B7.size)).alloc (Nat.le_trans B7.size B5.size) (.cells #[.int .i64 0, .int .i64 0] 102))))
      go_roundw
      case rel => exact ⟨2, by omega, rfl, rfl, hfit, b8.set_ 2 (.int .i64 (Mt.at_ l 6 1)), (Below.heap_setCell _ ⟨g, 2, none⟩ _ _ (Nat.ne_of_lt hg)).trans z8, B8.setCell (Nat.le_of_lt hg) _⟩
      case measure => simp [intOf]
    · obtain ⟨a, zg⟩ := fget_no A l c 6 1 6 1 rfl rfl (by decide) (by decide) hfit hle hlc hcm
      obtain ⟨hE, hM⟩ := rd_short (l := l) (by omega)
      go_wp2_with (first
        | (go_at_call 53; refine (zg _ hr7).mono ?_; (rintro e w5 ⟨rfl, B5⟩; have z8 := BlkR.go (BlkR.go hz7 B5) ((Below.refl _ _).alloc (Nat.le_refl _) (.cells #[.int .i64 4, .int .i64 a] 102)); have B8 := (B7.trans (B5.mono B7.size)).alloc (Nat.le_trans B7.size B5.size) (.cells #[.int .i64 4, .int .i64 a] 102)))
        | ((with_reducible refine atWorld (w5.alloc (.cells #[.int .i64 4, .int .i64 a] 102)) ?_); refine wpList_storeRow (w := w5.alloc (.cells #[.int .i64 4, .int .i64 a] 102)) metaTy rfl (.tmp 2) (.tmp 31) rfl w.heap.size (mtL Mt.zero) (mtL Mt.zero) rfl rfl rfl rfl (mtL_one _) z8 ?_; (intro w9 b9 B9 s9 k9)))
      refine bodyPost_ret (w := w9) (results_cell2 Tryz.results23 _ _ _ _ _ _ rfl rfl (loadRow metaTy (by rfl) b9)) rfl ⟨?_, B8.trans B9⟩
      rw [hE, hM]; rfl
  · have hp : (rdP (0 + 1 + 1) : Int) = 7 := rfl
    have hpn : rdP (0 + 1 + 1) = 7 := rfl
    rw [hp]
    rw [hpn] at hle
    rw [show rdL l (0 + 1 + 1) = fldL (Mt.at_ l 0 6) (Mt.at_ l 6 1) 0 0 0 0 from rfl] at hblk
    have F7 : Below wr.heap.size wr (wr.alloc (.cells #[.int .i64 0, .int .i64 6] 93)) := (Below.refl wr.heap.size wr).alloc (Nat.le_refl _) _
    have hb7 := hblk.go F7
    have hz7 := hz.go F7
    have hr7 := ((hr.below hbel).more hbel.size).stepA (.cells #[.int .i64 0, .int .i64 6] 93)
    have B7 := hbel.alloc hbel.size (.cells #[.int .i64 0, .int .i64 6] 93)
    clear F7 hblk hz hbel hp hpn
    by_cases hfit : 13 ≤ l.length
    · have zg := fun w hr => fget_yes A l c 7 6 7 6 13 rfl rfl rfl (by decide) (by decide) hfit w hlc hcm hr
      go_wp2_with (first
        | (go_at_call 53; refine (zg _ hr7).mono ?_; (rintro e w5 ⟨rfl, B5⟩; have b8 := BlkR.go (BlkR.go hb7 B5) ((Below.refl _ _).alloc (Nat.le_refl _) (.cells #[.int .i64 0, .int .i64 0] 102)); have y := b8.cell (k := 4) rfl; have yf := b8.frozen 4; have z8 := BlkR.go (BlkR.go hz7 B5) ((Below.refl _ _).alloc (Nat.le_refl _) (.cells #[.int .i64 0, .int .i64 0] 102)); have B8 := (B7.trans (B5.mono B7.size)).alloc (Nat.le_trans B7.size B5.size) (.cells #[.int .i64 0, .int .i64 0] 102))))
      go_roundw
      case rel => exact ⟨3, by omega, rfl, rfl, hfit, b8.set_ 4 (.int .i64 (Mt.at_ l 7 6)), (Below.heap_setCell _ ⟨g, 4, none⟩ _ _ (Nat.ne_of_lt hg)).trans z8, B8.setCell (Nat.le_of_lt hg) _⟩
      case measure => simp [intOf]
    · obtain ⟨a, zg⟩ := fget_no A l c 7 6 7 6 rfl rfl (by decide) (by decide) hfit hle hlc hcm
      obtain ⟨hE, hM⟩ := rd_short (l := l) (by omega)
      go_wp2_with (first
        | (go_at_call 53; refine (zg _ hr7).mono ?_; (rintro e w5 ⟨rfl, B5⟩; have z8 := BlkR.go (BlkR.go hz7 B5) ((Below.refl _ _).alloc (Nat.le_refl _) (.cells #[.int .i64 4, .int .i64 a] 102)); have B8 := (B7.trans (B5.mono B7.size)).alloc (Nat.le_trans B7.size B5.size) (.cells #[.int .i64 4, .int .i64 a] 102)))
        | ((with_reducible refine atWorld (w5.alloc (.cells #[.int .i64 4, .int .i64 a] 102)) ?_); refine wpList_storeRow (w := w5.alloc (.cells #[.int .i64 4, .int .i64 a] 102)) metaTy rfl (.tmp 2) (.tmp 31) rfl w.heap.size (mtL Mt.zero) (mtL Mt.zero) rfl rfl rfl rfl (mtL_one _) z8 ?_; (intro w9 b9 B9 s9 k9)))
      refine bodyPost_ret (w := w9) (results_cell2 Tryz.results23 _ _ _ _ _ _ rfl rfl (loadRow metaTy (by rfl) b9)) rfl ⟨?_, B8.trans B9⟩
      rw [hE, hM]; rfl
  · have hp : (rdP (0 + 1 + 1 + 1) : Int) = 13 := rfl
    have hpn : rdP (0 + 1 + 1 + 1) = 13 := rfl
    rw [hp]
    rw [hpn] at hle
    rw [show rdL l (0 + 1 + 1 + 1) = fldL (Mt.at_ l 0 6) (Mt.at_ l 6 1) (Mt.at_ l 7 6) 0 0 0 from rfl] at hblk
    have F7 : Below wr.heap.size wr (wr.alloc (.cells #[.int .i64 0, .int .i64 6] 93)) := (Below.refl wr.heap.size wr).alloc (Nat.le_refl _) _
    have hb7 := hblk.go F7
    have hz7 := hz.go F7
    have hr7 := ((hr.below hbel).more hbel.size).stepA (.cells #[.int .i64 0, .int .i64 6] 93)
    have B7 := hbel.alloc hbel.size (.cells #[.int .i64 0, .int .i64 6] 93)
    clear F7 hblk hz hbel hp hpn
    by_cases hfit : 19 ≤ l.length
    · have zg := fun w hr => fget_yes A l c 13 6 13 6 19 rfl rfl rfl (by decide) (by decide) hfit w hlc hcm hr
      go_wp2_with (first
        | (go_at_call 53; refine (zg _ hr7).mono ?_; (rintro e w5 ⟨rfl, B5⟩; have b8 := BlkR.go (BlkR.go hb7 B5) ((Below.refl _ _).alloc (Nat.le_refl _) (.cells #[.int .i64 0, .int .i64 0] 102)); have y := b8.cell (k := 6) rfl; have yf := b8.frozen 6; have z8 := BlkR.go (BlkR.go hz7 B5) ((Below.refl _ _).alloc (Nat.le_refl _) (.cells #[.int .i64 0, .int .i64 0] 102)); have B8 := (B7.trans (B5.mono B7.size)).alloc (Nat.le_trans B7.size B5.size) (.cells #[.int .i64 0, .int .i64 0] 102))))
      go_roundw
      case rel => exact ⟨4, by omega, rfl, rfl, hfit, b8.set_ 6 (.int .i64 (Mt.at_ l 13 6)), (Below.heap_setCell _ ⟨g, 6, none⟩ _ _ (Nat.ne_of_lt hg)).trans z8, B8.setCell (Nat.le_of_lt hg) _⟩
      case measure => simp [intOf]
    · obtain ⟨a, zg⟩ := fget_no A l c 13 6 13 6 rfl rfl (by decide) (by decide) hfit hle hlc hcm
      obtain ⟨hE, hM⟩ := rd_short (l := l) (by omega)
      go_wp2_with (first
        | (go_at_call 53; refine (zg _ hr7).mono ?_; (rintro e w5 ⟨rfl, B5⟩; have z8 := BlkR.go (BlkR.go hz7 B5) ((Below.refl _ _).alloc (Nat.le_refl _) (.cells #[.int .i64 4, .int .i64 a] 102)); have B8 := (B7.trans (B5.mono B7.size)).alloc (Nat.le_trans B7.size B5.size) (.cells #[.int .i64 4, .int .i64 a] 102)))
        | ((with_reducible refine atWorld (w5.alloc (.cells #[.int .i64 4, .int .i64 a] 102)) ?_); refine wpList_storeRow (w := w5.alloc (.cells #[.int .i64 4, .int .i64 a] 102)) metaTy rfl (.tmp 2) (.tmp 31) rfl w.heap.size (mtL Mt.zero) (mtL Mt.zero) rfl rfl rfl rfl (mtL_one _) z8 ?_; (intro w9 b9 B9 s9 k9)))
      refine bodyPost_ret (w := w9) (results_cell2 Tryz.results23 _ _ _ _ _ _ rfl rfl (loadRow metaTy (by rfl) b9)) rfl ⟨?_, B8.trans B9⟩
      rw [hE, hM]; rfl
  · have hp : (rdP (0 + 1 + 1 + 1 + 1) : Int) = 19 := rfl
    have hpn : rdP (0 + 1 + 1 + 1 + 1) = 19 := rfl
    rw [hp]
    rw [hpn] at hle
    rw [show rdL l (0 + 1 + 1 + 1 + 1) = fldL (Mt.at_ l 0 6) (Mt.at_ l 6 1) (Mt.at_ l 7 6) (Mt.at_ l 13 6) 0 0 from rfl] at hblk
    have F7 : Below wr.heap.size wr (wr.alloc (.cells #[.int .i64 0, .int .i64 1] 93)) := (Below.refl wr.heap.size wr).alloc (Nat.le_refl _) _
    have hb7 := hblk.go F7
    have hz7 := hz.go F7
    have hr7 := ((hr.below hbel).more hbel.size).stepA (.cells #[.int .i64 0, .int .i64 1] 93)
    have B7 := hbel.alloc hbel.size (.cells #[.int .i64 0, .int .i64 1] 93)
    clear F7 hblk hz hbel hp hpn
    by_cases hfit : 20 ≤ l.length
    · have zg := fun w hr => fget_yes A l c 19 1 19 1 20 rfl rfl rfl (by decide) (by decide) hfit w hlc hcm hr
      go_wp2_with (first
        | (go_at_call 53; refine (zg _ hr7).mono ?_; (rintro e w5 ⟨rfl, B5⟩; have b8 := BlkR.go (BlkR.go hb7 B5) ((Below.refl _ _).alloc (Nat.le_refl _) (.cells #[.int .i64 0, .int .i64 0] 102)); have y := b8.cell (k := 8) rfl; have yf := b8.frozen 8; have z8 := BlkR.go (BlkR.go hz7 B5) ((Below.refl _ _).alloc (Nat.le_refl _) (.cells #[.int .i64 0, .int .i64 0] 102)); have B8 := (B7.trans (B5.mono B7.size)).alloc (Nat.le_trans B7.size B5.size) (.cells #[.int .i64 0, .int .i64 0] 102))))
      go_roundw
      case rel => exact ⟨5, by omega, rfl, rfl, hfit, b8.set_ 8 (.int .i64 (Mt.at_ l 19 1)), (Below.heap_setCell _ ⟨g, 8, none⟩ _ _ (Nat.ne_of_lt hg)).trans z8, B8.setCell (Nat.le_of_lt hg) _⟩
      case measure => simp [intOf]
    · obtain ⟨a, zg⟩ := fget_no A l c 19 1 19 1 rfl rfl (by decide) (by decide) hfit hle hlc hcm
      obtain ⟨hE, hM⟩ := rd_short (l := l) (by omega)
      go_wp2_with (first
        | (go_at_call 53; refine (zg _ hr7).mono ?_; (rintro e w5 ⟨rfl, B5⟩; have z8 := BlkR.go (BlkR.go hz7 B5) ((Below.refl _ _).alloc (Nat.le_refl _) (.cells #[.int .i64 4, .int .i64 a] 102)); have B8 := (B7.trans (B5.mono B7.size)).alloc (Nat.le_trans B7.size B5.size) (.cells #[.int .i64 4, .int .i64 a] 102)))
        | ((with_reducible refine atWorld (w5.alloc (.cells #[.int .i64 4, .int .i64 a] 102)) ?_); refine wpList_storeRow (w := w5.alloc (.cells #[.int .i64 4, .int .i64 a] 102)) metaTy rfl (.tmp 2) (.tmp 31) rfl w.heap.size (mtL Mt.zero) (mtL Mt.zero) rfl rfl rfl rfl (mtL_one _) z8 ?_; (intro w9 b9 B9 s9 k9)))
      refine bodyPost_ret (w := w9) (results_cell2 Tryz.results23 _ _ _ _ _ _ rfl rfl (loadRow metaTy (by rfl) b9)) rfl ⟨?_, B8.trans B9⟩
      rw [hE, hM]; rfl
  · have hp : (rdP (0 + 1 + 1 + 1 + 1 + 1) : Int) = 20 := rfl
    have hpn : rdP (0 + 1 + 1 + 1 + 1 + 1) = 20 := rfl
    rw [hp]
    rw [hpn] at hle
    rw [show rdL l (0 + 1 + 1 + 1 + 1 + 1) = fldL (Mt.at_ l 0 6) (Mt.at_ l 6 1) (Mt.at_ l 7 6) (Mt.at_ l 13 6) (Mt.at_ l 19 1) 0 from rfl] at hblk
    have F7 : Below wr.heap.size wr (wr.alloc (.cells #[.int .i64 0, .int .i64 6] 93)) := (Below.refl wr.heap.size wr).alloc (Nat.le_refl _) _
    have hb7 := hblk.go F7
    have hz7 := hz.go F7
    have hr7 := ((hr.below hbel).more hbel.size).stepA (.cells #[.int .i64 0, .int .i64 6] 93)
    have B7 := hbel.alloc hbel.size (.cells #[.int .i64 0, .int .i64 6] 93)
    clear F7 hblk hz hbel hp hpn
    by_cases hfit : 26 ≤ l.length
    · have zg := fun w hr => fget_yes A l c 20 6 20 6 26 rfl rfl rfl (by decide) (by decide) hfit w hlc hcm hr
      go_wp2_with (first
        | (go_at_call 53; refine (zg _ hr7).mono ?_; (rintro e w5 ⟨rfl, B5⟩; have b8 := BlkR.go (BlkR.go hb7 B5) ((Below.refl _ _).alloc (Nat.le_refl _) (.cells #[.int .i64 0, .int .i64 0] 102)); have y := b8.cell (k := 10) rfl; have yf := b8.frozen 10; have z8 := BlkR.go (BlkR.go hz7 B5) ((Below.refl _ _).alloc (Nat.le_refl _) (.cells #[.int .i64 0, .int .i64 0] 102)); have B8 := (B7.trans (B5.mono B7.size)).alloc (Nat.le_trans B7.size B5.size) (.cells #[.int .i64 0, .int .i64 0] 102))))
      go_roundw
      case rel => exact ⟨6, by omega, rfl, rfl, hfit, b8.set_ 10 (.int .i64 (Mt.at_ l 20 6)), (Below.heap_setCell _ ⟨g, 10, none⟩ _ _ (Nat.ne_of_lt hg)).trans z8, B8.setCell (Nat.le_of_lt hg) _⟩
      case measure => simp [intOf]
    · obtain ⟨a, zg⟩ := fget_no A l c 20 6 20 6 rfl rfl (by decide) (by decide) hfit hle hlc hcm
      obtain ⟨hE, hM⟩ := rd_short (l := l) (by omega)
      go_wp2_with (first
        | (go_at_call 53; refine (zg _ hr7).mono ?_; (rintro e w5 ⟨rfl, B5⟩; have z8 := BlkR.go (BlkR.go hz7 B5) ((Below.refl _ _).alloc (Nat.le_refl _) (.cells #[.int .i64 4, .int .i64 a] 102)); have B8 := (B7.trans (B5.mono B7.size)).alloc (Nat.le_trans B7.size B5.size) (.cells #[.int .i64 4, .int .i64 a] 102)))
        | ((with_reducible refine atWorld (w5.alloc (.cells #[.int .i64 4, .int .i64 a] 102)) ?_); refine wpList_storeRow (w := w5.alloc (.cells #[.int .i64 4, .int .i64 a] 102)) metaTy rfl (.tmp 2) (.tmp 31) rfl w.heap.size (mtL Mt.zero) (mtL Mt.zero) rfl rfl rfl rfl (mtL_one _) z8 ?_; (intro w9 b9 B9 s9 k9)))
      refine bodyPost_ret (w := w9) (results_cell2 Tryz.results23 _ _ _ _ _ _ rfl rfl (loadRow metaTy (by rfl) b9)) rfl ⟨?_, B8.trans B9⟩
      rw [hE, hM]; rfl
  · rw [show rdP (0 + 1 + 1 + 1 + 1 + 1 + 1) = 26 from rfl] at hle ⊢
    rw [show rdL l (0 + 1 + 1 + 1 + 1 + 1 + 1) = fldL (Mt.at_ l 0 6) (Mt.at_ l 6 1) (Mt.at_ l 7 6) (Mt.at_ l 13 6) (Mt.at_ l 19 1) (Mt.at_ l 20 6) from rfl] at hblk
    have zm := fun w => metaOf_any (Mt.at_ l 0 6) (Mt.at_ l 6 1) (Mt.at_ l 7 6) (Mt.at_ l 13 6) (Mt.at_ l 19 1) (Mt.at_ l 20 6) (by have := at_lt l 6 1; omega) w
    rw [show (⟨(Mt.at_ l 0 6 : Int), (Mt.at_ l 6 1 : Int) - 1, (Mt.at_ l 7 6 : Int), (Mt.at_ l 13 6 : Int), (Mt.at_ l 19 1 : Int), (Mt.at_ l 20 6 : Int)⟩ : Mt) = Mt.dec l from rfl] at zm
    obtain ⟨L, hL⟩ : ∃ L, L = fldL (Mt.at_ l 0 6) (Mt.at_ l 6 1) (Mt.at_ l 7 6) (Mt.at_ l 13 6) (Mt.at_ l 19 1) (Mt.at_ l 20 6) := ⟨_, rfl⟩
    have hLl : L.length = fldZ.length := by rw [hL]; rfl
    rw [← hL] at zm hblk
    have zc := fun w => check_any (Mt.dec l) w
    clear hL x0 x1 x2 x3 x4 x5 hk
    by_cases hlen : l.length = 26
    · have hgood : Mt.good l = (Mt.dec l).ok := by simp [Mt.good, hlen]
      cases hok : (Mt.dec l).ok with
      | true =>
        rw [hok] at hgood
        rw [Mt.err_ok hok] at zc
        have HE : Mt.readE l = 0 ∧ Mt.readM l = Mt.dec l := by simp [Mt.readE, Mt.readM, hgood]
        obtain ⟨M, hMM⟩ : ∃ M, M = Mt.dec l := ⟨_, rfl⟩
        rw [← hMM] at zm zc HE
        have HE := Lib.hid HE
        have hlen := congrArg (fun n : Nat => (n : Int)) hlen
        clear hgood hok hMM hle
        go_wp2_with (first
          | ((with_reducible refine atWorld wr ?_); refine wpList_loadRow (w := wr) fldTy rfl (.tmp 4) rfl g 0 L rfl hLl (rangeOf hblk) ?_)
          | (go_at_call 54; refine (zm wr).mono ?_; (rintro e w5 ⟨rfl, B5⟩; have z5 := hz.go B5; have B05 := hbel.trans (B5.mono hbel.size)))
          | ((with_reducible refine atWorld w5 ?_); refine wpList_allocRow (w := w5) metaTy rfl rfl ?_; (intro w6 b6 B6 s6; have b6 := Lib.hid b6; have z6 := z5.go B6; have B06 := B05.trans (B6.mono B05.size)))
          | ((with_reducible refine atWorld w6 ?_); refine wpList_storeRow (w := w6) metaTy rfl (.tmp 11) (.tmp 39) rfl w5.heap.size (mtL M) (mtL Mt.zero) rfl rfl rfl rfl (mtL_one _) b6.out ?_; (intro w7 b7 B7 s7 k7; have z7 := z6.below B7 z5.lt; have B07 := B06.trans (B7.mono B05.size); obtain ⟨y0, y1, y2, y3, y4, y5⟩ := mt_cells b7; have b7 := Lib.hid b7))
          | ((with_reducible refine atWorld w7 ?_); refine wpList_loadRow (w := w7) metaTy rfl (.tmp 11) rfl w5.heap.size 0 (mtL M) rfl rfl (rangeOf b7.out) ?_)
          | (go_at_call 19; refine (zc w7).mono ?_; (rintro e w8 ⟨rfl, B8⟩; have z8 := z7.go B8; have b8 := BlkR.go b7.out B8; have B08 := B07.trans (B8.mono B07.size); have b8 := Lib.hid b8))
          | ((with_reducible refine atWorld w8 ?_); refine wpList_loadRow (w := w8) metaTy rfl (.tmp 11) rfl w5.heap.size 0 (mtL M) rfl rfl (rangeOf b8.out) ?_)
          | ((with_reducible refine atWorld w8 ?_); refine wpList_storeRow (w := w8) metaTy rfl (.tmp 2) (.tmp 50) rfl w.heap.size (mtL M) (mtL Mt.zero) rfl rfl rfl rfl (mtL_one _) z8 ?_; (intro w9 b9 B9 s9 k9)))
        refine bodyPost_ret (w := w9) (results_cell2 Tryz.results23 _ _ _ _ _ _ rfl rfl (loadRow metaTy (by rfl) b9)) rfl ⟨?_, B08.trans B9⟩
        rw [HE.out.1, HE.out.2]; rfl
      | false =>
        rw [hok] at hgood
        rw [Mt.err_no hok] at zc
        have HE : Mt.readE l = 4 ∧ Mt.readM l = Mt.zero := by simp [Mt.readE, Mt.readM, hgood]
        obtain ⟨M, hMM⟩ : ∃ M, M = Mt.dec l := ⟨_, rfl⟩
        rw [← hMM] at zm zc
        have HE := Lib.hid HE
        have hlen := congrArg (fun n : Nat => (n : Int)) hlen
        clear hgood hok hMM hle
        go_wp2_with (first
          | ((with_reducible refine atWorld wr ?_); refine wpList_loadRow (w := wr) fldTy rfl (.tmp 4) rfl g 0 L rfl hLl (rangeOf hblk) ?_)
          | (go_at_call 54; refine (zm wr).mono ?_; (rintro e w5 ⟨rfl, B5⟩; have z5 := hz.go B5; have B05 := hbel.trans (B5.mono hbel.size)))
          | ((with_reducible refine atWorld w5 ?_); refine wpList_allocRow (w := w5) metaTy rfl rfl ?_; (intro w6 b6 B6 s6; have b6 := Lib.hid b6; have z6 := z5.go B6; have B06 := B05.trans (B6.mono B05.size)))
          | ((with_reducible refine atWorld w6 ?_); refine wpList_storeRow (w := w6) metaTy rfl (.tmp 11) (.tmp 39) rfl w5.heap.size (mtL M) (mtL Mt.zero) rfl rfl rfl rfl (mtL_one _) b6.out ?_; (intro w7 b7 B7 s7 k7; have z7 := z6.below B7 z5.lt; have B07 := B06.trans (B7.mono B05.size); obtain ⟨y0, y1, y2, y3, y4, y5⟩ := mt_cells b7; have b7 := Lib.hid b7))
          | ((with_reducible refine atWorld w7 ?_); refine wpList_loadRow (w := w7) metaTy rfl (.tmp 11) rfl w5.heap.size 0 (mtL M) rfl rfl (rangeOf b7.out) ?_)
          | (go_at_call 19; refine (zc w7).mono ?_; (rintro e w8 ⟨rfl, B8⟩; have z8 := z7.go B8; have b8 := BlkR.go b7.out B8; have B08 := B07.trans (B8.mono B07.size); have b8 := Lib.hid b8))
          | ((with_reducible refine atWorld w8 ?_); refine wpList_loadRow (w := w8) metaTy rfl (.tmp 11) rfl w5.heap.size 0 (mtL M) rfl rfl (rangeOf b8.out) ?_)
          | ((with_reducible refine atWorld w8 ?_); refine wpList_storeRow (w := w8) metaTy rfl (.tmp 2) (.tmp 49) rfl w.heap.size (mtL Mt.zero) (mtL Mt.zero) rfl rfl rfl rfl (mtL_one _) z8 ?_; (intro w9 b9 B9 s9 k9)))
        refine bodyPost_ret (w := w9) (results_cell2 Tryz.results23 _ _ _ _ _ _ rfl rfl (loadRow metaTy (by rfl) b9)) rfl ⟨?_, B08.trans B9⟩
        rw [HE.out.1, HE.out.2]; rfl
    · have HE := rd_short (l := l) hlen
      obtain ⟨M, hMM⟩ : ∃ M, M = Mt.dec l := ⟨_, rfl⟩
      rw [← hMM] at zm zc
      have HE := Lib.hid HE
      have hlen : ((26 : Int) != (l.length : Int)) = true := by simp; omega
      clear hMM hle
      go_wp2_with (first
        | ((with_reducible refine atWorld wr ?_); refine wpList_loadRow (w := wr) fldTy rfl (.tmp 4) rfl g 0 L rfl hLl (rangeOf hblk) ?_)
        | (go_at_call 54; refine (zm wr).mono ?_; (rintro e w5 ⟨rfl, B5⟩; have z5 := hz.go B5; have B05 := hbel.trans (B5.mono hbel.size)))
        | ((with_reducible refine atWorld w5 ?_); refine wpList_allocRow (w := w5) metaTy rfl rfl ?_; (intro w6 b6 B6 s6; have b6 := Lib.hid b6; have z6 := z5.go B6; have B06 := B05.trans (B6.mono B05.size)))
        | ((with_reducible refine atWorld w6 ?_); refine wpList_storeRow (w := w6) metaTy rfl (.tmp 11) (.tmp 39) rfl w5.heap.size (mtL M) (mtL Mt.zero) rfl rfl rfl rfl (mtL_one _) b6.out ?_; (intro w7 b7 B7 s7 k7; have z7 := z6.below B7 z5.lt; have B07 := B06.trans (B7.mono B05.size); obtain ⟨y0, y1, y2, y3, y4, y5⟩ := mt_cells b7; have b7 := Lib.hid b7))
        | ((with_reducible refine atWorld w7 ?_); refine wpList_loadRow (w := w7) metaTy rfl (.tmp 11) rfl w5.heap.size 0 (mtL M) rfl rfl (rangeOf b7.out) ?_)
        | ((with_reducible refine atWorld w7 ?_); refine wpList_storeRow (w := w7) metaTy rfl (.tmp 2) (.tmp 49) rfl w.heap.size (mtL Mt.zero) (mtL Mt.zero) rfl rfl rfl rfl (mtL_one _) z7 ?_; (intro w9 b9 B9 s9 k9)))
      refine bodyPost_ret (w := w9) (results_cell2 Tryz.results23 _ _ _ _ _ _ rfl rfl (loadRow metaTy (by rfl) b9)) rfl ⟨?_, B07.trans B9⟩
      rw [HE.out.1, HE.out.2]; rfl
  · omega
end Go.Proofs.YtebicjblplkdeaaGreatDoor
