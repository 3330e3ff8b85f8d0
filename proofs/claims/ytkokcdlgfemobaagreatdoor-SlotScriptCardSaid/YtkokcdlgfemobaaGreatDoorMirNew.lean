/-
  The document's own disk (tandemref04): New. Conditions: none.
-/
import Derived.Test.YtkokcdlgfemobaaGreatDoorMirPart
import Derived.Deep.RegionLaw
namespace Go.Proofs.YtkokcdlgfemobaaGreatDoor
open Go.RowKit
theorem step_appendR {P : Program} {T E : TypeId} {z : Value} {bytes : Nat} {w : World} {ops : Array Oper} {o : Oper} {a : Act} {K : Act → World → Prop} {Q : Exit → Act → World → Prop} {X : Prop} (hgd : o.guard = none) (s x : Operand) (el : Elem P T E z bytes)
    (ho : o.op = .call { callee := .builtin .append, args := #[s, x], argTypes := #[T, T] })
    (base : Nat) (v : Value) (xs : List Value) (hs : a.eval s = v) (hown : OwnR E w base v xs) (A : Option Addr) (ys : List Value) (m c B : Nat) (hx : a.eval x = .slice A m c) (hm : ys.length = m) (hr : RowAt w B A ys)
    (h1 : ∀ u ∈ ys, u.oneCell' = true) (hmax : xs.length + ys.length ≤ maxLen) (hsz : (xs.length + ys.length) * bytes ≤ 140737488355328) (hbase : base ≤ w.heap.size)
    (h : ∀ v' w', OwnR E w' base v' (xs ++ ys) → w.grownBy w' v.ownBlock → (v'.ownBlock = v.ownBlock ∨ v'.ownBlock = some w.heap.size) → K (a.put o.dst v') w') :
    if Region.wanted o (yielded ops a.tmps) = true then Oper.wp P o a w K Q else X := by
  obtain ⟨v', w', hrun, h2, h3, h4⟩ := run_appendR el hown hm hr h1 hmax hsz hbase o.type
  exact step_append_run hgd s x T ho hs hx hrun (h _ _ h2 h3 h4)
/-- a row of noughts, and a slice of it alone -/
abbrev RowW (w : World) : World := (w.drew.alloc (.cells (List.replicate 64 (Value.int .u8 0)).toArray 5)).alloc (.cells #[.slice (some ⟨w.heap.size, 0, none⟩) 64 64] 32)
theorem rowW_below (w : World) : Below w.heap.size w (RowW w) := ((Below.refl _ _).drew.alloc (Nat.le_refl _) _).alloc (by simp) _
theorem rowW_size (w : World) : (RowW w).heap.size = w.heap.size + 2 := by simp [RowW]
theorem rowW_row (w : World) (b : Nat) (v0 v1 : Value) (hb : b < w.heap.size) (h0 : ∀ k, v0.ownBlock = some k → k < w.heap.size) (h1 : ∀ k, v1.ownBlock = some k → k < w.heap.size) : RowP (RowW w) b v0 v1 (.slice (some ⟨w.heap.size, 0, none⟩) 64 64) (List.replicate 64 0) := by
  have hB : BlkB (w.drew.alloc (.cells (List.replicate 64 (Value.int .u8 0)).toArray 5)) w.heap.size (List.replicate 64 0) := by
    have e : (cellsOfBytes (List.replicate 64 0)).toArray = (List.replicate 64 (Value.int .u8 0)).toArray := by simp [cellsOfBytes]
    unfold BlkB
    rw [e]
    exact heap_alloc_new w.drew _
  have hB2 : BlkB (RowW w) w.heap.size (List.replicate 64 0) := hB.step ((Below.refl _ _).alloc (Nat.le_refl _) _)
  exact ⟨w.heap.size, 64, rfl, ⟨hb, Nat.le_refl _⟩, hB2.lt, fun e => by have := h0 _ e; omega, fun e => by have := h1 _ e; omega, hB2.at_⟩
theorem rowW_at (w : World) : RowAt (RowW w) (w.heap.size + 2) (some ⟨w.heap.size + 1, 0, none⟩) [.slice (some ⟨w.heap.size, 0, none⟩) 64 64] := by
  have h := BlkR.new (w.drew.alloc (.cells (List.replicate 64 (Value.int .u8 0)).toArray 5)) [.slice (some ⟨w.heap.size, 0, none⟩) 64 64] 32
  rw [show (w.drew.alloc (.cells (List.replicate 64 (Value.int .u8 0)).toArray 5)).heap.size = w.heap.size + 1 by simp] at h
  exact h.row ⟨[], rfl⟩ (by omega)
theorem Part.head0 {w w' : World} {b i0 i1 : Nat} {S : DS} {v0 v1 : Value} {xs ys : List Value} (h : Part w b S i0 i1 v0 v1 xs ys) (hg : w.grownBy w' v0.ownBlock) : w'.cell? ⟨b, 0, none⟩ = some v0 ∧ w'.frozen? ⟨b, 0, none⟩ = false ∧ w'.cell? ⟨b, 1, none⟩ = some v1 := by
  have hb : BlkR 58 w' b _ := (hg.block b h.head.lt (fun e => by have := (h.o0.lt b e.symm).1; omega)).trans h.head
  exact ⟨hb.cell rfl, hb.frozen 0, hb.cell rfl⟩
theorem Part.head1 {w w' : World} {b i0 i1 : Nat} {S : DS} {v0 v1 : Value} {xs ys : List Value} (h : Part w b S i0 i1 v0 v1 xs ys) (hg : w.grownBy w' v1.ownBlock) : w'.cell? ⟨b, 1, none⟩ = some v1 ∧ w'.frozen? ⟨b, 1, none⟩ = false := by
  have hb : BlkR 58 w' b _ := (hg.block b h.head.lt (fun e => by have := (h.o1.lt b e.symm).1; omega)).trans h.head
  exact ⟨hb.cell rfl, hb.frozen 1⟩
theorem one_slice (A : Option Addr) (n c : Nat) : ∀ u ∈ [Value.slice A n c], u.oneCell' = true := by
  intro u hu
  rw [List.mem_singleton] at hu
  subst hu
  rfl
theorem mNew_no (n : Int) (w : World) (h : n < 1 ∨ 1024 < n) : Calls Tryz.prog 7 #[.int .i64 n] w fun e w' => e = .returned (.tuple #[.pointer none, .int .i64 5]) ∧ w = w' := by
  by_cases h1 : n < 1
  · clear h
    go_enter Tryz.func7, Tryz.ntmps7
    go_wp2
    go_ret2
    exact ⟨rfl, rfl⟩
  · replace h : 1024 < n := by omega
    go_enter Tryz.func7, Tryz.ntmps7
    go_wp2
    go_ret2
    exact ⟨rfl, rfl⟩
set_option maxHeartbeats 2000000 in
set_option maxRecDepth 100000 in
theorem mNew (n : Nat) (w : World) (h1 : 1 ≤ n) (h2 : n ≤ 1024) : Calls Tryz.prog 7 #[.int .i64 (n : Int)] w fun e w' =>
    ∃ b F, e = .returned (.tuple #[.pointer (some ⟨b, 0, none⟩), .int .i64 0]) ∧ Mir w' b F (DS.fresh n) ∧ (∀ k, F k → w.heap.size ≤ k) ∧ Below w.heap.size w w' := by
  go_enter Tryz.func7, Tryz.ntmps7
  go_wp2
  go_loopw [5] (fun iv wr => ∃ i v0 v1 xs ys, i ≤ n ∧ iv = .int .i64 ((i : Nat) : Int) ∧ Part wr w.heap.size (DS.fresh n) i i v0 v1 xs ys ∧ Below w.heap.size w wr) (fun iv _ => n - (intOf iv).toNat)
  case atStart =>
    refine ⟨0, .slice none 0 0, .slice none 0 0, [], [], Nat.zero_le _, rfl, ⟨BlkR.new w _ _, OwnR.nil_, OwnR.nil_, rfl, rfl, fun k hk => by (cases hk), fun j hj => by omega, fun j hj => by omega, fun j l hj => by omega⟩, (Below.refl _ _).alloc (Nat.le_refl _) _⟩
  case round =>
    obtain ⟨i, v0, v1, xs, ys, hi, rfl, hp, hB⟩ := hrel
    by_cases hlt : i < n
    · have hbw : w.heap.size < wr.heap.size := hp.head.lt
      have y0 : wr.cell? ⟨w.heap.size, 0, none⟩ = some v0 := hp.head.cell rfl
      have hp2 := hp.step (rowW_below wr)
      have hrow := rowW_row wr w.heap.size v0 v1 hbw (fun k hk => (hp.o0.lt k hk).2) (fun k hk => (hp.o1.lt k hk).2)
      have hat := rowW_at wr
      have hown := hp2.o0
      have hl0 := hp.l0
      have hl1 := hp.l1
      have hsz := rowW_size wr
      have hB2 := step_trans hB (rowW_below wr)
      have k0 : wr.drew.cell? ⟨w.heap.size, 0, none⟩ = some v0 := y0
      have k1 := (((Below.refl wr.heap.size wr).drew.alloc (Nat.le_refl _) (.cells (List.replicate 64 (Value.int .u8 0)).toArray 5)).cell (p := ⟨w.heap.size, 0, none⟩) hbw).trans y0
      have k2 := ((rowW_below wr).cell (p := ⟨w.heap.size, 0, none⟩) hbw).trans y0
      have H := Lib.hid (And.intro hp2 (And.intro hrow hB2))
      have hmk := make_bytes 64 (by decide)
      rw [show ((64 : Nat) : Int) = 64 from rfl] at hmk
      have e9 : (xs ++ [Value.slice (some ⟨wr.heap.size, 0, none⟩) 64 64]).length = i + 1 := by rw [List.length_append, hl0]; rfl
      have e8 : (ys ++ [Value.slice none 0 0]).length = i + 1 := by rw [List.length_append, hl1]; rfl
      have hbase : w.heap.size + 1 ≤ (RowW wr).heap.size := by rw [hsz]; omega
      clear hp hrow hB2 hB
      go_wp2
      go_region_law (refine step_appendR rfl (.tmp 23) (.tmp 25) elRows rfl (w.heap.size + 1) v0 xs (by simp [Act.eval]) hown (some ⟨wr.heap.size + 1, 0, none⟩) [.slice (some ⟨wr.heap.size, 0, none⟩) 64 64] 1 1 (wr.heap.size + 2) (by simp [Act.eval]) rfl hat (one_slice _ _ _) (by rw [hl0]; unfold maxLen; simp; omega) (by rw [hl0]; simp; omega) hbase ?_; (intro v' w' ho hg hat'; have hp3 := H.out.1.push0 hg ho hat' H.out.2.1; obtain ⟨k3, f3, y3⟩ := H.out.1.head0 hg; have hB3 := grown_belowR H.out.2.2 hg (Nat.le_trans (Nat.le_succ _) hbase) hown (Nat.le_succ _); obtain ⟨A', c', rfl, _⟩ := ho.form; rw [e9] at hp3; have hp3 := Lib.hid hp3; have hB3 := Lib.hid hB3; clear ho hg hat'))
      all_goals
        have hp4 := hp3.out.step ((Below.refl _ _).alloc (Nat.le_refl _) (.cells #[.slice none 0 0] 32))
        have hr4 := (BlkR.new (w'.setCell ⟨w.heap.size, 0, none⟩ (.slice A' (i + 1) c')) [.slice none 0 0] 32).row (ys := [.slice none 0 0]) ⟨[], rfl⟩ (Nat.lt_succ_self _)
        rw [set_size] at hr4
        have hb4 := hp4.head.lt
        have ho4 := hp4.o1
        have hp4 := Lib.hid hp4
        have hB4 := Lib.hid ((hB3.out.setCell (p := ⟨w.heap.size, 0, none⟩) (Nat.le_refl _) (.slice A' (i + 1) c')).alloc (by rw [set_size]; exact hB3.out.size) (.cells #[.slice none 0 0] 32))
        go_wp2_with (at_builtin; refine wpList_appendR rfl (.tmp 33) (.tmp 34) elRows rfl (w.heap.size + 1) v1 ys rfl ho4 _ [.slice none 0 0] 1 1 _ rfl rfl hr4 (one_slice _ _ _) (by rw [hl1]; unfold maxLen; simp; omega) (by rw [hl1]; simp; omega) hb4 ?_; (intro v2 w2 ho2 hg2 hat2; have hp5 := hp4.out.push1 hg2 ho2 hat2 (.inl ⟨rfl, rfl⟩); obtain ⟨k5, f5⟩ := hp4.out.head1 hg2; have hB5 := grown_belowR hB4.out hg2 (Nat.le_trans (Nat.le_succ _) hb4) ho4 (Nat.le_succ _); obtain ⟨A2, c2, rfl, _⟩ := ho2.form; rw [e8] at hp5; have hp5 := Lib.hid (And.intro hp5 hB5); clear ho2 hg2 hat2 hB5))
        go_roundw
        case rel => exact ⟨i + 1, _, _, _, _, by omega, by go_num, hp5.out.1, hp5.out.2.setCell (p := ⟨w.heap.size, 1, none⟩) (Nat.le_refl _) _⟩
        case measure => simp [intOf]; omega
    · obtain rfl : i = n := by omega
      clear hlt
      go_wp2
      go_ret2
      refine ⟨_, _, rfl, hp.mir ⟨h1, h2, fun j _ => by simp [DS.fresh], fun j l hl => by cases hl⟩ (fun k hk => by cases hk), fun k hk => hk.1, hB⟩
end Go.Proofs.YtkokcdlgfemobaaGreatDoor
