/-
  What holds between two calls of NetKeeps. Conditions: none.
-/
import Derived.Test.YtplfhlmipdlmnaaNtAwake
import Derived.Test.YtplfhlmipdlmnaaNaMem
import Derived.Test.YtplfhlmipdlmnaaBa
namespace Go.Proofs.Ytplfhlmipdlmnaa
open Go.RowKit Nt

set_option maxRecDepth 100000 in
theorem info_na : RowTy Try.prog 34 [.int .i64 0, .int .i64 0, .int .i64 0, .bool false, .slice none 0 0] := ⟨fun w => by kernel_rfl, by kernel_rfl, _, Try.underlying34, rfl⟩
set_option maxRecDepth 100000 in
theorem elNa : ElemK Try.prog 22 34 [.int .i64 0, .int .i64 0, .int .i64 0, .bool false, .slice none 0 0] 5 56 := ⟨Try.underlying22, ⟨_, _, rfl, rfl, by kernel_rfl, by kernel_rfl, by kernel_rfl⟩, rfl, by decide, by
  intro v hv
  simp only [List.mem_cons, List.not_mem_nil, or_false] at hv
  rcases hv with rfl | rfl | rfl | rfl | rfl <;> rfl⟩
/-- a datagram that was sent -/
def Good (sent : List NaM) (p : Pk) : Prop := ∃ k m, sent[k]? = some m ∧ p.b = [UInt8.ofNat k, UInt8.ofNat p.fr] ∧ m.i = (p.fr : Int) ∧ m.to = (p.to : Int)
theorem Good.more {sent : List NaM} {p : Pk} (h : Good sent p) (m : NaM) : Good (sent ++ [m]) p := by
  obtain ⟨k, x, h1, h2⟩ := h
  have := (List.getElem?_eq_some_iff.1 h1).1
  exact ⟨k, x, by rw [List.getElem?_append_left this]; exact h1, h2⟩
/-- the sum, and that each was sent -/
structure Kp (s : N) (sent : List NaM) (came many i : Nat) : Prop where
  sum : many = came + s.lost + s.way.length
  good : ∀ p ∈ s.way, Good sent p
  le : many ≤ i
  len : sent.length ≤ i
section
variable {s : N} {sent : List NaM} {came many i : Nat}
theorem Kp.up (h : Kp s sent came many i) : Kp s sent came many (i + 1) := ⟨h.sum, h.good, Nat.le_succ_of_le h.le, Nat.le_succ_of_le h.len⟩
theorem Kp.send (h : Kp s sent came many i) (m : NaM) (p q : Nat) (hp : m.i = (p : Int)) (hq : m.to = (q : Int)) (hl : link (p : Int) (q : Int) = true) :
    Kp (s.send p q [UInt8.ofNat sent.length, UInt8.ofNat p]) (sent ++ [m]) came (many + 1) (i + 1) := by
  have hE : N.sendE (p : Int) (q : Int) [UInt8.ofNat sent.length, UInt8.ofNat p].length = 0 := by
    unfold N.sendE
    rw [hl, if_neg (by decide), if_neg (by simp)]
  rw [send_eq hE]
  have hs := h.sum
  split
  · exact ⟨by show many + 1 = came + (s.lost + 1) + s.way.length; omega, fun x hx => (h.good x hx).more m, by have := h.le; omega, by have := h.len; simp; omega⟩
  · refine ⟨by show many + 1 = came + s.lost + (s.way ++ [_]).length; rw [List.length_append, List.length_singleton]; omega, fun x hx => ?_, by have := h.le; omega, by have := h.len; simp; omega⟩
    rcases List.mem_append.1 hx with hx | hx
    · exact (h.good x hx).more m
    · rw [List.mem_singleton.1 hx]
      exact ⟨sent.length, m, by simp, by simp, by simp [hp], by simp [hq]⟩
theorem at_mem {i : Int} (hh : s.has i = true) : s.at_ i ∈ s.way := by
  obtain ⟨k, _, _, h⟩ := has_get hh
  exact List.mem_of_getElem? h
theorem Kp.deliver (h : Kp s sent came many i) {j : Int} (hh : s.has j = true) : Kp (s.del j) sent (came + 1) many (i + 1) := by
  obtain ⟨k, rfl, hk, _⟩ := has_get hh
  unfold N.del
  rw [if_pos hh]
  have hs := h.sum
  refine ⟨?_, fun x hx => h.good x (List.mem_of_mem_eraseIdx hx), by have := h.le; omega, by have := h.len; omega⟩
  show many = came + 1 + s.lost + (s.way.eraseIdx _).length
  rw [List.length_eraseIdx, Int.toNat_natCast, if_pos hk]; omega
theorem Kp.drop (h : Kp s sent came many i) (j : Int) : Kp (s.dropI j) sent came many (i + 1) := by
  unfold N.dropI
  split
  · rename_i hh
    obtain ⟨k, rfl, hk, _⟩ := has_get hh
    have hs := h.sum
    refine ⟨?_, fun x hx => h.good x (List.mem_of_mem_eraseIdx hx), by have := h.le; omega, by have := h.len; omega⟩
    show many = came + (s.lost + 1) + (s.way.eraseIdx _).length
    rw [List.length_eraseIdx, Int.toNat_natCast, if_pos hk]; omega
  · exact h.up
theorem Kp.double (h : Kp s sent came many i) (j : Int) : Kp (s.double j) sent came (if s.doubleE j = 0 then many + 1 else many) (i + 1) := by
  unfold N.double
  split
  · rename_i hE
    have hh : s.has j = true := by
      cases hh : s.has j
      · unfold N.doubleE at hE; rw [hh, if_neg (by decide)] at hE; cases hE
      · rfl
    have hs := h.sum
    refine ⟨by show many + 1 = came + s.lost + (s.way ++ [_]).length; rw [List.length_append, List.length_singleton]; omega, fun x hx => ?_, by have := h.le; omega, by have := h.len; omega⟩
    rcases List.mem_append.1 hx with hx | hx
    · exact h.good x hx
    · rw [List.mem_singleton.1 hx]
      exact h.good _ (at_mem hh)
  · exact h.up
theorem Kp.cut (h : Kp s sent came many i) (j k : Int) (x : Bool) : Kp (s.cut j k x) sent came many (i + 1) := by
  unfold N.cut
  split
  · exact ⟨h.sum, h.good, Nat.le_succ_of_le h.le, Nat.le_succ_of_le h.len⟩
  · exact h.up
theorem Kp.clear (h : Kp s sent came many i) : Kp s.clear sent came many (i + 1) := by
  have hs := h.sum
  exact ⟨by show many = came + (s.lost + s.way.length) + 0; omega, (fun x hx => by cases hx), Nat.le_succ_of_le h.le, Nat.le_succ_of_le h.len⟩
end
theorem two_at (w : World) (x y : UInt8) (X Y : Int) (hX : X = (x.toNat : Int)) (hY : Y = (y.toNat : Int)) : BytesAt (w.alloc (.cells #[.int .u8 X, .int .u8 Y] 5)) (w.alloc (.cells #[.int .u8 X, .int .u8 Y] 5)).heap.size (some ⟨w.heap.size, 0, none⟩) [x, y] := by
  subst hX; subst hY
  exact (bytes_new w [x, y] 5 (0, 0)).more (by simp)
theorem nz_two {w0 w : World} {b : Nat} {s : N} {Wy : Nat → Prop} (h : Nz w0 w b s Wy) (i j : Int) (x y : UInt8) (X Y : Int) (hX : X = (x.toNat : Int)) (hY : Y = (y.toNat : Int)) (hl : s.lost ≤ 4611686018427387904) (E : Int) (s2 : N) (hE : N.sendE i j 2 = E) (hs : s.send i j [x, y] = s2) :
    Calls Try.prog 17 #[.pointer (some ⟨b, 0, none⟩), .int .i64 i, .int .i64 j, .slice (some ⟨w.heap.size, 0, none⟩) 2 2] (w.alloc (.cells #[.int .u8 X, .int .u8 Y] 5)) fun e w' => e = .returned (.int .i64 E) ∧ Nz w0 w' b s2 Wy ∧ Frame (Xw w0 Wy) w w' := by
  have B := step_alloc (Below.refl _ w) (.cells #[.int .u8 X, .int .u8 Y] 5)
  exact (nz_send (h.step B) i j _ [x, y] 2 2 rfl (two_at w x y X Y hX hY) hl E s2 hE hs).mono fun e w' ⟨k1, k2, k3⟩ => ⟨k1, k2, (Frame.of_below (F := Xw w0 Wy) B).trans k3 fun j e => .inl e⟩
/-- no such link, whatever the bytes -/
theorem nz_nolink {w0 w : World} {b : Nat} {s : N} {Wy : Nat → Prop} (h : Nz w0 w b s Wy) (i j : Int) (o : Obj) (v : Option Addr) (n c : Nat) (hl : link i j = false) :
    Calls Try.prog 17 #[.pointer (some ⟨b, 0, none⟩), .int .i64 i, .int .i64 j, .slice v n c] (w.alloc o) fun e w' => e = .returned (.int .i64 2) ∧ Nz w0 w' b s Wy ∧ Frame (Xw w0 Wy) w w' := by
  have B := step_alloc (Below.refl _ w) o
  obtain ⟨F, h1, _⟩ := h.step B
  refine (ntSend_arg h1 i j v n c hl).mono fun e w' ⟨k1, k2⟩ => ?_
  subst k2
  exact ⟨k1, h.step B, Frame.of_below B⟩
/-- a block of the statement's own, that no call of the net turns -/
theorem BlkR.wy {E : TypeId} {w0 w w' : World} {Wy : Nat → Prop} {g : Nat} {xs : List Value} (h : BlkR E w g xs) (fr : Frame (Xw w0 Wy) w w') (hg : Wy g) : BlkR E w' g xs := (fr.block g h.lt fun x => x.1 hg).trans h
theorem OwnK.wy {E : TypeId} {k n base : Nat} {w0 w w' : World} {Wy : Nat → Prop} {v : Value} {xs : List Value} (h : OwnK E k w base v n xs) (fr : Frame (Xw w0 Wy) w w') (hg : ∀ j, v.ownBlock = some j → Wy j) : OwnK E k w' base v n xs := h.frame fun j hj => fr.block j (h.lt j hj).2 fun x => x.1 (hg j hj)
/-- the block of a slice of one's own, and a variable -/
abbrev Vg (v : Value) (g : Nat) : Nat → Prop := fun j => v.ownBlock = some j ∨ j = g
/-- what stands in the loop: the net, the row of those that were sent -/
structure Ke (w0 w : World) (b : Nat) (s : N) (v : Value) (sent : List NaM) : Prop where
  nz : Nz w0 w b s (fun j => v.ownBlock = some j)
  own : OwnK 34 5 w w0.heap.size v sent.length (sent.flatMap naCells)
/-- with the variable beside them -/
structure Kg (w0 w : World) (b : Nat) (s : N) (v : Value) (sent : List NaM) (g : Nat) (m : NaM) : Prop where
  nz : Nz w0 w b s (Vg v g)
  own : OwnK 34 5 w w0.heap.size v sent.length (sent.flatMap naCells)
  blk : BlkR 34 w g (naCells m)
  low : w0.heap.size ≤ g
section
variable {w0 w w' : World} {b g : Nat} {s s2 : N} {v v' : Value} {sent : List NaM} {m : NaM}
theorem Ke.var (h : Ke w0 w b s v sent) (B : Below w.heap.size w w') (hb : BlkR 34 w' w.heap.size (naCells m)) : Kg w0 w' b s v sent w.heap.size m := by
  have hs := h.nz.fr.size
  have hl := hb.lt
  refine ⟨h.nz.wrote (Frame.of_below B) (fun j hj => (h.own.lt j hj).1) fun j hj => hj.imp id fun e => ⟨by omega, by omega⟩, h.own.frame fun j hj => B.block j (h.own.lt j hj).2, hb, hs⟩
theorem Kg.go (h : Kg w0 w b s v sent g m) (k2 : Nz w0 w' b s2 (Vg v g)) (k3 : Frame (Xw w0 (Vg v g)) w w') : Kg w0 w' b s2 v sent g m :=
  ⟨k2, h.own.wy k3 fun _ e => .inl e, h.blk.wy k3 (.inr rfl), h.low⟩
theorem Kg.step (h : Kg w0 w b s v sent g m) (B : Below w.heap.size w w') : Kg w0 w' b s v sent g m := h.go (h.nz.step B) (Frame.of_below B)
theorem Kg.ke (h : Kg w0 w b s v sent g m) : Ke w0 w b s v sent := ⟨h.nz.less fun _ e => .inl e, h.own⟩
theorem Kg.cells (h : Kg w0 w b s v sent g m) : w.cell? ⟨g, 0, none⟩ = some (.int .i64 m.kind) ∧ w.cell? ⟨g, 1, none⟩ = some (.int .i64 m.i) ∧ w.cell? ⟨g, 2, none⟩ = some (.int .i64 m.to) ∧ w.cell? ⟨g, 3, none⟩ = some (.bool m.is) := ⟨h.blk.cell rfl, h.blk.cell rfl, h.blk.cell rfl, h.blk.cell rfl⟩
/-- one more that was sent -/
theorem Kg.push (h : Kg w0 w b s v sent g m) (o : Obj) (own : OwnK 34 5 w' w0.heap.size v' (sent.length + 1) (sent.flatMap naCells ++ naCells m)) (hg : (w.alloc o).grownBy w' v.ownBlock) (hat : v'.ownBlock = v.ownBlock ∨ v'.ownBlock = some (w.alloc o).heap.size) : Ke w0 w' b s v' (sent ++ [m]) := by
  have h2 := h.step (step_alloc (Below.refl _ w) o)
  have fr : Frame (fun j => v.ownBlock = some j) (w.alloc o) w' := ⟨hg.os, hg.tape, hg.output, hg.size, fun j hj hn => hg.block j hj fun e => hn e.symm⟩
  refine ⟨h2.ke.nz.wrote fr (fun j hj => (h2.own.lt j hj).1) fun j hj => ?_, by rw [List.length_append, List.length_singleton, List.flatMap_append, List.flatMap_singleton]; exact own⟩
  rcases hat with k | k
  · exact .inl (by rw [← k]; exact hj)
  · have := (own.lt j hj).2
    rw [k] at hj
    injection hj with hj
    exact .inr ⟨by omega, this⟩
end
end Go.Proofs.Ytplfhlmipdlmnaa
