/-
  What holds in the loops of NetOrder. Conditions: none.
-/
import Derived.Test.YtplfhlmipdlmnaaNtKeeps
namespace Go.Proofs.Ytplfhlmipdlmnaa
open Go.RowKit Nt

set_option maxRecDepth 100000 in
theorem elIo : Elem Try.prog 57 3 (.int .i64 0) 8 := ⟨Try.underlying57, ⟨_, rfl, by kernel_rfl, by kernel_rfl, by kernel_rfl⟩, rfl, rfl⟩
def lkF (k : Nat) : Nat := [0, 0, 1, 1, 2, 2].getD k 0
def lkT (k : Nat) : Nat := [1, 2, 0, 2, 0, 1].getD k 0
def lkC : List Value := [.int .i64 0, .int .i64 1, .int .i64 0, .int .i64 2, .int .i64 1, .int .i64 0, .int .i64 1, .int .i64 2, .int .i64 2, .int .i64 0, .int .i64 2, .int .i64 1]
theorem six {k : Nat} (h : k < 6) : k = 0 ∨ k = 1 ∨ k = 2 ∨ k = 3 ∨ k = 4 ∨ k = 5 := by omega
theorem lkC_at {k : Nat} (h : k < 6) : lkC[k * 2]? = some (.int .i64 (lkF k : Int)) ∧ lkC[k * 2 + 1]? = some (.int .i64 (lkT k : Int)) := by
  rcases six h with rfl | rfl | rfl | rfl | rfl | rfl <;> exact ⟨rfl, rfl⟩
theorem lk_link {k : Nat} (h : k < 6) : link (lkF k : Int) (lkT k : Int) = true := by
  rcases six h with rfl | rfl | rfl | rfl | rfl | rfl <;> rfl
theorem lk_lt {k : Nat} (h : k < 6) : lkF k < 3 ∧ lkT k < 3 := by
  rcases six h with rfl | rfl | rfl | rfl | rfl | rfl <;> decide
theorem lk_apart {k j : Nat} (h : k < 6) (h2 : j < 6) (hne : k ≠ j) : 3 * lkF k + lkT k ≠ 3 * lkF j + lkT j := by
  rcases six h with rfl | rfl | rfl | rfl | rfl | rfl <;> rcases six h2 with rfl | rfl | rfl | rfl | rfl | rfl <;> first | decide | exact absurd rfl hne
/-- the links are cut as is said, the first i -/
structure Oc (s : N) (cut : Nat → Bool) (i : Nat) : Prop where
  way : s.way = []
  lost : s.lost = 0
  down : ∀ k, k < i → s.down (3 * lkF k + lkT k) = cut k
theorem Oc.cut {s : N} {cut : Nat → Bool} {i : Nat} (h : Oc s cut i) (hi : i < 6) : Oc (s.cut (lkF i : Int) (lkT i : Int) (cut i)) cut (i + 1) := by
  unfold N.cut
  rw [if_pos (lk_link hi)]
  refine ⟨h.way, h.lost, fun k hk => ?_⟩
  show upd s.down (Nt.at_ (lkF i : Int) (lkT i : Int)) (cut i) (3 * lkF k + lkT k) = cut k
  rw [show Nt.at_ (lkF i : Int) (lkT i : Int) = 3 * lkF i + lkT i from rfl]
  unfold upd
  by_cases e : k = i
  · rw [e, if_pos rfl]
  · rw [if_neg (lk_apart (by omega) hi e)]
    exact h.down k (by omega)
def pkO (x : Nat × Nat) : Pk := ⟨lkF x.2, lkT x.2, [UInt8.ofNat x.1, UInt8.ofNat x.2]⟩
/-- i were sent, of which those of want are on their way -/
structure Oo (s : N) (cut : Nat → Bool) (want : List (Nat × Nat)) (i : Nat) : Prop where
  way : s.way = want.map pkO
  lost : s.lost + want.length = i
  down : ∀ k, k < 6 → s.down (3 * lkF k + lkT k) = cut k
  lt : ∀ x ∈ want, x.1 < i ∧ x.2 < 6
theorem Oc.oo {s : N} {cut : Nat → Bool} (h : Oc s cut 6) : Oo s cut [] 0 := ⟨h.way, by rw [h.lost]; rfl, h.down, (fun x hx => by cases hx)⟩
theorem Oo.send {s : N} {cut : Nat → Bool} {want : List (Nat × Nat)} {i k : Nat} (h : Oo s cut want i) (hi : i < 200) (hk : k < 6) :
    Oo (s.send (lkF k : Int) (lkT k : Int) [UInt8.ofNat i, UInt8.ofNat k]) cut (if cut k = true then want else want ++ [(i, k)]) (i + 1) := by
  have hE : N.sendE (lkF k : Int) (lkT k : Int) [UInt8.ofNat i, UInt8.ofNat k].length = 0 := by
    unfold N.sendE
    rw [lk_link hk, if_neg (by decide), if_neg (by simp)]
  have hw : s.way.length = want.length := by rw [h.way, List.length_map]
  have hl := h.lost
  rw [send_eq hE, show Nt.at_ (lkF k : Int) (lkT k : Int) = 3 * lkF k + lkT k from rfl, h.down k hk]
  cases hc : cut k with
  | true =>
    rw [if_pos (.inl rfl), if_pos rfl]
    exact ⟨h.way, (by omega : s.lost + 1 + want.length = i + 1), h.down, fun x hx => by have := h.lt x hx; omega⟩
  | false =>
    rw [if_neg (by rintro (x | x); · cases x
                   · omega), if_neg (by decide)]
    refine ⟨?_, ?_, h.down, fun x hx => ?_⟩
    · show s.way ++ [_] = _
      rw [h.way, List.map_append]; rfl
    · show s.lost + (want ++ [_]).length = _
      rw [List.length_append, List.length_singleton]; omega
    · rcases List.mem_append.1 hx with hx | hx
      · have := h.lt x hx; omega
      · rw [List.mem_singleton.1 hx]; exact ⟨Nat.lt_succ_self _, hk⟩
/-- those of want from j on are on their way -/
structure Od (s : N) (want : List (Nat × Nat)) (j : Nat) : Prop where
  way : s.way = (want.drop j).map pkO
theorem Od.first {s : N} {want : List (Nat × Nat)} {j : Nat} {x : Nat × Nat} (h : Od s want j) (hx : want[j]? = some x) : s.lookE 0 = 0 ∧ s.at_ 0 = pkO x ∧ Od (s.del 0) want (j + 1) := by
  have hj := (List.getElem?_eq_some_iff.1 hx).1
  have hd : want.drop j = x :: want.drop (j + 1) := by
    rw [List.drop_eq_getElem_cons hj]
    congr 1
    exact (List.getElem?_eq_some_iff.1 hx).2
  have hw : s.way = pkO x :: (want.drop (j + 1)).map pkO := by rw [h.way, hd]; rfl
  have hh : s.has 0 = true := has_iff.2 ⟨by decide, by rw [hw, List.length_cons]; omega⟩
  refine ⟨by unfold N.lookE; rw [hh, if_pos rfl], by unfold N.at_; rw [hh, if_pos rfl, hw]; rfl, ⟨?_⟩⟩
  unfold N.del
  rw [hh, if_pos rfl]
  show s.way.eraseIdx _ = _
  rw [hw]
  rfl
def woI (want : List (Nat × Nat)) : List Value := iv (want.map fun x => (x.1 : Int))
theorem woI_len (want : List (Nat × Nat)) : (woI want).length = want.length := by unfold woI; rw [iv_length, List.length_map]
theorem woI_at {want : List (Nat × Nat)} {j : Nat} {x : Nat × Nat} (h : want[j]? = some x) : (woI want)[j]? = some (.int .i64 (x.1 : Int)) := by
  unfold woI iv
  simp [h]
/-- the net, the links' block, the row of those that are waited for -/
structure Oz (w0 w : World) (b : Nat) (s : N) (v : Value) (want : List (Nat × Nat)) (g : Nat) : Prop where
  nz : Nz w0 w b s (Vg v g)
  own : OwnR 3 w w0.heap.size v (woI want)
  blk : BlkR 55 w g lkC
  low : w0.heap.size ≤ g
theorem OwnR.wy {E : TypeId} {base : Nat} {w0 w w' : World} {Wy : Nat → Prop} {v : Value} {xs : List Value} (h : OwnR E w base v xs) (fr : Frame (Xw w0 Wy) w w') (hg : ∀ j, v.ownBlock = some j → Wy j) : OwnR E w' base v xs :=
  OwnK.wy (k := 1) h fr hg
section
variable {w0 w w' : World} {b g : Nat} {s s2 : N} {v v' : Value} {want : List (Nat × Nat)} {x : Nat × Nat}
theorem Oz.go (h : Oz w0 w b s v want g) (k2 : Nz w0 w' b s2 (Vg v g)) (k3 : Frame (Xw w0 (Vg v g)) w w') : Oz w0 w' b s2 v want g :=
  ⟨k2, h.own.wy k3 fun _ e => .inl e, h.blk.wy k3 (.inr rfl), h.low⟩
theorem Oz.step (h : Oz w0 w b s v want g) (B : Below w.heap.size w w') : Oz w0 w' b s v want g := h.go (h.nz.step B) (Frame.of_below B)
theorem Oz.links (h : Oz w0 w b s v want g) {k : Nat} (hk : k < 6) : w.cell? ⟨g, k * 2, none⟩ = some (.int .i64 (lkF k : Int)) ∧ w.cell? ⟨g, k * 2 + 1, none⟩ = some (.int .i64 (lkT k : Int)) := ⟨h.blk.cell (lkC_at hk).1, h.blk.cell (lkC_at hk).2⟩
/-- one more that is waited for -/
theorem Oz.push (h : Oz w0 w b s v want g) (hg : w.grownBy w' v.ownBlock) (own : OwnR 3 w' w0.heap.size v' (woI want ++ [.int .i64 (x.1 : Int)])) (hat : v'.ownBlock = v.ownBlock ∨ v'.ownBlock = some w.heap.size) : Oz w0 w' b s v' (want ++ [x]) g := by
  have fr : Frame (fun j => v.ownBlock = some j) w w' := ⟨hg.os, hg.tape, hg.output, hg.size, fun j hj hn => hg.block j hj fun e => hn e.symm⟩
  have hgv : v.ownBlock ≠ some g := fun e => by
    rcases h.own.2 with ⟨hv, _⟩ | ⟨g', cap, cur, hv, hb, hgg, _⟩
    · rw [hv] at e; cases e
    · rw [hv] at e
      have : g' = g := by injection e
      subst this
      have := h.blk
      unfold BlkR at this
      rw [hgg] at this
      injection this with this
      injection this with _ this
      exact absurd this (by decide)
  refine ⟨h.nz.wrote (fr.mono fun _ e => .inl e) (fun j hj => hj.elim (fun e => (h.own.lt j e).1) fun e => e ▸ h.low) fun j hj => ?_, by have e : woI (want ++ [x]) = woI want ++ [.int .i64 (x.1 : Int)] := by { unfold woI iv; simp }; rw [e]; exact own, (fr.block g h.blk.lt hgv).trans h.blk, h.low⟩
  rcases hj with hj | hj
  · rcases hat with k | k
    · exact .inl (.inl (by rw [← k]; exact hj))
    · have := (own.lt j hj).2
      rw [k] at hj
      injection hj with hj
      exact .inr ⟨by omega, this⟩
  · exact .inl (.inr hj)
end
end Go.Proofs.Ytplfhlmipdlmnaa
