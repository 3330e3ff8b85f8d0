/-
  LeaseOne: three clocks, three promises and a list of leases in memory. Conditions: none.
-/
import Derived.Test.YtljgjehecaiohaaDoorLeKnown
import Derived.Test.YtljgjehecaiohaaDoorLeMem
import Derived.Test.YtljgjehecaiohaaDoorRowK
import Derived.Test.YtljgjehecaiohaaDoorFrame
import Derived.IntWalk
namespace Go.Proofs.YtljgjehecaiohaaDoor
open Go.RowKit Le

def atC (f : Nat → Int) : List Value := [.int .i64 (f 0), .int .i64 (f 1), .int .i64 (f 2)]
def ppC (t f : Nat → Int) : List Value := [.int .i64 (t 0), .int .i64 (f 0), .int .i64 (t 1), .int .i64 (f 1), .int .i64 (t 2), .int .i64 (f 2)]
def akC (a : Le.Ask) : List Value := [.int .i64 (a.node : Int), .int .i64 (a.to : Int), .int .i64 a.stamp, .bool a.given]
theorem ak_len (a : Le.Ask) : (akC a).length = 4 := rfl
theorem ak_one (a : Le.Ask) : ∀ v ∈ akC a, v.oneCell' = true := by
  intro v hv
  simp only [akC, List.mem_cons, List.not_mem_nil, or_false] at hv
  rcases hv with rfl | rfl | rfl | rfl <;> rfl
theorem lt3 {k : Nat} (h : k < 3) : k = 0 ∨ k = 1 ∨ k = 2 := by omega
theorem atC_at (f : Nat → Int) {k : Nat} (h : k < 3) : (atC f)[k]? = some (.int .i64 (f k)) := by rcases lt3 h with rfl | rfl | rfl <;> rfl
theorem ppC_0 (t f : Nat → Int) {k : Nat} (h : k < 3) : (ppC t f)[k * 2]? = some (.int .i64 (t k)) := by rcases lt3 h with rfl | rfl | rfl <;> rfl
theorem ppC_1 (t f : Nat → Int) {k : Nat} (h : k < 3) : (ppC t f)[k * 2 + 1]? = some (.int .i64 (f k)) := by rcases lt3 h with rfl | rfl | rfl <;> rfl
theorem atC_set (f : Nat → Int) {k : Nat} (h : k < 3) (x : Int) : (atC f).set k (.int .i64 x) = atC (upd f k x) := by rcases lt3 h with rfl | rfl | rfl <;> rfl
theorem ppC_set (t f : Nat → Int) {k : Nat} (h : k < 3) (x y : Int) : ((ppC t f).set (k * 2) (.int .i64 x)).set (k * 2 + 1) (.int .i64 y) = ppC (upd t k x) (upd f k y) := by rcases lt3 h with rfl | rfl | rfl <;> rfl
set_option maxRecDepth 100000 in
theorem elAk : ElemK Tryd.prog 64 68 [.int .i64 0, .int .i64 0, .int .i64 0, .bool false] 4 32 := ⟨Tryd.underlying64, ⟨_, _, rfl, rfl, by kernel_rfl, by kernel_rfl, by kernel_rfl⟩, rfl, by decide, by
  intro v hv
  simp only [List.mem_cons, List.not_mem_nil, or_false] at hv
  rcases hv with rfl | rfl | rfl | rfl <;> rfl⟩
theorem fl_set {α : Type} {f : α → List Value} {K : Nat} (hf : ∀ x, (f x).length = K) : ∀ (l : List α) (i : Nat) (a b : α), l[i]? = some a → ∀ (j : Nat) (u : Value), j < K → (f a).set j u = f b → (l.set i b).flatMap f = (l.flatMap f).set (i * K + j) u
  | [], i, a, b, h, _, _, _, _ => by simp at h
  | x :: l, 0, a, b, h, j, u, hj, he => by
    obtain rfl : x = a := by simpa using h
    rw [List.set_cons_zero, List.flatMap_cons, List.flatMap_cons, Nat.zero_mul, Nat.zero_add, List.set_append_left _ _ (by rw [hf]; exact hj), he]
  | x :: l, i + 1, a, b, h, j, u, hj, he => by
    have h : l[i]? = some a := by simpa using h
    rw [List.set_cons_succ, List.flatMap_cons, List.flatMap_cons, List.set_append_right _ _ (by rw [hf, Nat.succ_mul]; omega), hf, fl_set hf l i a b h j u hj he]
    congr 2
    rw [Nat.succ_mul]; omega
/-- an act's node, modulo 2 -/
theorem and_one (x : Int) : ∃ n : Nat, n < 2 ∧ bits .and .i64 x 1 = (n : Int) := by
  refine ⟨(BitVec.ofInt 64 x &&& BitVec.ofInt 64 1).toNat, ?_, ?_⟩
  · rw [BitVec.toNat_and]
    exact Nat.lt_of_le_of_lt Nat.and_le_right (by decide)
  · show IntKind.i64.wrap ((BitVec.ofInt 64 x &&& BitVec.ofInt 64 1).toNat : Int) = _
    refine IntWalk.i64_in _ ?_
    have : (BitVec.ofInt 64 x &&& BitVec.ofInt 64 1).toNat ≤ 1 := by
      rw [BitVec.toNat_and]
      exact Nat.le_trans Nat.and_le_right (by decide)
    omega
/-- a number, modulo c, from 0 on -/
theorem mod_nat (x : Int) (c : Nat) (d : Int) (hd : d = (c : Int)) (hc : 0 < c) (hm : c ≤ 1000000) : ∃ n : Nat, n < c ∧ IntKind.i64.wrap (x.tmod d + d) = x.tmod d + d ∧ (x.tmod d + d).tmod d = (n : Int) := by
  subst hd
  have h1 := Int.lt_tmod_of_pos x (b := (c : Int)) (by omega)
  have h2 := Int.tmod_lt_of_pos x (b := (c : Int)) (by omega)
  refine ⟨((x.tmod c + c).tmod c).toNat, ?_, IntWalk.i64_in _ (by omega), ?_⟩
  · have := Int.tmod_lt_of_pos (x.tmod c + c) (b := (c : Int)) (by omega)
    omega
  · rw [Int.tmod_eq_emod_of_nonneg (by omega)]
    have := Int.emod_nonneg (x.tmod c + c) (b := (c : Int)) (by omega)
    omega
set_option maxRecDepth 100000 in
theorem info_p3 : RowTy Tryd.prog 63 [.int .i64 0, .int .i64 0, .int .i64 0, .int .i64 0, .int .i64 0, .int .i64 0] := ⟨fun w => by kernel_rfl, by kernel_rfl, _, Tryd.underlying63, rfl⟩
set_option maxRecDepth 100000 in
theorem info_la : RowTy Tryd.prog 66 [.int .i64 0, .int .i64 0, .int .i64 0, .int .i64 0, .int .i64 0, .int .i64 0, .int .i64 0] := ⟨fun w => by kernel_rfl, by kernel_rfl, _, Tryd.underlying66, rfl⟩
set_option maxRecDepth 100000 in
theorem info_ak : RowTy Tryd.prog 68 [.int .i64 0, .int .i64 0, .int .i64 0, .bool false] := ⟨fun w => by kernel_rfl, by kernel_rfl, _, Tryd.underlying68, rfl⟩
set_option maxRecDepth 100000 in
theorem info_b2 : RowTy Tryd.prog 69 [.bool false, .bool false] := ⟨fun w => by kernel_rfl, by kernel_rfl, _, Tryd.underlying69, rfl⟩
/-- all of it in memory -/
structure Lm (w0 w : World) (ga gp : Nat) (v : Value) (at_ pt pf : Nat → Int) (all : List Le.Ask) : Prop where
  fr : Below w0.heap.size w0 w
  ba : BlkR 61 w ga (atC at_)
  bp : BlkR 63 w gp (ppC pt pf)
  own : OwnK 68 4 w w0.heap.size v all.length (all.flatMap akC)
  bnd : BndAt w
  ne : ga ≠ gp
  na : v.ownBlock ≠ some ga
  np : v.ownBlock ≠ some gp
  gea : w0.heap.size ≤ ga
  gep : w0.heap.size ≤ gp
  low : 0 < w0.heap.size
section
variable {w0 w w' : World} {ga gp : Nat} {v : Value} {at_ pt pf : Nat → Int} {all : List Le.Ask}
theorem Lm.step (h : Lm w0 w ga gp v at_ pt pf all) (B : Below w.heap.size w w') : Lm w0 w' ga gp v at_ pt pf all :=
  ⟨step_trans h.fr B, h.ba.below B h.ba.lt, h.bp.below B h.bp.lt, h.own.frame fun j hj => B.block j (h.own.lt j hj).2, h.bnd.grown B, h.ne, h.na, h.np, h.gea, h.gep, h.low⟩
theorem Lm.at' (h : Lm w0 w ga gp v at_ pt pf all) {k : Nat} (hk : k < 3) : w.cell? ⟨ga, k, none⟩ = some (.int .i64 (at_ k)) := h.ba.cell (atC_at at_ hk)
theorem Lm.p0 (h : Lm w0 w ga gp v at_ pt pf all) {k : Nat} (hk : k < 3) : w.cell? ⟨gp, k * 2, none⟩ = some (.int .i64 (pt k)) ∧ w.cell? ⟨gp, k * 2 + 1, none⟩ = some (.int .i64 (pf k)) := ⟨h.bp.cell (ppC_0 pt pf hk), h.bp.cell (ppC_1 pt pf hk)⟩
theorem setFr (w : World) (g k : Nat) (u : Value) : Frame (fun j => j = g) w (w.setCell ⟨g, k, none⟩ u) := ⟨rfl, rfl, rfl, by simp, fun i _ hi => Below.heap_setCell w ⟨g, k, none⟩ u i hi⟩
theorem frB {X : Nat → Prop} {B : Nat} (F : Frame X w w') (hX : ∀ j, X j → B ≤ j) (hB : B ≤ w.heap.size) : Below B w w' := F.below hX hB
/-- a clock goes on -/
theorem Lm.setAt (h : Lm w0 w ga gp v at_ pt pf all) {k : Nat} (hk : k < 3) (x : Int) : Lm w0 (w.setCell ⟨ga, k, none⟩ (.int .i64 x)) ga gp v (upd at_ k x) pt pf all := by
  have F := setFr w ga k (.int .i64 x)
  have B : Below w0.heap.size w (w.setCell ⟨ga, k, none⟩ (.int .i64 x)) := F.below (fun j e => e ▸ h.gea) h.fr.size
  refine ⟨h.fr.trans B, ?_, (F.block gp h.bp.lt fun e => h.ne e.symm).trans h.bp, h.own.frame fun j hj => F.block j (h.own.lt j hj).2 fun e => h.na (by rw [← e]; exact hj), h.bnd.below B h.low, h.ne, h.na, h.np, h.gea, h.gep, h.low⟩
  have := h.ba.set_ k (.int .i64 x)
  rwa [atC_set at_ hk] at this
/-- a promise is given -/
theorem Lm.setP (h : Lm w0 w ga gp v at_ pt pf all) {k : Nat} (hk : k < 3) (x y : Int) : Lm w0 ((w.setCell ⟨gp, k * 2, none⟩ (.int .i64 x)).setCell ⟨gp, k * 2 + 1, none⟩ (.int .i64 y)) ga gp v at_ (upd pt k x) (upd pf k y) all := by
  have F : Frame (fun j => j = gp) w ((w.setCell ⟨gp, k * 2, none⟩ (.int .i64 x)).setCell ⟨gp, k * 2 + 1, none⟩ (.int .i64 y)) := (setFr w gp (k * 2) (.int .i64 x)).trans (setFr _ gp (k * 2 + 1) (.int .i64 y)) fun j e => .inl e
  have B := F.below (B := w0.heap.size) (fun j e => e ▸ h.gep) h.fr.size
  refine ⟨h.fr.trans B, (F.block ga h.ba.lt h.ne).trans h.ba, ?_, h.own.frame fun j hj => F.block j (h.own.lt j hj).2 fun e => h.np (by rw [← e]; exact hj), h.bnd.below B h.low, h.ne, h.na, h.np, h.gea, h.gep, h.low⟩
  have := (h.bp.set_ (k * 2) (.int .i64 x)).set_ (k * 2 + 1) (.int .i64 y)
  rwa [ppC_set pt pf hk] at this
/-- the list of leases has grown -/
theorem Lm.push (h : Lm w0 w ga gp v at_ pt pf all) {v' : Value} {a : Le.Ask} (own : OwnK 68 4 w' w0.heap.size v' (all.length + 1) (all.flatMap akC ++ akC a)) (hg : w.grownBy w' v.ownBlock) (hat : v'.ownBlock = v.ownBlock ∨ v'.ownBlock = some w.heap.size) :
    Lm w0 w' ga gp v' at_ pt pf (all ++ [a]) := by
  have F : Frame (fun j => v.ownBlock = some j) w w' := ⟨hg.os, hg.tape, hg.output, hg.size, fun j hj hn => hg.block j hj fun e => hn e.symm⟩
  have B := F.below (B := w0.heap.size) (fun j e => (h.own.lt j e).1) h.fr.size
  have la := h.ba.lt
  have lp := h.bp.lt
  refine ⟨h.fr.trans B, (F.block ga la h.na).trans h.ba, (F.block gp lp h.np).trans h.bp, ?_, h.bnd.below B h.low, h.ne, fun e => ?_, fun e => ?_, h.gea, h.gep, h.low⟩
  · rw [List.length_append, List.flatMap_append]
    simpa using own
  · rcases hat with y | y
    · exact h.na (by rw [← y]; exact e)
    · rw [y] at e; injection e with e; omega
  · rcases hat with y | y
    · exact h.np (by rw [← y]; exact e)
    · rw [y] at e; injection e with e; omega
/-- the lease at k, changed in its cell j -/
theorem Lm.setL {g n c : Nat} (h : Lm w0 w ga gp (.slice (some ⟨g, 0, none⟩) n c) at_ pt pf all) {k j : Nat} {a b : Le.Ask} (ha : all[k]? = some a) (u : Value) (hj : j < 4) (he : (akC a).set j u = akC b) :
    Lm w0 (w.setCell ⟨g, k * 4 + j, none⟩ u) ga gp (.slice (some ⟨g, 0, none⟩) n c) at_ pt pf (all.set k b) := by
  have hk := (List.getElem?_eq_some_iff.1 ha).1
  have en : n = all.length := by
    obtain ⟨A, c', e, _⟩ := h.own.form
    injection e
  subst en
  have F := setFr w g (k * 4 + j) u
  have hgo : (Value.slice (some ⟨g, 0, none⟩) all.length c).ownBlock = some g := rfl
  have B := F.below (B := w0.heap.size) (fun j e => e ▸ (h.own.lt g hgo).1) h.fr.size
  obtain ⟨g', cur, eg, h1, h2, h3, h4, h5, h6, h7⟩ := h.own.cells_ (by omega)
  cases eg
  refine ⟨h.fr.trans B, (F.block ga h.ba.lt fun e => h.na (by rw [e]; exact hgo)).trans h.ba, (F.block gp h.bp.lt fun e => h.np (by rw [e]; exact hgo)).trans h.bp, ?_, h.bnd.below B h.low, h.ne, h.na, h.np, h.gea, h.gep, h.low⟩
  rw [List.length_set]
  refine OwnK.of_blk (h5.set_ (k * 4 + j) u) h1 h3 h4 (by rw [List.length_set, h6]) ?_
  rw [List.take_set, h7]
  exact (fl_set ak_len all k a b ha j u hj he).symm
/-- the cells of the lease at k -/
theorem Lm.ak {g n c : Nat} (h : Lm w0 w ga gp (.slice (some ⟨g, 0, none⟩) n c) at_ pt pf all) {k : Nat} {a : Le.Ask} (ha : all[k]? = some a) : w.cell? ⟨g, k * 4, none⟩ = some (.int .i64 (a.node : Int)) ∧ w.cell? ⟨g, k * 4 + 1, none⟩ = some (.int .i64 (a.to : Int)) ∧
    w.cell? ⟨g, k * 4 + 2, none⟩ = some (.int .i64 a.stamp) ∧ w.cell? ⟨g, k * 4 + 3, none⟩ = some (.bool a.given) := by
  have en : n = all.length := by
    obtain ⟨A, c', e, _⟩ := h.own.form
    injection e
  have key : ∀ j v, (akC a)[j]? = some v → w.cell? ⟨g, k * 4 + j, none⟩ = some v := fun j v hv => by
    subst en
    exact h.own.cell rfl (flk_at ak_len all k a ha j v hv)
  exact ⟨key 0 _ rfl, key 1 _ rfl, key 2 _ rfl, key 3 _ rfl⟩
theorem Lm.akf {g n c : Nat} (h : Lm w0 w ga gp (.slice (some ⟨g, 0, none⟩) n c) at_ pt pf all) {k : Nat} {a : Le.Ask} (ha : all[k]? = some a) (j : Nat) : w.frozen? ⟨g, j, none⟩ = false := by
  have hk := (List.getElem?_eq_some_iff.1 ha).1
  have en : n = all.length := by
    obtain ⟨A, c', e, _⟩ := h.own.form
    injection e
  subst en
  obtain ⟨g', cur, eg, _, _, _, _, h5, _, _⟩ := h.own.cells_ (by omega)
  cases eg
  exact h5.frozen j
/-- where the list lies -/
theorem Lm.g_ {A : Option Addr} {n c : Nat} (h : Lm w0 w ga gp (.slice A n c) at_ pt pf all) (hn : 0 < n) : ∃ g, A = some ⟨g, 0, none⟩ ∧ g < w.heap.size ∧ w0.heap.size ≤ g := by
  have en : n = all.length := by
    obtain ⟨A, c', e, _⟩ := h.own.form
    injection e
  subst en
  obtain ⟨g, e, h1, h2⟩ := h.own.at_g hn
  exact ⟨g, e, h2, h1⟩
/-- the first j of the list are done -/
def gvP (L : List Le.Ask) (t j : Nat) : List Le.Ask := (L.take j).map (giveA t) ++ L.drop j
theorem gvP_0 (L : List Le.Ask) (t : Nat) : gvP L t 0 = L := by simp [gvP]
theorem gvP_end (L : List Le.Ask) (t : Nat) : gvP L t L.length = L.map (giveA t) := by simp [gvP]
theorem gvP_len (L : List Le.Ask) (t j : Nat) : (gvP L t j).length = L.length := by simp [gvP]; omega
theorem gvP_at {L : List Le.Ask} {t j : Nat} {x : Le.Ask} (h : L[j]? = some x) : (gvP L t j)[j]? = some x := by
  have hj := (List.getElem?_eq_some_iff.1 h).1
  unfold gvP
  rw [List.getElem?_append_right (by simp; omega)]
  have : j - ((L.take j).map (giveA t)).length = 0 := by simp; omega
  rw [this, List.getElem?_drop, Nat.add_zero, h]
theorem gvP_succ {L : List Le.Ask} {t j : Nat} {x : Le.Ask} (h : L[j]? = some x) : gvP L t (j + 1) = (gvP L t j).set j (giveA t x) := by
  obtain ⟨hj, hx⟩ := List.getElem?_eq_some_iff.1 h
  unfold gvP
  rw [List.set_append_right _ _ (by simp; omega)]
  have : j - ((L.take j).map (giveA t)).length = 0 := by simp; omega
  rw [this, List.drop_eq_getElem_cons hj, List.set_cons_zero, List.take_succ_eq_append_getElem hj, List.map_append, hx, List.append_assoc]
  rfl
theorem set_same {L : List Le.Ask} {j : Nat} {x : Le.Ask} (h : L[j]? = some x) : L.set j x = L := by
  obtain ⟨hj, hx⟩ := List.getElem?_eq_some_iff.1 h
  rw [← hx]
  exact List.set_getElem_self hj
/-- the clocks of which the first k have gone on -/
def onP (f b : Nat → Int) (k : Nat) : Nat → Int := fun j => if j < k then f j + b j else f j
theorem onP_0 (f b : Nat → Int) : onP f b 0 = f := by funext j; simp [onP]
theorem onP_succ (f b : Nat → Int) (k : Nat) : onP f b (k + 1) = upd (onP f b k) k (f k + b k) := by
  funext j
  show (if j < k + 1 then f j + b j else f j) = if j = k then f k + b k else if j < k then f j + b j else f j
  by_cases e : j = k
  · rw [if_pos e, if_pos (by omega), e]
  · rw [if_neg e]
    by_cases h : j < k
    · rw [if_pos h, if_pos (by omega)]
    · rw [if_neg h, if_neg (by omega)]
theorem onP_at (f b : Nat → Int) (k : Nat) : onP f b k k = f k := by simp [onP]
/-- Lm of clocks that show the same -/
theorem Lm.ext {f : Nat → Int} (h : Lm w0 w ga gp v at_ pt pf all) (e : ∀ k, k < 3 → at_ k = f k) : Lm w0 w ga gp v f pt pf all := by
  refine ⟨h.fr, ?_, h.bp, h.own, h.bnd, h.ne, h.na, h.np, h.gea, h.gep, h.low⟩
  have : atC at_ = atC f := by unfold atC; rw [e 0 (by decide), e 1 (by decide), e 2 (by decide)]
  rw [← this]; exact h.ba
end
end Go.Proofs.YtljgjehecaiohaaDoor
