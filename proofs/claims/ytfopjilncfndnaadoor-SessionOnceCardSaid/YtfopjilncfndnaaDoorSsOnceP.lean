/-
  The pair of SessionOnce in memory: two sessions, five rows. Conditions: none.
-/
import Derived.Test.YtfopjilncfndnaaDoorSsOnceW
import Derived.Test.YtfopjilncfndnaaDoorSsRoadR
import Derived.Test.YtfopjilncfndnaaDoorRowK
namespace Go.Proofs.YtfopjilncfndnaaDoor
open Go.RowKit Fix

set_option maxRecDepth 100000 in
theorem elLt : ElemK Tryd.prog 78 86 [.int .i64 0, .slice none 0 0] 2 32 := ⟨Tryd.underlying78, ⟨_, _, rfl, rfl, by kernel_rfl, by kernel_rfl, by kernel_rfl⟩, rfl, by decide, by
  intro v hv
  simp only [List.mem_cons, List.not_mem_nil, or_false] at hv
  rcases hv with rfl | rfl <;> rfl⟩
/-- the elements' type and width of the pair's cell k -/
def eT (k : Nat) : TypeId := if k = 2 then 86 else if k ≤ 4 then 39 else 4
def eK (k : Nat) : Nat := if k = 2 then 2 else 1
def prC (a b : Nat) (V : Nat → Value) : List Value := [.pointer (some ⟨a, 0, none⟩), .pointer (some ⟨b, 0, none⟩), V 2, V 3, V 4, V 5, V 6]
/-- the pair's own block, and those of its rows -/
def Wp (q : Nat) (V : Nat → Value) (g : Nat) : Prop := g = q ∨ ∃ k, 2 ≤ k ∧ k ≤ 6 ∧ (V k).ownBlock = some g
/-- the pair at q: its sessions at a, b; its rows V, of n elements, with the cells xs -/
structure Pm (w0 w : World) (q a b : Nat) (Pa Pb : Ss.S → Prop) (V : Nat → Value) (n : Nat → Nat) (xs : Nat → List Value) : Prop where
  bt : Bt w0 w a b Pa Pb (Wp q V)
  blk : BlkR 83 w q (prC a b V)
  apart : ∀ j k, 2 ≤ j → j ≤ 6 → 2 ≤ k → k ≤ 6 → j ≠ k → ∀ g, (V j).ownBlock = some g → (V k).ownBlock ≠ some g
  offq : ∀ k, 2 ≤ k → k ≤ 6 → (V k).ownBlock ≠ some q
  rows : ∀ k, 2 ≤ k → k ≤ 6 → OwnK (eT k) (eK k) w w0.heap.size (V k) (n k) (xs k)
def OneQ (q : Nat) (j : Nat) : Prop := j = q
/-- bytes that lie beside all of it -/
structure FarB (a b q : Nat) (V : Nat → Value) (w : World) (A : Option Addr) (l : List UInt8) : Prop where
  at_ : BytesAt w w.heap.size A l
  far : ∀ ad, A = some ad → l ≠ [] → ad.block ≠ a ∧ ad.block ≠ b ∧ ¬ Wp q V ad.block
section
variable {w0 w w' : World} {q a b : Nat} {Pa Pb : Ss.S → Prop} {V : Nat → Value} {n : Nat → Nat} {xs : Nat → List Value}
theorem Pm.wp (h : Pm w0 w q a b Pa Pb V n xs) {g : Nat} (hg : Wp q V g) : g < w.heap.size ∧ w0.heap.size ≤ g ∧ g ≠ a ∧ g ≠ b := by
  obtain ⟨Fa, Fb, sa, sb, T, h1, h2, h3⟩ := h.bt
  obtain ⟨x1, x2, x3, x4, _⟩ := h3 g hg
  exact ⟨x1, x2, x3, x4⟩
theorem Pm.low (h : Pm w0 w q a b Pa Pb V n xs) : a < w.heap.size ∧ b < w.heap.size ∧ w0.heap.size ≤ a ∧ w0.heap.size ≤ b ∧ a ≠ b := by
  obtain ⟨Fa, Fb, sa, sb, T, _⟩ := h.bt
  exact ⟨T.a_.blt, T.b_.blt, T.low.1, T.low.2.1, T.ne⟩
theorem Pm.fr (h : Pm w0 w q a b Pa Pb V n xs) : Below w0.heap.size w0 w := h.bt.fr
theorem FarB.txt {A : Option Addr} {l : List UInt8} (h : FarB a b q V w A l) : Txt a b w A l := ⟨h.at_, fun ad e hl => ⟨(h.far ad e hl).1, (h.far ad e hl).2.1⟩⟩
/-- a call of a session -/
theorem Pm.sess (h : Pm w0 w q a b Pa Pb V n xs) {Qa Qb : Ss.S → Prop} (bt : Bt w0 w' a b Qa Qb (Wp q V)) (F : Frame (AB a b) w w') : Pm w0 w' q a b Qa Qb V n xs := by
  have hk : ∀ g, Wp q V g → w'.heap[g]? = w.heap[g]? := fun g hg => by
    obtain ⟨h1, _, h3, h4⟩ := h.wp hg
    exact F.block g h1 fun e => e.elim h3 h4
  exact ⟨bt, (hk q (.inl rfl)).trans h.blk, h.apart, h.offq, fun k h2 h6 => (h.rows k h2 h6).frame fun j hj => hk j (.inr ⟨k, h2, h6, hj⟩)⟩
theorem Pm.step (h : Pm w0 w q a b Pa Pb V n xs) (B : Below w.heap.size w w') : Pm w0 w' q a b Pa Pb V n xs := h.sess (h.bt.step B) (Frame.of_below B)
theorem FarB.sess {A : Option Addr} {l : List UInt8} (h : FarB a b q V w A l) (F : Frame (AB a b) w w') : FarB a b q V w' A l := ⟨(h.txt.frame F).at_, h.far⟩
theorem FarB.step {A : Option Addr} {l : List UInt8} (h : FarB a b q V w A l) (B : Below w.heap.size w w') : FarB a b q V w' A l := h.sess (Frame.of_below B)
/-- bytes of a new block -/
theorem Pm.far (h : Pm w0 w q a b Pa Pb V n xs) {A : Option Addr} {l : List UInt8} (hA : BytesAt w' w'.heap.size A l) (hn : ∀ ad, A = some ad → w.heap.size ≤ ad.block) : FarB a b q V w' A l := by
  refine ⟨hA, fun ad e _ => ?_⟩
  have hl := h.low
  have := hn ad e
  exact ⟨by omega, by omega, fun hw => by have := (h.wp hw).1; omega⟩
/-- the row k turned to v' -/
theorem Pm.put (h : Pm w0 w q a b Pa Pb V n xs) (k : Nat) (hk : 2 ≤ k ∧ k ≤ 6) (v' : Value) (n' : Nat) (xs' : List Value) (own : OwnK (eT k) (eK k) w' w0.heap.size v' n' xs') (fr : Frame (fun g => (V k).ownBlock = some g) w w')
    (hat : ∀ g, v'.ownBlock = some g → (V k).ownBlock = some g ∨ (w.heap.size ≤ g ∧ g < w'.heap.size)) :
    Pm w0 (w'.setCell ⟨q, k, none⟩ v') q a b Pa Pb (On.upf V k v') (On.upf n k n') (On.upf xs k xs') := by
  have hq := h.wp (g := q) (.inl rfl)
  have hql := Nat.lt_of_lt_of_le hq.1 fr.size
  have F2 : Frame (OneQ q) w' (w'.setCell ⟨q, k, none⟩ v') := ⟨rfl, rfl, rfl, by simp, fun j _ hj => Below.heap_setCell w' ⟨q, k, none⟩ v' j hj⟩
  have FF : Frame (Wp q V) w (w'.setCell ⟨q, k, none⟩ v') := (fr.mono fun g e => .inr ⟨k, hk.1, hk.2, e⟩).trans F2 fun g e => .inl (.inl e)
  have hs : (w'.setCell ⟨q, k, none⟩ v').heap.size = w'.heap.size := by simp
  have hvq : v'.ownBlock ≠ some q := fun e => (hat q e).elim (fun e => h.offq k hk.1 hk.2 e) fun e => by omega
  have hnew : ∀ g, v'.ownBlock = some g → ∀ j, 2 ≤ j → j ≤ 6 → j ≠ k → (V j).ownBlock ≠ some g := fun g e j h2 h6 hne e2 => by
    rcases hat g e with e3 | e3
    · exact h.apart k j hk.1 hk.2 h2 h6 (fun e => hne e.symm) g e3 e2
    · have := (h.wp (g := g) (.inr ⟨j, h2, h6, e2⟩)).1; omega
  have hbq : BlkR 83 w' q (prC a b V) := (fr.block q hq.1 (h.offq k hk.1 hk.2)).trans h.blk
  refine ⟨h.bt.wrote FF fun g hg => ?_, ?_, fun i j hi1 hi2 hj1 hj2 hij g e1 e2 => ?_, fun j h2 h6 e => ?_, fun j h2 h6 => ?_⟩
  · rw [hs]
    rcases hg with hg | ⟨j, h2, h6, hg⟩
    · exact .inl (.inl hg)
    · by_cases e : j = k
      · subst e
        rw [On.upf_at] at hg
        rcases hat g hg with e | e
        · exact .inl (.inr ⟨j, h2, h6, e⟩)
        · exact .inr e
      · rw [On.upf_ne _ _ e] at hg
        exact .inl (.inr ⟨j, h2, h6, hg⟩)
  · have := hbq.set_ k v'
    have e : (prC a b V).set k v' = prC a b (On.upf V k v') := by
      obtain ⟨h2, h6⟩ := hk
      rcases (show k = 2 ∨ k = 3 ∨ k = 4 ∨ k = 5 ∨ k = 6 by omega) with rfl | rfl | rfl | rfl | rfl <;> rfl
    rwa [e] at this
  · by_cases ei : i = k
    · subst ei
      rw [On.upf_at] at e1
      rw [On.upf_ne _ _ (fun e => hij e.symm)] at e2
      exact hnew g e1 j hj1 hj2 (fun e => hij e.symm) e2
    · rw [On.upf_ne _ _ ei] at e1
      by_cases ej : j = k
      · subst ej
        rw [On.upf_at] at e2
        exact hnew g e2 i hi1 hi2 ei e1
      · rw [On.upf_ne _ _ ej] at e2
        exact h.apart i j hi1 hi2 hj1 hj2 hij g e1 e2
  · by_cases ej : j = k
    · subst ej
      rw [On.upf_at] at e
      exact hvq e
    · rw [On.upf_ne _ _ ej] at e
      exact h.offq j h2 h6 e
  · by_cases ej : j = k
    · subst ej
      rw [On.upf_at, On.upf_at, On.upf_at]
      exact own.frame fun g hg => F2.block g (own.lt g hg).2 fun e => hvq (by rw [show g = q from e] at hg; exact hg)
    · rw [On.upf_ne _ _ ej, On.upf_ne _ _ ej, On.upf_ne _ _ ej]
      exact (h.rows j h2 h6).frame fun g hg => (F2.block g (Nat.lt_of_lt_of_le (h.wp (.inr ⟨j, h2, h6, hg⟩)).1 fr.size) fun e => h.offq j h2 h6 (by rw [show g = q from e] at hg; exact hg)).trans (fr.block g (h.wp (.inr ⟨j, h2, h6, hg⟩)).1 fun e => h.apart j k h2 h6 hk.1 hk.2 ej g hg e)
theorem FarB.put {A : Option Addr} {l : List UInt8} (h : FarB a b q V w A l) (k : Nat) (hk : 2 ≤ k ∧ k ≤ 6) (v' : Value) (fr : Frame (fun g => (V k).ownBlock = some g) w w')
    (hat : ∀ g, v'.ownBlock = some g → (V k).ownBlock = some g ∨ (w.heap.size ≤ g ∧ g < w'.heap.size)) : FarB a b q (On.upf V k v') (w'.setCell ⟨q, k, none⟩ v') A l := by
  have F2 : Frame (OneQ q) w' (w'.setCell ⟨q, k, none⟩ v') := ⟨rfl, rfl, rfl, by simp, fun j _ hj => Below.heap_setCell w' ⟨q, k, none⟩ v' j hj⟩
  have FF : Frame (Wp q V) w (w'.setCell ⟨q, k, none⟩ v') := (fr.mono fun g e => .inr ⟨k, hk.1, hk.2, e⟩).trans F2 fun g e => .inl (.inl e)
  refine ⟨?_, fun ad e hl => ?_⟩
  · by_cases hl : l = []
    · subst hl; exact bytes_nil
    · exact FF.bytes h.at_ fun ad e x => (h.far ad e hl).2.2 x
  · obtain ⟨h1, h2, h3⟩ := h.far ad e hl
    refine ⟨h1, h2, fun hw => ?_⟩
    obtain ⟨ad', e', hlt, _⟩ := h.at_ hl
    rw [e] at e'
    cases e'
    rcases hw with hw | ⟨j, j2, j6, hw⟩
    · exact h3 (.inl hw)
    · by_cases ej : j = k
      · subst ej
        rw [On.upf_at] at hw
        rcases hat _ hw with x | x
        · exact h3 (.inr ⟨j, j2, j6, x⟩)
        · omega
      · rw [On.upf_ne _ _ ej] at hw
        exact h3 (.inr ⟨j, j2, j6, hw⟩)
/-- a store into row k -/
theorem Pm.store (h : Pm w0 w q a b Pa Pb V n xs) (k : Nat) (hk : 2 ≤ k ∧ k ≤ 6) (g j : Nat) (u : Value) (hg : (V k).ownBlock = some g) (xs' : List Value) (own : OwnK (eT k) (eK k) (w.setCell ⟨g, j, none⟩ u) w0.heap.size (V k) (n k) xs') :
    Pm w0 (w.setCell ⟨g, j, none⟩ u) q a b Pa Pb V n (On.upf xs k xs') := by
  have F2 : Frame (fun x => x = g) w (w.setCell ⟨g, j, none⟩ u) := ⟨rfl, rfl, rfl, by simp, fun i _ hi => Below.heap_setCell w ⟨g, j, none⟩ u i hi⟩
  have FF : Frame (Wp q V) w (w.setCell ⟨g, j, none⟩ u) := F2.mono fun x e => .inr ⟨k, hk.1, hk.2, by rw [e]; exact hg⟩
  have hgq : q ≠ g := fun e => h.offq k hk.1 hk.2 (by rw [e]; exact hg)
  refine ⟨h.bt.wrote FF fun g hg => .inl hg, (F2.block q (h.wp (.inl rfl)).1 hgq).trans h.blk, h.apart, h.offq, fun i h2 h6 => ?_⟩
  by_cases ei : i = k
  · subst ei
    rw [On.upf_at]
    exact own
  · rw [On.upf_ne _ _ ei]
    exact (h.rows i h2 h6).frame fun x hx => F2.block x (h.wp (.inr ⟨i, h2, h6, hx⟩)).1 fun e => h.apart i k h2 h6 hk.1 hk.2 ei x hx (by rw [e]; exact hg)
theorem FarB.store {A : Option Addr} {l : List UInt8} (h : FarB a b q V w A l) (k : Nat) (hk : 2 ≤ k ∧ k ≤ 6) (g j : Nat) (u : Value) (hg : (V k).ownBlock = some g) : FarB a b q V (w.setCell ⟨g, j, none⟩ u) A l := by
  have F2 : Frame (fun x => x = g) w (w.setCell ⟨g, j, none⟩ u) := ⟨rfl, rfl, rfl, by simp, fun i _ hi => Below.heap_setCell w ⟨g, j, none⟩ u i hi⟩
  refine ⟨?_, h.far⟩
  by_cases hl : l = []
  · subst hl; exact bytes_nil
  · exact F2.bytes h.at_ fun ad e x => (h.far ad e hl).2.2 (.inr ⟨k, hk.1, hk.2, by rw [x]; exact hg⟩)
end
end Go.Proofs.YtfopjilncfndnaaDoor
