/-
  A region that draws its order, of which the tail alone does something. Conditions: none.
-/
import Derived.Test.YtofecokbpopdnaaBa
import Derived.StillTailTactics
namespace Go.Proofs.Ytofecokbpopdnaa
open Go.RowKit

/-- a region that draws its order, all but its tail only reading: the world that it draws gets a name -/
theorem region_tail {P : Program} {id : Nat} {Q : Exit → Act → World → Prop} {a : Act} {w : World} {l : List Oper} (n : Nat) (hm : P.follows .mixedOrders = true) (hB : Region.lexTailB .any l.toArray n = true) (wd : World) (hwd : wd = { w with drawn := w.drawn + 1 })
    (h : wpStill P l.toArray wd (fun a' => wpList P l.toArray Q (l.drop n) a' wd) (l.take n) a) : (Code.region id l.toArray true).wp P Q a w := by
  subst hwd
  exact wp_region_still_tail n hm hB h
/-- operations whose guards do not ask for them: their slots stay as they were -/
theorem wpStill_skips {P : Program} {ops : Array Oper} {w : World} {Q : Act → Prop} {a : Act} : ∀ (n : Nat) (l : List Oper), (l.take n).all (fun o => !(Region.wanted o (yielded ops a.tmps))) = true → (l.take n).map (fun o => a.put o.dst undef) = (l.take n).map (fun _ => a) → wpStill P ops w Q (l.drop n) a → wpStill P ops w Q l a
  | 0, _, _, _, h => h
  | _ + 1, [], _, _, h => h
  | n + 1, o :: rest, hw, ha, h => by
    simp only [List.take_succ_cons, List.all_cons, Bool.and_eq_true, List.map_cons, List.cons.injEq] at hw ha
    unfold wpStill
    rw [if_neg (by intro e; rw [e] at hw; exact absurd hw.1 (by decide)), ha.1]
    exact wpStill_skips n rest hw.2 ha.2 h
/-- one that tells v, and n behind it that are not asked for then -/
theorem wpStill_do_skip {P : Program} {ops : Array Oper} {w : World} {Q : Act → Prop} {a : Act} {o : Oper} {rest : List Oper} (n : Nat) (v : Value) (hw : Region.wanted o (yielded ops a.tmps) = true) (hr : (execOp a.eval o).run P w = .ok (.value v) w) (a' : Act) (ha' : a.put o.dst v = a')
    (h1 : (rest.take n).all (fun o => !(Region.wanted o (yielded ops a'.tmps))) = true) (h2 : (rest.take n).map (fun o => a'.put o.dst undef) = (rest.take n).map (fun _ => a')) (h : wpStill P ops w Q (rest.drop n) a') : wpStill P ops w Q (o :: rest) a := by
  subst ha'
  unfold wpStill
  rw [if_pos hw]
  unfold Oper.still
  rw [hr]
  exact ⟨rfl, wpStill_skips n rest h1 h2 h⟩
/-- one that is asked for -/
theorem wpStill_do {P : Program} {ops : Array Oper} {w : World} {Q : Act → Prop} {a : Act} {o : Oper} {rest : List Oper} (hw : Region.wanted o (yielded ops a.tmps) = true) (h : ∀ K : Act → Prop, (∀ a, wpStill P ops w Q rest a → K a) → o.still P a w K) : wpStill P ops w Q (o :: rest) a := by
  unfold wpStill
  rw [if_pos hw]
  exact h _ (fun _ h => h)
end Go.Proofs.Ytofecokbpopdnaa
