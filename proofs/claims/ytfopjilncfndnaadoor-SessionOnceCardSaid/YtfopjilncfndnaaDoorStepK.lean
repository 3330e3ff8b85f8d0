/-
  An append of structs of k cells within a region that draws its order. Conditions: none.
-/
import Derived.Test.YtfopjilncfndnaaDoorRowK
import Derived.Test.YtfopjilncfndnaaDoorBa
namespace Go.Proofs.YtfopjilncfndnaaDoor
open Go.RowKit

theorem step_appendK {P : Program} {T E : TypeId} {z xs ys : List Value} {k bytes n m base : Nat} {w : World} {v : Value} {ops : Array Oper} {o : Oper} {a : Act} {K : Act → World → Prop} {Q : Exit → Act → World → Prop} {D : Prop} (hgd : o.guard = none) (s x : Operand) (el : ElemK P T E z k bytes)
    (ho : o.op = .call { callee := .builtin .append, args := #[s, x], argTypes := #[T, T] }) (hs : a.eval s = v) (hown : OwnK E k w base v n xs) (ad : Addr) (c : Nat) (hx : a.eval x = .slice (some ad) m c)
    (hm : ys.length = m * k) (hr : ∀ j u, ys[j]? = some u → w.cell? (ad.add j) = some u) (h1 : ∀ u ∈ ys, u.oneCell' = true) (hmax : n + m ≤ maxLen) (hsz : (n + m) * bytes ≤ 140737488355328) (hbase : base ≤ w.heap.size)
    (h : ∀ v' w', OwnK E k w' base v' (n + m) (xs ++ ys) → w.grownBy w' v.ownBlock → (v'.ownBlock = v.ownBlock ∨ v'.ownBlock = some w.heap.size) → K (a.put o.dst v') w') :
    if Region.wanted o (yielded ops a.tmps) = true then Oper.wp P o a w K Q else D := by
  obtain ⟨v', w', hrun, g1, g2, g3⟩ := run_appendK el hown ad c hm hr h1 hmax hsz hbase o.type
  exact step_append_run hgd s x T ho hs hx hrun (h v' w' g1 g2 g3)
end Go.Proofs.YtfopjilncfndnaaDoor
