/-
  ClockScript: the program's clocks beside the document's. Conditions: none.
-/
import Derived.Test.YtfopjilncfndnaaCkRefTick
import Derived.Test.YtfopjilncfndnaaCkDriftWalk
import Derived.Deep.CutRange
namespace Go.Proofs.Ytfopjilncfndnaa
open Go.RowKit Ck

/-- the program's clocks at g, the document's at c -/
structure Tw (W w : World) (g c : Nat) (s s' : S) (good : Nat) : Prop where
  p : Cz W w g s
  r : RkAt w c s' good
  ne : c ≠ g
  ge : W.heap.size ≤ c
section
variable {W w w' : World} {g c good : Nat} {s s' s2 : S}
theorem Tw.step (h : Tw W w g c s s' good) (B : Below w.heap.size w w') : Tw W w' g c s s' good := ⟨h.p.step B, h.r.step B, h.ne, h.ge⟩
theorem tw_tick (h : Tw W w g c s s' good) (t : T3) (hn : s.n ≤ 4611686018427387904) (E : Int) (s2 : S) (hE : s.tickE t = E) (h2 : s.tick t = s2) : Calls Try.prog 11 #[.pointer (some ⟨g, 0, none⟩), .agg #[.int .i64 t.a, .int .i64 t.b, .int .i64 t.c]] w fun e w' => e = .returned (.int .i64 E) ∧ Tw W w' g c s2 s' good :=
  (cz_tick h.p t hn E s2 hE h2).mono fun _ _ ⟨k1, k2, k3⟩ => ⟨k1, ⟨k2, h.r.frame k3 h.ne, h.ne, h.ge⟩⟩
theorem tw_tickR (h : Tw W w g c s s' good) (t : T3) (hn : s'.n ≤ 4611686018427387904) (E : Int) (s2 : S) (hE : s'.tickE t = E) (h2 : s'.tick t = s2) : Calls Try.prog 12 #[.pointer (some ⟨c, 0, none⟩), .agg #[.int .i64 t.a, .int .i64 t.b, .int .i64 t.c]] w fun e w' => e = .returned (.int .i64 E) ∧ ∃ good2, Tw W w' g c s s2 good2 := by
  subst hE; subst h2
  exact (rfTick_any h.r t hn).mono fun _ _ ⟨k1, ⟨good2, k2⟩, k3⟩ => ⟨k1, good2, ⟨h.p.frame k3 (fun e => h.ne e.symm) (fun _ e => e ▸ h.ge), k2, h.ne, h.ge⟩⟩
theorem tw_now (h : Tw W w g c s s' good) (k r : Int) (hr : s.now k = r) : Calls Try.prog 15 #[.pointer (some ⟨g, 0, none⟩), .int .i64 k] w fun e w' => e = .returned (.int .i64 r) ∧ w = w' := cz_now h.p k r hr
theorem tw_nowR (h : Tw W w g c s s' good) (k r : Int) (hr : s'.now k = r) : Calls Try.prog 16 #[.pointer (some ⟨c, 0, none⟩), .int .i64 k] w fun e w' => e = .returned (.int .i64 r) ∧ w = w' := by
  subst hr
  exact rfNow_any h.r k
theorem tw_good (h : Tw W w g c s s good) : ((s.n : Int) == (good : Int)) = s.kept := by
  have hk := h.r.kept
  cases e : s.kept
  · rw [e] at hk
    have : good ≠ s.n := fun x => by have := hk.2 x; cases this
    rw [beq_eq_false_iff_ne]
    omega
  · have := hk.1 e
    rw [this]
    simp
theorem tw_cells (h : Tw W w g c s s' good) : w.cell? ⟨c, 3, none⟩ = some (.int .i64 (s'.n : Int)) ∧ w.cell? ⟨c, 4, none⟩ = some (.int .i64 (good : Int)) := ⟨h.r.blk.cell rfl, h.r.blk.cell rfl⟩
end
end Go.Proofs.Ytfopjilncfndnaa
