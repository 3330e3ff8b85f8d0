/-
  Two records in variables of their own; the program's May. Conditions: a set is an int of 64 bits.
-/
import Derived.Test.YtofecokbpopdnaaRcNext
namespace Go.Proofs.Ytofecokbpopdnaa
open Go.RowKit Rc

/-- since w0: two records, at g and at h -/
structure Bx2 (w0 : World) (g h : Nat) (a b s c d u : Int) (w : World) : Prop where
  fr : Below w0.heap.size w0 w
  b1 : BlkR 23 w g (rcL a b s)
  b2 : BlkR 23 w h (rcL c d u)
section
variable {w0 w w' : World} {g h : Nat} {a b s c d u : Int}
theorem Bx2.step (K : Bx2 w0 g h a b s c d u w) (B : Below w.heap.size w w') : Bx2 w0 g h a b s c d u w' := ⟨step_trans K.fr B, K.b1.below B K.b1.lt, K.b2.below B K.b2.lt⟩
theorem Bx2.cc (K : Bx2 w0 g h a b s c d u w) : w.cell? ⟨g, 0, none⟩ = some (.int .i64 a) ∧ w.cell? ⟨g, 1, none⟩ = some (.int .i64 b) ∧ w.cell? ⟨g, 2, none⟩ = some (.int .i64 s) ∧ w.cell? ⟨h, 0, none⟩ = some (.int .i64 c) ∧ w.cell? ⟨h, 1, none⟩ = some (.int .i64 d) ∧ w.cell? ⟨h, 2, none⟩ = some (.int .i64 u) :=
  ⟨K.b1.cell rfl, K.b1.cell rfl, K.b1.cell rfl, K.b2.cell rfl, K.b2.cell rfl, K.b2.cell rfl⟩
theorem Bx2.new (w : World) (a b s c d u : Int) : Bx2 w w.heap.size (w.heap.size + 1) a b s c d u ((w.alloc (.cells #[.int .i64 a, .int .i64 b, .int .i64 s] 23)).alloc (.cells #[.int .i64 c, .int .i64 d, .int .i64 u] 23)) := by
  have s1 : (w.alloc (.cells #[.int .i64 a, .int .i64 b, .int .i64 s] 23)).heap.size = w.heap.size + 1 := by simp
  have p := BlkR.new w (rcL a b s) 23
  have q := BlkR.new (w.alloc (.cells #[.int .i64 a, .int .i64 b, .int .i64 s] 23)) (rcL c d u) 23
  rw [s1] at q
  exact ⟨step_alloc (step_alloc (Below.refl _ w) _) _, p.below (step_alloc (Below.refl _ _) _) p.lt, q⟩
theorem Bx2.say (K : Bx2 w0 g h a b s c d u w) {F : FuncId} {args : Array Value} {x : Bool} (z : Calls Try.prog F args w (Tlb x w)) : Calls Try.prog F args w fun e w' => e = .returned (.bool x) ∧ Bx2 w0 g h a b s c d u w' := z.mono fun _ _ ⟨x, y⟩ => ⟨x, K.step y⟩
theorem Bx2.num (K : Bx2 w0 g h a b s c d u w) {F : FuncId} {args : Array Value} {x : Int} (z : Calls Try.prog F args w (Tin x w)) : Calls Try.prog F args w fun e w' => e = .returned (.int .i64 x) ∧ Bx2 w0 g h a b s c d u w' := z.mono fun _ _ ⟨x, y⟩ => ⟨x, K.step y⟩
end
set_option maxRecDepth 100000 in
set_option maxHeartbeats 1000000 in
/-- P17.3 -/
theorem rcMay_any (a b s c d u n : Int) (hs : I64 s) (hu : I64 u) (w : World) : Calls Try.prog 15 #[.agg #[.int .i64 a, .int .i64 b, .int .i64 s], .int .i64 n, .agg #[.int .i64 c, .int .i64 d, .int .i64 u]] w (Tlb (decide (May ⟨a, b, s⟩ n ⟨c, d, u⟩)) w) := by
  have K := Bx2.new w a b s c d u
  obtain ⟨y0, y1, y2, y3, y4, y5⟩ := K.cc
  have zc := fun wx (K : Bx2 w w.heap.size (w.heap.size + 1) a b s c d u wx) => K.num (rcCheck_any a b s hs wx)
  have zd := fun wx (K : Bx2 w w.heap.size (w.heap.size + 1) a b s c d u wx) => K.num (rcCheck_any c d u hu wx)
  have zh := fun wx (K : Bx2 w w.heap.size (w.heap.size + 1) a b s c d u wx) => K.say (rcHas_any a b s n wx)
  have zi := fun wx (K : Bx2 w w.heap.size (w.heap.size + 1) a b s c d u wx) => K.say (rcHas_any c d u n wx)
  have zn := fun wx (K : Bx2 w w.heap.size (w.heap.size + 1) a b s c d u wx) => K.say (rcNewer_any a b s c d u wx)
  by_cases h1 : Ok ⟨a, b, s⟩
  · simp only [show errN ⟨a, b, s⟩ = 0 from if_pos h1] at zc
    by_cases h2 : Ok ⟨c, d, u⟩
    · simp only [show errN ⟨c, d, u⟩ = 0 from if_pos h2] at zd
      by_cases h3 : Has s n
      · simp only [decide_eq_true h3] at zh
        by_cases h4 : New ⟨a, b, s⟩ ⟨c, d, u⟩
        · simp only [decide_eq_true h4] at zn
          rw [decide_eq_true (show May ⟨a, b, s⟩ n ⟨c, d, u⟩ from ⟨h1, h2, h3, .inl h4⟩)]
          clear h1 h2 h3 h4 hs hu
          go_enter Try.func15, Try.ntmps15
          go_wp2_with (first
            | (go_at_call 9; first | ((with_reducible refine (zc _ K).mono ?_); (rintro e w3 ⟨rfl, K⟩; obtain ⟨y0, y1, y2, y3, y4, y5⟩ := K.cc)) | ((with_reducible refine (zd _ K).mono ?_); (rintro e w3 ⟨rfl, K⟩; obtain ⟨y0, y1, y2, y3, y4, y5⟩ := K.cc)))
            | (go_at_call 13; first | ((with_reducible refine (zh _ K).mono ?_); (rintro e w3 ⟨rfl, K⟩; obtain ⟨y0, y1, y2, y3, y4, y5⟩ := K.cc)) | ((with_reducible refine (zi _ K).mono ?_); (rintro e w3 ⟨rfl, K⟩; obtain ⟨y0, y1, y2, y3, y4, y5⟩ := K.cc)))
            | (go_at_call 11; first | ((with_reducible refine (zn _ K).mono ?_); (rintro e w3 ⟨rfl, K⟩; obtain ⟨y0, y1, y2, y3, y4, y5⟩ := K.cc))))
          go_ret
          exact ⟨rfl, K.fr⟩
        · simp only [decide_eq_false h4] at zn
          obtain ⟨r, hr⟩ : ∃ r, r = decide (Has u n) := ⟨_, rfl⟩
          simp only [← hr] at zi
          rw [show decide (May ⟨a, b, s⟩ n ⟨c, d, u⟩) = r from hr ▸ decide_eq_decide.2 ⟨fun x => x.2.2.2.resolve_left h4, fun x => ⟨h1, h2, h3, .inr x⟩⟩]
          clear h1 h2 h3 h4 hr hs hu
          go_enter Try.func15, Try.ntmps15
          go_wp2_with (first
            | (go_at_call 9; first | ((with_reducible refine (zc _ K).mono ?_); (rintro e w3 ⟨rfl, K⟩; obtain ⟨y0, y1, y2, y3, y4, y5⟩ := K.cc)) | ((with_reducible refine (zd _ K).mono ?_); (rintro e w3 ⟨rfl, K⟩; obtain ⟨y0, y1, y2, y3, y4, y5⟩ := K.cc)))
            | (go_at_call 13; first | ((with_reducible refine (zh _ K).mono ?_); (rintro e w3 ⟨rfl, K⟩; obtain ⟨y0, y1, y2, y3, y4, y5⟩ := K.cc)) | ((with_reducible refine (zi _ K).mono ?_); (rintro e w3 ⟨rfl, K⟩; obtain ⟨y0, y1, y2, y3, y4, y5⟩ := K.cc)))
            | (go_at_call 11; first | ((with_reducible refine (zn _ K).mono ?_); (rintro e w3 ⟨rfl, K⟩; obtain ⟨y0, y1, y2, y3, y4, y5⟩ := K.cc))))
          go_ret
          exact ⟨rfl, K.fr⟩
      · simp only [decide_eq_false h3] at zh
        rw [decide_eq_false (show ¬ May ⟨a, b, s⟩ n ⟨c, d, u⟩ from fun x => h3 x.2.2.1)]
        clear h1 h2 h3 hs hu
        go_enter Try.func15, Try.ntmps15
        go_wp2_with (first
          | (go_at_call 9; first | ((with_reducible refine (zc _ K).mono ?_); (rintro e w3 ⟨rfl, K⟩; obtain ⟨y0, y1, y2, y3, y4, y5⟩ := K.cc)) | ((with_reducible refine (zd _ K).mono ?_); (rintro e w3 ⟨rfl, K⟩; obtain ⟨y0, y1, y2, y3, y4, y5⟩ := K.cc)))
          | (go_at_call 13; first | ((with_reducible refine (zh _ K).mono ?_); (rintro e w3 ⟨rfl, K⟩; obtain ⟨y0, y1, y2, y3, y4, y5⟩ := K.cc)) | ((with_reducible refine (zi _ K).mono ?_); (rintro e w3 ⟨rfl, K⟩; obtain ⟨y0, y1, y2, y3, y4, y5⟩ := K.cc)))
          | (go_at_call 11; first | ((with_reducible refine (zn _ K).mono ?_); (rintro e w3 ⟨rfl, K⟩; obtain ⟨y0, y1, y2, y3, y4, y5⟩ := K.cc))))
        go_ret
        exact ⟨rfl, K.fr⟩
    · simp only [show errN ⟨c, d, u⟩ = 2 from if_neg h2] at zd
      rw [decide_eq_false (show ¬ May ⟨a, b, s⟩ n ⟨c, d, u⟩ from fun x => h2 x.2.1)]
      clear h1 h2 hs hu
      go_enter Try.func15, Try.ntmps15
      go_wp2_with (first
        | (go_at_call 9; first | ((with_reducible refine (zc _ K).mono ?_); (rintro e w3 ⟨rfl, K⟩; obtain ⟨y0, y1, y2, y3, y4, y5⟩ := K.cc)) | ((with_reducible refine (zd _ K).mono ?_); (rintro e w3 ⟨rfl, K⟩; obtain ⟨y0, y1, y2, y3, y4, y5⟩ := K.cc)))
        | (go_at_call 13; first | ((with_reducible refine (zh _ K).mono ?_); (rintro e w3 ⟨rfl, K⟩; obtain ⟨y0, y1, y2, y3, y4, y5⟩ := K.cc)) | ((with_reducible refine (zi _ K).mono ?_); (rintro e w3 ⟨rfl, K⟩; obtain ⟨y0, y1, y2, y3, y4, y5⟩ := K.cc)))
        | (go_at_call 11; first | ((with_reducible refine (zn _ K).mono ?_); (rintro e w3 ⟨rfl, K⟩; obtain ⟨y0, y1, y2, y3, y4, y5⟩ := K.cc))))
      go_ret
      exact ⟨rfl, K.fr⟩
  · simp only [show errN ⟨a, b, s⟩ = 2 from if_neg h1] at zc
    rw [decide_eq_false (show ¬ May ⟨a, b, s⟩ n ⟨c, d, u⟩ from fun x => h1 x.1)]
    clear h1 hs hu
    go_enter Try.func15, Try.ntmps15
    go_wp2_with (first
      | (go_at_call 9; first | ((with_reducible refine (zc _ K).mono ?_); (rintro e w3 ⟨rfl, K⟩; obtain ⟨y0, y1, y2, y3, y4, y5⟩ := K.cc)) | ((with_reducible refine (zd _ K).mono ?_); (rintro e w3 ⟨rfl, K⟩; obtain ⟨y0, y1, y2, y3, y4, y5⟩ := K.cc)))
      | (go_at_call 13; first | ((with_reducible refine (zh _ K).mono ?_); (rintro e w3 ⟨rfl, K⟩; obtain ⟨y0, y1, y2, y3, y4, y5⟩ := K.cc)) | ((with_reducible refine (zi _ K).mono ?_); (rintro e w3 ⟨rfl, K⟩; obtain ⟨y0, y1, y2, y3, y4, y5⟩ := K.cc)))
      | (go_at_call 11; first | ((with_reducible refine (zn _ K).mono ?_); (rintro e w3 ⟨rfl, K⟩; obtain ⟨y0, y1, y2, y3, y4, y5⟩ := K.cc))))
    go_ret
    exact ⟨rfl, K.fr⟩
end Go.Proofs.Ytofecokbpopdnaa
