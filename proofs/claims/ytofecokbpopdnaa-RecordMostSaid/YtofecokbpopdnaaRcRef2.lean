/-
  The document's records (tandemref17): May. Conditions: none.
-/
import Derived.Test.YtofecokbpopdnaaRcRef
import Derived.Test.YtofecokbpopdnaaRcMay
namespace Go.Proofs.Ytofecokbpopdnaa
open Go.RowKit Rc

set_option maxRecDepth 100000 in
set_option maxHeartbeats 1000000 in
/-- P17.3 -/
theorem rfMay_any (a b s c d u n : Int) (w : World) : Calls Try.prog 16 #[.agg #[.int .i64 a, .int .i64 b, .int .i64 s], .int .i64 n, .agg #[.int .i64 c, .int .i64 d, .int .i64 u]] w (Tlb (decide (May ⟨a, b, s⟩ n ⟨c, d, u⟩)) w) := by
  have K := Bx2.new w a b s c d u
  obtain ⟨y0, y1, y2, y3, y4, y5⟩ := K.cc
  have zc := fun wx (K : Bx2 w w.heap.size (w.heap.size + 1) a b s c d u wx) => K.num (rfCheck_any a b s wx)
  have zd := fun wx (K : Bx2 w w.heap.size (w.heap.size + 1) a b s c d u wx) => K.num (rfCheck_any c d u wx)
  have zh := fun wx (K : Bx2 w w.heap.size (w.heap.size + 1) a b s c d u wx) => K.say (rfHas_any a b s n wx)
  have zi := fun wx (K : Bx2 w w.heap.size (w.heap.size + 1) a b s c d u wx) => K.say (rfHas_any c d u n wx)
  have zn := fun wx (K : Bx2 w w.heap.size (w.heap.size + 1) a b s c d u wx) => K.say (rfNewer_any a b s c d u wx)
  by_cases h1 : Ok ⟨a, b, s⟩
  · simp only [show errN ⟨a, b, s⟩ = 0 from if_pos h1] at zc
    by_cases h2 : Ok ⟨c, d, u⟩
    · simp only [show errN ⟨c, d, u⟩ = 0 from if_pos h2] at zd
      by_cases h3 : Has s n
      · simp only [decide_eq_true h3] at zh
        by_cases h4 : New ⟨a, b, s⟩ ⟨c, d, u⟩
        · simp only [decide_eq_true h4] at zn
          rw [decide_eq_true (show May ⟨a, b, s⟩ n ⟨c, d, u⟩ from ⟨h1, h2, h3, .inl h4⟩)]
          clear h1 h2 h3 h4
          go_enter Try.func16, Try.ntmps16
          go_wp2_with (first
            | (go_at_call 10; first | ((with_reducible refine (zc _ K).mono ?_); (rintro e w3 ⟨rfl, K⟩; obtain ⟨y0, y1, y2, y3, y4, y5⟩ := K.cc)) | ((with_reducible refine (zd _ K).mono ?_); (rintro e w3 ⟨rfl, K⟩; obtain ⟨y0, y1, y2, y3, y4, y5⟩ := K.cc)))
            | (go_at_call 14; first | ((with_reducible refine (zh _ K).mono ?_); (rintro e w3 ⟨rfl, K⟩; obtain ⟨y0, y1, y2, y3, y4, y5⟩ := K.cc)) | ((with_reducible refine (zi _ K).mono ?_); (rintro e w3 ⟨rfl, K⟩; obtain ⟨y0, y1, y2, y3, y4, y5⟩ := K.cc)))
            | (go_at_call 12; first | ((with_reducible refine (zn _ K).mono ?_); (rintro e w3 ⟨rfl, K⟩; obtain ⟨y0, y1, y2, y3, y4, y5⟩ := K.cc))))
          go_ret
          exact ⟨rfl, K.fr⟩
        · simp only [decide_eq_false h4] at zn
          obtain ⟨r, hr⟩ : ∃ r, r = decide (Has u n) := ⟨_, rfl⟩
          simp only [← hr] at zi
          rw [show decide (May ⟨a, b, s⟩ n ⟨c, d, u⟩) = r from hr ▸ decide_eq_decide.2 ⟨fun x => x.2.2.2.resolve_left h4, fun x => ⟨h1, h2, h3, .inr x⟩⟩]
          clear h1 h2 h3 h4 hr
          go_enter Try.func16, Try.ntmps16
          go_wp2_with (first
            | (go_at_call 10; first | ((with_reducible refine (zc _ K).mono ?_); (rintro e w3 ⟨rfl, K⟩; obtain ⟨y0, y1, y2, y3, y4, y5⟩ := K.cc)) | ((with_reducible refine (zd _ K).mono ?_); (rintro e w3 ⟨rfl, K⟩; obtain ⟨y0, y1, y2, y3, y4, y5⟩ := K.cc)))
            | (go_at_call 14; first | ((with_reducible refine (zh _ K).mono ?_); (rintro e w3 ⟨rfl, K⟩; obtain ⟨y0, y1, y2, y3, y4, y5⟩ := K.cc)) | ((with_reducible refine (zi _ K).mono ?_); (rintro e w3 ⟨rfl, K⟩; obtain ⟨y0, y1, y2, y3, y4, y5⟩ := K.cc)))
            | (go_at_call 12; first | ((with_reducible refine (zn _ K).mono ?_); (rintro e w3 ⟨rfl, K⟩; obtain ⟨y0, y1, y2, y3, y4, y5⟩ := K.cc))))
          go_ret
          exact ⟨rfl, K.fr⟩
      · simp only [decide_eq_false h3] at zh
        rw [decide_eq_false (show ¬ May ⟨a, b, s⟩ n ⟨c, d, u⟩ from fun x => h3 x.2.2.1)]
        clear h1 h2 h3
        go_enter Try.func16, Try.ntmps16
        go_wp2_with (first
          | (go_at_call 10; first | ((with_reducible refine (zc _ K).mono ?_); (rintro e w3 ⟨rfl, K⟩; obtain ⟨y0, y1, y2, y3, y4, y5⟩ := K.cc)) | ((with_reducible refine (zd _ K).mono ?_); (rintro e w3 ⟨rfl, K⟩; obtain ⟨y0, y1, y2, y3, y4, y5⟩ := K.cc)))
          | (go_at_call 14; first | ((with_reducible refine (zh _ K).mono ?_); (rintro e w3 ⟨rfl, K⟩; obtain ⟨y0, y1, y2, y3, y4, y5⟩ := K.cc)) | ((with_reducible refine (zi _ K).mono ?_); (rintro e w3 ⟨rfl, K⟩; obtain ⟨y0, y1, y2, y3, y4, y5⟩ := K.cc)))
          | (go_at_call 12; first | ((with_reducible refine (zn _ K).mono ?_); (rintro e w3 ⟨rfl, K⟩; obtain ⟨y0, y1, y2, y3, y4, y5⟩ := K.cc))))
        go_ret
        exact ⟨rfl, K.fr⟩
    · simp only [show errN ⟨c, d, u⟩ = 2 from if_neg h2] at zd
      rw [decide_eq_false (show ¬ May ⟨a, b, s⟩ n ⟨c, d, u⟩ from fun x => h2 x.2.1)]
      clear h1 h2
      go_enter Try.func16, Try.ntmps16
      go_wp2_with (first
        | (go_at_call 10; first | ((with_reducible refine (zc _ K).mono ?_); (rintro e w3 ⟨rfl, K⟩; obtain ⟨y0, y1, y2, y3, y4, y5⟩ := K.cc)) | ((with_reducible refine (zd _ K).mono ?_); (rintro e w3 ⟨rfl, K⟩; obtain ⟨y0, y1, y2, y3, y4, y5⟩ := K.cc)))
        | (go_at_call 14; first | ((with_reducible refine (zh _ K).mono ?_); (rintro e w3 ⟨rfl, K⟩; obtain ⟨y0, y1, y2, y3, y4, y5⟩ := K.cc)) | ((with_reducible refine (zi _ K).mono ?_); (rintro e w3 ⟨rfl, K⟩; obtain ⟨y0, y1, y2, y3, y4, y5⟩ := K.cc)))
        | (go_at_call 12; first | ((with_reducible refine (zn _ K).mono ?_); (rintro e w3 ⟨rfl, K⟩; obtain ⟨y0, y1, y2, y3, y4, y5⟩ := K.cc))))
      go_ret
      exact ⟨rfl, K.fr⟩
  · simp only [show errN ⟨a, b, s⟩ = 2 from if_neg h1] at zc
    rw [decide_eq_false (show ¬ May ⟨a, b, s⟩ n ⟨c, d, u⟩ from fun x => h1 x.1)]
    clear h1
    go_enter Try.func16, Try.ntmps16
    go_wp2_with (first
      | (go_at_call 10; first | ((with_reducible refine (zc _ K).mono ?_); (rintro e w3 ⟨rfl, K⟩; obtain ⟨y0, y1, y2, y3, y4, y5⟩ := K.cc)) | ((with_reducible refine (zd _ K).mono ?_); (rintro e w3 ⟨rfl, K⟩; obtain ⟨y0, y1, y2, y3, y4, y5⟩ := K.cc)))
      | (go_at_call 14; first | ((with_reducible refine (zh _ K).mono ?_); (rintro e w3 ⟨rfl, K⟩; obtain ⟨y0, y1, y2, y3, y4, y5⟩ := K.cc)) | ((with_reducible refine (zi _ K).mono ?_); (rintro e w3 ⟨rfl, K⟩; obtain ⟨y0, y1, y2, y3, y4, y5⟩ := K.cc)))
      | (go_at_call 12; first | ((with_reducible refine (zn _ K).mono ?_); (rintro e w3 ⟨rfl, K⟩; obtain ⟨y0, y1, y2, y3, y4, y5⟩ := K.cc))))
    go_ret
    exact ⟨rfl, K.fr⟩
end Go.Proofs.Ytofecokbpopdnaa
