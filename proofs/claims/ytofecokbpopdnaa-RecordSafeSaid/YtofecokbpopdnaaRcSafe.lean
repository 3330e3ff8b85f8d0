/-
  The walk of RecordSafe. Conditions: none.
-/
import Derived.Test.YtofecokbpopdnaaRcStep0
import Derived.Test.YtofecokbpopdnaaRcStep1
import Derived.Test.YtofecokbpopdnaaRcStep2
import Derived.Test.YtofecokbpopdnaaRcStep3
import Derived.Test.YtofecokbpopdnaaRcStep4
import Derived.Test.YtofecokbpopdnaaRcStep5
import Derived.Test.YtofecokbpopdnaaRcKnown
import Derived.Test.YtofecokbpopdnaaRcMem
namespace Go.Proofs.Ytofecokbpopdnaa
open Go.RowKit Rc

theorem step_any {w0 w : World} {g i : Nat} {r : Nat → R} {h : Nat → Bool} {p t : Int} {no sa : Bool} (K : Wm w0 g r h p t no sa w) (I : Inv i r h p t no sa) (hi : i < 200) (a b c : Int) :
    Calls Try.prog 22 #[.pointer (some ⟨g, 0, none⟩), .agg #[.int .i64 a, .int .i64 b, .int .i64 c]] w (StpP w0 g (i + 1)) := by
  obtain ⟨kd, hkd, kw, kt⟩ := mod_nat a 6 6 rfl (by decide) (by decide)
  rcases (show kd = 0 ∨ kd = 1 ∨ kd = 2 ∨ kd = 3 ∨ kd = 4 ∨ kd = 5 by omega) with rfl | rfl | rfl | rfl | rfl | rfl
  · exact step0 K I hi a b c kw kt
  · exact step1 K I hi a b c kw kt
  · exact step2 K I hi a b c kw kt
  · exact step3 K I hi a b c kw kt
  · exact step4 K I hi a b c kw kt
  · exact step5 K I hi a b c kw kt
/-- what stands at the head of the law's loop -/
def SfRel (w : World) (g n : Nat) (ix : Value) (wr : World) : Prop := ∃ (i : Nat) (r : Nat → R) (h : Nat → Bool) (p t : Int) (no sa : Bool), i ≤ n ∧ ix = .int .i64 (i : Int) ∧ Wm w g r h p t no sa wr ∧ Inv i r h p t no sa
section
variable {A : Option Addr} {l : List T3} {c : Nat} {w : World}
set_option maxRecDepth 100000 in
theorem safe_long (hl : 200 < l.length) : Calls Try.prog 8 #[.slice A l.length c] w (Tlb true w) := by
  have za := rcKnown_any w
  obtain ⟨n, hn⟩ : ∃ n, n = l.length := ⟨_, rfl⟩
  rw [← hn] at hl ⊢
  have l0 : (n : Int) > 200 := by omega
  clear hl hn
  go_enter Try.func8, Try.ntmps8
  go_wp2_with (go_at_call 5; (with_reducible refine za.mono ?_); (rintro e w2 ⟨rfl, B2⟩))
  go_ret
  exact ⟨rfl, B2⟩
set_option maxRecDepth 100000 in
set_option maxHeartbeats 4000000 in
theorem safe_in (hA : TksAt w w.heap.size A l) (hl : l.length ≤ 200) : Calls Try.prog 8 #[.slice A l.length c] w (Tlb true w) := by
  have za := rcKnown_any w
  have zf := fun wx => rcFirst_any wx
  obtain ⟨n, hn⟩ : ∃ n, n = l.length := ⟨_, rfl⟩
  rw [← hn] at hl ⊢
  have l0 : ¬ (n : Int) > 200 := by omega
  have HH := Lib.hid (And.intro hn hl)
  have HA := Lib.hid hA
  clear hl hn hA
  go_enter Try.func8, Try.ntmps8
  go_wp2_with (first
    | (go_at_call 5; (with_reducible refine za.mono ?_); (rintro e w2 ⟨rfl, B2⟩; have zf := zf w2; have C2 := Lib.hid B2; clear B2))
    | (go_at_call 21; (with_reducible refine zf.mono ?_); (rintro e w3 ⟨rfl, B3⟩; have C3 := Lib.hid (step_trans C2.out B3); clear B3))
    | ((with_reducible refine atWorld w3 ?_); refine wpList_allocRow (w := w3) recTy rfl rfl ?_; (intro w4 b4 B4 s4; have b4 := Lib.hid b4; have C4 := Lib.hid B4; clear B4 s4))
    | ((with_reducible refine atWorld w4 ?_); refine wpList_storeRow (w := w4) recTy rfl (.tmp 4) (.tmp 12) rfl w3.heap.size (rcL 0 0 3) _ rfl rfl rfl rfl (by simp [rcL, Value.oneCell']) b4.out ?_; (intro w5 b5 B5 s5 x5; have C5 : Below w.heap.size w w5 := C3.out.trans ((C4.out.trans B5).mono C3.out.size); obtain ⟨y0, y1, y2⟩ := rc_box b5; have K6 : Wm w w5.heap.size (fun _ => ⟨0, 0, 3⟩) (fun _ => true) (-1) 0 false false (w5.alloc (.cells #[.int .i64 0, .int .i64 0, .int .i64 3, .int .i64 0, .int .i64 0, .int .i64 3, .int .i64 0, .int .i64 0, .int .i64 3, .bool true, .bool true, .int .i64 (-1), .int .i64 0, .bool false, .bool false] 43)) := ⟨step_alloc C5 _, BlkR.new w5 (wdC (fun _ => ⟨0, 0, 3⟩) (fun _ => true) (-1) 0 false false) _, C5.size⟩; have K6 := Lib.hid K6; clear b5 B5 s5 x5 C5)))
  go_loopw [6] (fun ix wr => SfRel w w5.heap.size n ix wr) (fun ix _ => n + 1 - vI ix)
  case atStart => exact ⟨0, _, _, _, _, _, _, Nat.zero_le _, rfl, K6.out, inv_new⟩
  case round =>
    obtain ⟨i, r, h, p, t, no, sa, hi, rfl, K, I⟩ := hrel
    obtain ⟨wa, hwa⟩ : ∃ wa, wa = wr := ⟨_, rfl⟩
    subst hwa
    by_cases hin : i = n
    · have lx : ¬ (i : Int) < (n : Int) := by omega
      have FIN := Lib.hid K.fr
      clear hin hi K I
      go_wp2
      go_ret
      exact ⟨rfl, FIN.out⟩
    · have lx : (i : Int) < (n : Int) := by omega
      obtain ⟨m, hm⟩ : ∃ m, l[i]? = some m := ⟨_, List.getElem?_eq_getElem (by rw [← HH.out.1]; omega)⟩
      obtain ⟨ad, rfl, hrow⟩ := tk_row HA.out K.fr hm
      have c0 := hrow 0 _ rfl
      have c1 : wa.cell? ⟨(ad.add (i * 3)).block, (ad.add (i * 3)).off + 1, none⟩ = some (.int .i64 m.b) := hrow 1 _ rfl
      have c2 : wa.cell? ⟨(ad.add (i * 3)).block, (ad.add (i * 3)).off + 2, none⟩ = some (.int .i64 m.c) := hrow 2 _ rfl
      rw [add_zero] at c0
      have hwi : IntKind.i64.wrap ((i : Int) + 1) = ((i + 1 : Nat) : Int) := (IntWalk.i64_in _ (by have := HH.out; omega)).trans (by omega)
      have zs := step_any K I (by have := HH.out; omega) m.a m.b m.c
      have HI := Lib.hid (show i + 1 ≤ n by omega)
      clear hrow hi hin K I hm
      go_wp2_with (go_at_call 22; (with_reducible refine zs.mono ?_); (rintro e w7 ⟨rfl, r7, h7, p7, t7, no7, sa7, K7, I7⟩))
      exact ⟨⟨i + 1, _, _, _, _, _, _, HI.out, rfl, K7, I7⟩, by have := HI.out; simp [vI]; omega⟩
theorem rcSafe_any (hA : TksAt w w.heap.size A l) : Calls Try.prog 8 #[.slice A l.length c] w (Tlb true w) := by
  by_cases h : l.length ≤ 200
  · exact safe_in hA h
  · exact safe_long (by omega)
end
end Go.Proofs.Ytofecokbpopdnaa
