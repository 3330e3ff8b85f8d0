/-
  The walk of DiskScript. Conditions: a disk's methods do what the document says (Disks).
-/
import Derived.Test.YtmkibkafccgmgaaScMid
import Derived.Test.YtmkibkafccgmgaaDiskAwake
namespace Go.Proofs.Ytmkibkafccgmgaa
open Go.RowKit

abbrev swB (wt : World) (p b1 c1 b2 c2 : Nat) : World := ((wt.alloc (.cells #[.pointer (some ⟨b1, 0, none⟩), .pointer (some ⟨c1, 0, none⟩)] 33)).setCell ⟨p, 0, none⟩ (.pointer (some ⟨b2, 0, none⟩))).setCell ⟨p, 1, none⟩ (.pointer (some ⟨c2, 0, none⟩))
abbrev swC (wt : World) (p q b1 c1 b2 c2 : Nat) : World := ((swB wt p b1 c1 b2 c2).setCell ⟨q, 0, none⟩ (.pointer (some ⟨b1, 0, none⟩))).setCell ⟨q, 1, none⟩ (.pointer (some ⟨c1, 0, none⟩))
section
variable {At : World → Nat → (Nat → Prop) → DS → Prop} (D : Disks Try.prog At)
include D
/-- what the loop starts with -/
theorem Mid.start {w w2 w3 w4 w5 w' : World} {n b1 c1 b2 c2 : Nat} {F1 G1 F2 G2 : Nat → Prop} (a1 : At w2 b1 F1 (DS.fresh n)) (f1 : ∀ k, F1 k → w.heap.size ≤ k) (B1 : Below w.heap.size w w2)
    (m1 : Mir w3 c1 G1 (DS.fresh n)) (g1 : ∀ k, G1 k → w2.heap.size ≤ k) (B2 : Below w2.heap.size w2 w3) (a2 : At w4 b2 F2 (DS.fresh n)) (f2 : ∀ k, F2 k → w3.heap.size ≤ k) (B3 : Below w3.heap.size w3 w4)
    (m2 : Mir w5 c2 G2 (DS.fresh n)) (g2 : ∀ k, G2 k → w4.heap.size ≤ k) (B4 : Below w4.heap.size w4 w5) (B5 : Below w5.heap.size w5 w')
    (hp : BlkR 33 w' w5.heap.size [.pointer (some ⟨b1, 0, none⟩), .pointer (some ⟨c1, 0, none⟩)]) (hq : BlkR 33 w' (w5.heap.size + 1) [.pointer (some ⟨b2, 0, none⟩), .pointer (some ⟨c2, 0, none⟩)]) :
    Mid At w w' w5.heap.size (w5.heap.size + 1) b1 c1 b2 c2 F1 G1 F2 G2 (DS.fresh n) (DS.fresh n) 0 := by
  have s1 := B1.size
  have s2 := B2.size
  have s3 := B3.size
  have s4 := B4.size
  have s5 := B5.size
  have lF1 : ∀ k, F1 k → k < w2.heap.size := D.lt _ _ _ _ a1
  have lG1 : ∀ k, G1 k → k < w3.heap.size := m1.lt
  have lF2 : ∀ k, F2 k → k < w4.heap.size := D.lt _ _ _ _ a2
  have lG2 : ∀ k, G2 k → k < w5.heap.size := m2.lt
  have c5 := B5
  have c4 := step_trans B4 c5
  have c3 := step_trans B3 c4
  have c2' := step_trans B2 c3
  have c1' := step_trans B1 c2'
  refine ⟨hp, hq, ⟨At_step D a1 c2', m1.step c3, fun k h1 h2 => ?_⟩, ⟨At_step D a2 c4, m2.step c5, fun k h1 h2 => ?_⟩, fun j h1 h2 => ?_, fun j hj => ?_, by omega, by omega, by omega, Nat.le_refl _, Nat.le_refl _, c1'⟩
  · have := lF1 k h1; have := g1 k h2; omega
  · have := lF2 k h1; have := g2 k h2; omega
  · have : j < w3.heap.size := by
      rcases h1 with h1 | h1
      · have := lF1 j h1; omega
      · exact lG1 j h1
    rcases h2 with h2 | h2
    · have := f2 j h2; omega
    · have := g2 j h2; omega
  · rcases hj with (h | h) | (h | h)
    · have := lF1 j h; have := f1 j h; exact ⟨by omega, by omega, by omega⟩
    · have := lG1 j h; have := g1 j h; exact ⟨by omega, by omega, by omega⟩
    · have := lF2 j h; have := f2 j h; exact ⟨by omega, by omega, by omega⟩
    · have := lG2 j h; have := g2 j h; exact ⟨by omega, by omega, by omega⟩
omit D in
theorem Mid.actOk {w wr : World} {p q b1 c1 b2 c2 k : Nat} {F1 G1 F2 G2 : Nat → Prop} {S1 S2 : DS} {A0 : Option Addr} {ms : List ActM} {m : ActM} (h : Mid At w wr p q b1 c1 b2 c2 F1 G1 F2 G2 S1 S2 k) (hA : ActsAt w w.heap.size A0 ms)
    (hl : ∀ m, m ∈ ms → m.x.b.length ≤ 100 ∧ m.x.keeps.length ≤ 1030) (hm : m ∈ ms) : ActOk wr F1 G1 m.x m.A m.cb m.AK m.ck := by
  have hs := h.B.size
  refine ⟨hA.n m hm, (hl m hm).1, (hl m hm).2, ((hA.b m hm).below h.B).more hs, ((hA.k m hm).below h.B).more hs, fun hne ad e => ?_, fun hne ad e => ?_⟩
  · obtain ⟨ad', e', hb, _⟩ := hA.b m hm hne
    rw [e] at e'
    obtain rfl := Option.some.inj e'
    exact ⟨fun hf => by have := (h.new _ (.inl (.inl hf))).1; omega, fun hf => by have := (h.new _ (.inl (.inr hf))).1; omega⟩
  · obtain ⟨ad', e', hb, _⟩ := hA.k m hm hne
    rw [e] at e'
    obtain rfl := Option.some.inj e'
    exact ⟨fun hf => by have := (h.new _ (.inl (.inl hf))).1; omega, fun hf => by have := (h.new _ (.inl (.inr hf))).1; omega⟩
theorem Mid.boxed {w wr : World} {p q b1 c1 b2 c2 k : Nat} {F1 G1 F2 G2 : Nat → Prop} {S1 S2 : DS} (h : Mid At w wr p q b1 c1 b2 c2 F1 G1 F2 G2 S1 S2 k) (m : ActM) :
    BlkR 39 (wr.alloc (.cells (actCells m).toArray 39)) wr.heap.size (actCells m) ∧ (p ≠ wr.heap.size ∧ q ≠ wr.heap.size) ∧ Mid At w (wr.alloc (.cells (actCells m).toArray 39)) p q b1 c1 b2 c2 F1 G1 F2 G2 S1 S2 k :=
  ⟨BlkR.new wr _ _, ⟨Nat.ne_of_lt h.hp.lt, Nat.ne_of_lt h.hq.lt⟩, h.step D ((Below.refl _ _).alloc (Nat.le_refl _) _)⟩
omit D in
theorem pair_store {w : World} {q : Nat} {u0 u1 : Value} (h : BlkR 33 w q [u0, u1]) (v0 v1 : Value) : BlkR 33 ((w.setCell ⟨q, 0, none⟩ v0).setCell ⟨q, 1, none⟩ v1) q [v0, v1] ∧ Frame (fun j => j = q) w ((w.setCell ⟨q, 0, none⟩ v0).setCell ⟨q, 1, none⟩ v1) :=
  ⟨(h.set_ 0 v0).set_ 1 v1, (frame_set (F := fun j => j = q) w q 0 v0 rfl).trans (frame_set (F := fun j => j = q) _ q 1 v1 rfl) (fun _ h => .inl h)⟩
theorem clone_pair {w2 w3 : World} {b c : Nat} {F G : Nat → Prop} {S : DS} (a : At w2 b F S) (m : Mir w3 c G S) (g : ∀ k, G k → w2.heap.size ≤ k) (B : Below w2.heap.size w2 w3) : PairAt At w3 b c F G S :=
  ⟨At_step D a B, m, fun k h1 h2 => by have := D.lt _ _ _ _ a k h1; have := g k h2; omega⟩
omit D in
theorem clone_new {w1 w2 : World} {F G : Nat → Prop} (f : ∀ k, F k → w1.heap.size ≤ k) (g : ∀ k, G k → w2.heap.size ≤ k) (B : Below w1.heap.size w1 w2) : ∀ j, F j ∨ G j → w1.heap.size ≤ j := fun j hj => by
  rcases hj with h | h
  · exact f j h
  · have := g j h; have := B.size; omega
theorem Mid.swap {w wt : World} {p q b1 c1 b2 c2 k g : Nat} {F1 G1 F2 G2 : Nat → Prop} {S1 S2 : DS} {xs : List Value} (h : Mid At w wt p q b1 c1 b2 c2 F1 G1 F2 G2 S1 S2 k) (hX : BlkR 39 wt g xs) (hg : p ≠ g ∧ q ≠ g) :
    (wt.cell? ⟨p, 0, none⟩ = some (.pointer (some ⟨b1, 0, none⟩)) ∧ wt.cell? ⟨p, 1, none⟩ = some (.pointer (some ⟨c1, 0, none⟩)) ∧
      (wt.alloc (.cells #[.pointer (some ⟨b1, 0, none⟩), .pointer (some ⟨c1, 0, none⟩)] 33)).cell? ⟨q, 0, none⟩ = some (.pointer (some ⟨b2, 0, none⟩)) ∧ (wt.alloc (.cells #[.pointer (some ⟨b1, 0, none⟩), .pointer (some ⟨c1, 0, none⟩)] 33)).cell? ⟨q, 1, none⟩ = some (.pointer (some ⟨c2, 0, none⟩)) ∧
      (wt.alloc (.cells #[.pointer (some ⟨b1, 0, none⟩), .pointer (some ⟨c1, 0, none⟩)] 33)).frozen? ⟨p, 0, none⟩ = false ∧ (wt.alloc (.cells #[.pointer (some ⟨b1, 0, none⟩), .pointer (some ⟨c1, 0, none⟩)] 33)).frozen? ⟨p, 1, none⟩ = false ∧ (wt.alloc (.cells #[.pointer (some ⟨b1, 0, none⟩), .pointer (some ⟨c1, 0, none⟩)] 33)).cell? ⟨p, 0, none⟩ = some (.pointer (some ⟨b1, 0, none⟩)) ∧ (wt.alloc (.cells #[.pointer (some ⟨b1, 0, none⟩), .pointer (some ⟨c1, 0, none⟩)] 33)).cell? ⟨p, 1, none⟩ = some (.pointer (some ⟨c1, 0, none⟩))) ∧
    ((swB wt p b1 c1 b2 c2).cell? ⟨wt.heap.size, 0, none⟩ = some (.pointer (some ⟨b1, 0, none⟩)) ∧ (swB wt p b1 c1 b2 c2).cell? ⟨wt.heap.size, 1, none⟩ = some (.pointer (some ⟨c1, 0, none⟩)) ∧ (swB wt p b1 c1 b2 c2).frozen? ⟨q, 0, none⟩ = false ∧ (swB wt p b1 c1 b2 c2).frozen? ⟨q, 1, none⟩ = false ∧ (swB wt p b1 c1 b2 c2).cell? ⟨q, 0, none⟩ = some (.pointer (some ⟨b2, 0, none⟩)) ∧ (swB wt p b1 c1 b2 c2).cell? ⟨q, 1, none⟩ = some (.pointer (some ⟨c2, 0, none⟩))) ∧
    BlkR 39 (swC wt p q b1 c1 b2 c2) g xs ∧ Mid At w (swC wt p q b1 c1 b2 c2) p q b2 c2 b1 c1 F2 G2 F1 G1 S2 S1 k := by
  have hA : Below wt.heap.size wt (wt.alloc (.cells #[.pointer (some ⟨b1, 0, none⟩), .pointer (some ⟨c1, 0, none⟩)] 33)) := (Below.refl _ _).alloc (Nat.le_refl _) _
  have hM := h.step D hA
  have hX1 := hX.step hA
  have hO := BlkR.new wt [.pointer (some ⟨b1, 0, none⟩), .pointer (some ⟨c1, 0, none⟩)] 33
  have hpl := h.hp.lt
  have hql := h.hq.lt
  obtain ⟨p1, f1⟩ := pair_store hM.hp (.pointer (some ⟨b2, 0, none⟩)) (.pointer (some ⟨c2, 0, none⟩))
  have hO2 := hO.frame f1 (show ¬ wt.heap.size = p by omega)
  have hq2 := hM.hq.frame f1 (fun e => h.ne e.symm)
  have hX2 := hX1.frame f1 (fun e => hg.1 e.symm)
  obtain ⟨p2, f2⟩ := pair_store hq2 (.pointer (some ⟨b1, 0, none⟩)) (.pointer (some ⟨c1, 0, none⟩))
  have hX3 := hX2.frame f2 (fun e => hg.2 e.symm)
  have hp3 := p1.frame f2 (fun e => h.ne e)
  have hf : Frame (fun j => j = p ∨ j = q) _ _ := (f1.mono (G := fun j => j = p ∨ j = q) (fun _ e => .inl e)).trans f2 (fun _ e => .inl (.inr e))
  exact ⟨⟨h.hp.cell rfl, h.hp.cell rfl, hM.hq.cell rfl, hM.hq.cell rfl, hM.hp.frozen 0, hM.hp.frozen 1, hM.hp.cell rfl, hM.hp.cell rfl⟩, ⟨hO2.cell rfl, hO2.cell rfl, hq2.frozen 0, hq2.frozen 1, hq2.cell rfl, hq2.cell rfl⟩, hX3, hM.swapped D hf hp3 p2⟩
omit D in
theorem pair_box (w : World) (ps qs : List Value) : BlkR 33 ((w.alloc (.cells ps.toArray 33)).alloc (.cells qs.toArray 33)) w.heap.size ps ∧
    BlkR 33 ((w.alloc (.cells ps.toArray 33)).alloc (.cells qs.toArray 33)) (w.heap.size + 1) qs ∧ Below w.heap.size w ((w.alloc (.cells ps.toArray 33)).alloc (.cells qs.toArray 33)) := by
  have hs : (w.alloc (.cells ps.toArray 33)).heap.size = w.heap.size + 1 := by simp
  have h1 := (BlkR.new w ps 33).step ((Below.refl _ _).alloc (Nat.le_refl _) (.cells qs.toArray 33))
  have h2 := BlkR.new (w.alloc (.cells ps.toArray 33)) qs 33
  rw [hs] at h2
  exact ⟨h1, h2, ((Below.refl _ w).alloc (Nat.le_refl _) _).alloc (by simp) _⟩
set_option maxRecDepth 100000 in
set_option maxHeartbeats 4000000 in
theorem script_any (n0 : Int) (w : World) (A0 : Option Addr) (ms : List ActM) (c0 : Nat) (h : ActsAt w w.heap.size A0 ms) (hm : ms.length ≤ 9223372036854775807) :
    Calls Try.prog 3 #[.int .i64 n0, .slice A0 ms.length c0] w fun e w' => e = .returned (.bool true) ∧ Below w.heap.size w w' := by
  have zl := long_any w A0 ms c0 h hm
  have HH := Lib.hid h
  clear h hm
  obtain ⟨N, hN⟩ : ∃ N, N = ms.length := ⟨_, rfl⟩
  rw [← hN] at zl ⊢
  have HN := Lib.hid hN
  clear hN
  go_enter Try.func3, Try.ntmps3
  by_cases hn : n0 < 1 ∨ 1024 < n0
  · have hHn := Lib.hid hn
    clear hn
    go_wp2_with (first
      | (go_at_call 9; refine zl.mono ?_; (rintro e w0 ⟨r, rfl, rfl, hr⟩; clear hr; cases r))
      | (go_at_call 10; refine (D.new_no n0 w hHn.out).mono ?_; (rintro e w1 ⟨rfl, hB1⟩))
      | (go_at_call 11; refine (mNew_no n0 w1 hHn.out).mono ?_; (rintro e w2 ⟨rfl, rfl⟩))
      | (go_at_call 12; refine (awake_any D w1).mono ?_; (rintro e w3 ⟨rfl, hB3⟩)))
    · go_ret
      exact ⟨rfl, hB1.trans (hB3.mono hB1.size)⟩
    · go_ret
      exact ⟨rfl, Below.refl _ _⟩
  · obtain ⟨n, rfl⟩ : ∃ n : Nat, n0 = (n : Int) := ⟨n0.toNat, by omega⟩
    have hn1 : 1 ≤ n := by omega
    have hn2 : n ≤ 1024 := by omega
    clear hn
    go_wp2_with (first
      | (go_at_call 9; refine zl.mono ?_; (rintro e w0 ⟨r, rfl, rfl, hr⟩; cases r; try (replace hr := Lib.hid (hr rfl))))
      | (go_at_call 10; refine (D.new_yes n w hn1 hn2).mono ?_; (rintro e w1 ⟨b1, F1, rfl, a1, f1, B1⟩))
      | (go_at_call 11; refine (mNew n w1 hn1 hn2).mono ?_; (rintro e w2 ⟨c1, G1, rfl, m1, g1, B2⟩; have a1' := At_step D a1 B2))
      | (go_at_call 13; refine (D.clone w2 b1 F1 _ a1').mono ?_; (rintro e w3 ⟨b2, F2, rfl, a2, f2, B3⟩; have m1' := m1.step B3))
      | (go_at_call 14; refine (mClone w3 c1 G1 _ m1').mono ?_; (rintro e w4 ⟨c2, G2, rfl, m2, g2, B4⟩)))
    · obtain ⟨hp, hq, hB5⟩ := pair_box w4 [.pointer (some ⟨b1, 0, none⟩), .pointer (some ⟨c1, 0, none⟩)] [.pointer (some ⟨b2, 0, none⟩), .pointer (some ⟨c2, 0, none⟩)]
      have hM := Mid.start D a1 f1 B1 m1 g1 B2 a2 f2 B3 m2 g2 B4 hB5 hp hq
      clear a1 a1' f1 B1 m1 m1' g1 B2 a2 f2 B3 m2 g2 B4 hp hq hB5 zl
      revert hM
      generalize ((w4.alloc (.cells #[.pointer (some ⟨b1, 0, none⟩), .pointer (some ⟨c1, 0, none⟩)] 33)).alloc (.cells #[.pointer (some ⟨b2, 0, none⟩), .pointer (some ⟨c2, 0, none⟩)] 33)) = w5
      generalize w4.heap.size + 1 = q
      generalize w4.heap.size = p
      intro hM
      go_loopw [11] (fun ix wr => ∃ i b1 c1 b2 c2 F1 G1 F2 G2 S1 S2, i ≤ N ∧ ix = .int .i64 ((i : Nat) : Int) ∧ Mid At w wr p q b1 c1 b2 c2 F1 G1 F2 G2 S1 S2 i) (fun ix _ => N - aNat ix)
      case atStart => exact ⟨0, b1, c1, b2, c2, F1, G1, F2, G2, _, _, Nat.zero_le _, rfl, hM⟩
      case round =>
        clear hM
        obtain ⟨i, b1, c1, b2, c2, F1, G1, F2, G2, S1, S2, hi, rfl, hM⟩ := hrel
        by_cases hlt : i < N
        · obtain ⟨m, hm⟩ : ∃ m, ms[i]? = some m := ⟨_, List.getElem?_eq_getElem (by rw [← HN.out]; exact hlt)⟩
          have hA := HH.out.below hM.B
          obtain ⟨ad, rfl, hbl, hc⟩ := hA.at_ (by rintro rfl; simp at hm)
          obtain ⟨hX, hw, hMx⟩ := Mid.boxed D hM m
          have hok : ∀ w' b c F G b' c' F' G' S S', Mid At w w' p q b c b' c' F G F' G' S S' i → ActOk w' F G m.x m.A m.cb m.AK m.ck := fun w' b c F G b' c' F' G' S S' h => h.actOk HH.out hr.out.2 (List.mem_of_getElem? hm)
          have hops : i ≤ 80 := by have := hr.out.1; have := HN.out; omega
          obtain ⟨⟨kd, xn, xa, xm, xb, xk⟩, A, cb, AK, ck⟩ := m
          have y0 : wr.cell? (ad.add (i * 6)) = some (.int .i64 kd) := by have := hc i _ hm 0 _ rfl; rwa [add_none] at this
          have y1 : wr.cell? ⟨(ad.add (i * 6)).block, (ad.add (i * 6)).off + 1, none⟩ = some (.int .i64 xn) := by have := hc i _ hm 1 _ rfl; rwa [add_at _ 1 (by decide)] at this
          have y2 : wr.cell? ⟨(ad.add (i * 6)).block, (ad.add (i * 6)).off + 2, none⟩ = some (.int .i64 xa) := by have := hc i _ hm 2 _ rfl; rwa [add_at _ 2 (by decide)] at this
          have y3 : wr.cell? ⟨(ad.add (i * 6)).block, (ad.add (i * 6)).off + 3, none⟩ = some (.int .u8 (xm.toNat : Int)) := by have := hc i _ hm 3 _ rfl; rwa [add_at _ 3 (by decide)] at this
          have y4 : wr.cell? ⟨(ad.add (i * 6)).block, (ad.add (i * 6)).off + 4, none⟩ = some (.slice A xb.length cb) := by have := hc i _ hm 4 _ rfl; rwa [add_at _ 4 (by decide)] at this
          have y5 : wr.cell? ⟨(ad.add (i * 6)).block, (ad.add (i * 6)).off + 5, none⟩ = some (.slice AK xk.length ck) := by have := hc i _ hm 5 _ rfl; rwa [add_at _ 5 (by decide)] at this
          change BlkR 39 (wr.alloc (.cells #[.int .i64 kd, .int .i64 xn, .int .i64 xa, .int .u8 (xm.toNat : Int), .slice A xb.length cb, .slice AK xk.length ck] 39)) wr.heap.size [.int .i64 kd, .int .i64 xn, .int .i64 xa, .int .u8 (xm.toNat : Int), .slice A xb.length cb, .slice AK xk.length ck] at hX
          change Mid At w (wr.alloc (.cells #[.int .i64 kd, .int .i64 xn, .int .i64 xa, .int .u8 (xm.toNat : Int), .slice A xb.length cb, .slice AK xk.length ck] 39)) p q b1 c1 b2 c2 F1 G1 F2 G2 S1 S2 i at hMx
          have HZ := Lib.hid (And.intro hX (And.intro hMx (And.intro hw hok)))
          clear hX hMx hw hok hc hA hM hbl
          by_cases k6 : kd = 6
          · subst k6
            have x0 := HZ.out.1.cell (k := 0) rfl
            go_wp2_with fail
            obtain ⟨hX, hMx, hw, hok⟩ := HZ.out
            clear HZ y0 y1 y2 y3 y4 y5
            revert hX hMx x0
            generalize (wr.alloc (.cells #[.int .i64 6, .int .i64 xn, .int .i64 xa, .int .u8 (xm.toNat : Int), .slice A xb.length cb, .slice AK xk.length ck] 39)) = w1
            revert hw
            generalize wr.heap.size = gx
            intro hw x0 hX hMx
            clear x0
            have hdr : Below w1.heap.size w1 w1.drew := (Below.refl _ _).drew
            have hS : ∀ w', Below w1.heap.size w1 w' → w'.cell? ⟨p, 0, none⟩ = some (.pointer (some ⟨b1, 0, none⟩)) ∧ w'.cell? ⟨p, 1, none⟩ = some (.pointer (some ⟨c1, 0, none⟩)) := fun w' hB => ⟨(hMx.step D hB).hp.cell rfl, (hMx.step D hB).hp.cell rfl⟩
            have hS2 : ∀ w', Below w1.heap.size w1 w' → ∀ u v : Value, ((w'.setCell ⟨q, 0, none⟩ u).setCell ⟨q, 1, none⟩ v).cell? ⟨p, 0, none⟩ = some (.pointer (some ⟨b1, 0, none⟩)) ∧ ((w'.setCell ⟨q, 0, none⟩ u).setCell ⟨q, 1, none⟩ v).cell? ⟨p, 1, none⟩ = some (.pointer (some ⟨c1, 0, none⟩)) := fun w' hB u v => by
              have h2 := ((hMx.step D hB).hp.other ⟨q, 0, none⟩ u hMx.ne).other ⟨q, 1, none⟩ v hMx.ne
              exact ⟨h2.cell rfl, h2.cell rfl⟩
            have z1 : ∀ w', Below w1.heap.size w1 w' → _ := fun w' hB => D.clone w' b1 F1 S1 (hMx.step D hB).a.d
            have z2 : ∀ w', Below w1.heap.size w1 w' → _ := fun w' hB => mClone w' c1 G1 S1 (hMx.step D hB).a.m
            have hQ : ∀ w', Below w1.heap.size w1 w' → w'.cell? ⟨q, 0, none⟩ = some (.pointer (some ⟨b2, 0, none⟩)) ∧ w'.cell? ⟨q, 1, none⟩ = some (.pointer (some ⟨c2, 0, none⟩)) ∧ w'.frozen? ⟨q, 0, none⟩ = false ∧ w'.frozen? ⟨q, 1, none⟩ = false := fun w' hB => ⟨(hMx.step D hB).hq.cell rfl, (hMx.step D hB).hq.cell rfl, (hMx.step D hB).hq.frozen 0, (hMx.step D hB).hq.frozen 1⟩
            have HY := Lib.hid (And.intro hX (And.intro hMx (And.intro hw hok)))
            replace hS := Lib.hid hS
            replace hS2 := Lib.hid hS2
            replace hQ := Lib.hid hQ
            clear hX hMx hw hok
            go_region_held3 (fun w' => w'.cell? ⟨p, 0, none⟩ = some (.pointer (some ⟨b1, 0, none⟩)) ∧ w'.cell? ⟨p, 1, none⟩ = some (.pointer (some ⟨c1, 0, none⟩))) (first | exact hS.out _ (by assumption) | exact hS2.out _ (by assumption) _ _) (first
              | (go_at_call 13; refine (z1 _ (by assumption)).mono ?_; (rintro e w2 ⟨b3, F3, rfl, ha2, hf2, hB2⟩; have hB2' := step_trans hdr hB2))
              | (go_at_call 14; refine (z2 _ (by assumption)).mono ?_; (rintro e w3 ⟨c3, G3, rfl, hm3, hg3, hB3⟩; have hB3' := step_trans hB2' hB3; obtain ⟨q0, q1, r0, r1⟩ := hQ.out _ hB3')))
            obtain ⟨hX, hMx, hw, hok⟩ := HY.out
            obtain ⟨hq4, hr4⟩ := pair_store (hMx.step D hB3').hq (.pointer (some ⟨b3, 0, none⟩)) (.pointer (some ⟨c3, 0, none⟩))
            have hM4 := hMx.cloned D hB3' (clone_pair D ha2 hm3 hg3 hB3) (clone_new (w1 := w1) hf2 hg3 hB2') hr4 hq4
            have hX4 := (hX.step hB3').frame hr4 (fun e => hw.2 e.symm)
            have hx4 := hX4.cell (k := 0) rfl
            clear hX hMx hq4 hr4 HY ha2 hf2 hB2 hB2' hm3 hg3 hB3 hB3' q0 q1 r0 r1 hS hS2 hQ z1 z2 hdr
            revert hX4 hM4 hx4
            generalize ((w3.setCell ⟨q, 0, none⟩ (.pointer (some ⟨b3, 0, none⟩))).setCell ⟨q, 1, none⟩ (.pointer (some ⟨c3, 0, none⟩))) = wt
            intro hM4 hX4 hx4
            obtain ⟨⟨e0, e1, e2, e3, e4, e5, e10, e11⟩, ⟨e6, e7, e8, e9, e12, e13⟩, hX5, hM5⟩ := hM4.swap D hX4 hw
            have h0 := hM5.hq.cell (k := 0) rfl
            have h1 := hM5.hp.cell (k := 0) rfl
            have h2 := hM5.hp.cell (k := 1) rfl
            have x0 := hX5.cell (k := 0) rfl
            have x1 := hX5.cell (k := 1) rfl
            have x2 := hX5.cell (k := 2) rfl
            have x3 := hX5.cell (k := 3) rfl
            have x4 := hX5.cell (k := 4) rfl
            have x5 := hX5.cell (k := 5) rfl
            clear hX4 hM4 hX5
            have HZ := Lib.hid (And.intro hM5 hok)
            go_wp2_with fail
            clear e0 e1 e2 e3 e4 e5 e6 e7 e8 e9 e10 e11 e12 e13 h0 h1 h2 x0 x1 x2 x3 x4 x5
            obtain ⟨hM6, hok⟩ := HZ.out
            clear HZ
            unfold swC swB at hM6
            revert hM6
            generalize (((((wt.alloc (.cells #[.pointer (some ⟨b1, 0, none⟩), .pointer (some ⟨c1, 0, none⟩)] 33)).setCell ⟨p, 0, none⟩ (.pointer (some ⟨b3, 0, none⟩))).setCell ⟨p, 1, none⟩ (.pointer (some ⟨c3, 0, none⟩))).setCell ⟨q, 0, none⟩ (.pointer (some ⟨b1, 0, none⟩))).setCell ⟨q, 1, none⟩ (.pointer (some ⟨c1, 0, none⟩))) = w6
            intro hM6
            refine (act_any D w6 b3 c3 F3 G3 S1 ⟨6, xn, xa, xm, xb, xk⟩ A cb AK ck hM6.a (by have := hM6.o1; omega) (hok _ _ _ _ _ _ _ _ _ _ _ hM6)).mono ?_
            rintro e w7 ⟨T, F5, G5, rfl, ha7, ho7, hf7, hg7, hFr7⟩
            have hM7 := hM6.acted D ha7 ho7 hf7 hg7 hFr7
            have p0 := hM7.hp.cell (k := 0) rfl
            have p1 := hM7.hp.cell (k := 1) rfl
            have z8 := alike_any D w7 b3 c3 F5 G5 T hM7.a (by have := hM7.o1; omega)
            have z9 : ∀ w8, Below w7.heap.size w7 w8 → _ := fun w8 hB => alike_any D w8 b1 c1 F1 G1 S1 (hM7.step D hB).d (by have := hM7.o2; omega)
            have hQ : ∀ w8, Below w7.heap.size w7 w8 → w8.cell? ⟨q, 0, none⟩ = some (.pointer (some ⟨b1, 0, none⟩)) ∧ w8.cell? ⟨q, 1, none⟩ = some (.pointer (some ⟨c1, 0, none⟩)) := fun w8 hB => ⟨(hM7.step D hB).hq.cell rfl, (hM7.step D hB).hq.cell rfl⟩
            have HM := Lib.hid hM7
            replace hQ := Lib.hid hQ
            clear hM6 hM7 ha7 ho7 hf7 hg7 hFr7 hok
            go_wp2_with (go_at_call 16; first
              | ((with_reducible refine z8.mono ?_); (rintro e w8 ⟨rfl, hB8⟩; obtain ⟨q0, q1⟩ := hQ.out w8 hB8))
              | ((with_reducible refine (z9 w8 hB8).mono ?_); (rintro e w9 ⟨rfl, hB9⟩)))
            go_roundw
            case rel => exact ⟨i + 1, b3, c3, b1, c1, F5, G5, F1, G1, T, S1, by omega, by go_num, (HM.out.step D hB8).step D hB9⟩
            case measure => simp [aNat]; omega
          · by_cases k7 : kd = 7
            · subst k7
              clear k6
              obtain ⟨hX4, hM4, hw, hok⟩ := HZ.out
              clear HZ
              have hx4 := hX4.cell (k := 0) rfl
              have hs1 : (wr.alloc (.cells #[.int .i64 7, .int .i64 xn, .int .i64 xa, .int .u8 (xm.toNat : Int), .slice A xb.length cb, .slice AK xk.length ck] 39)).heap.size = wr.heap.size + 1 := by simp
              obtain ⟨⟨e0, e1, e2, e3, e4, e5, e10, e11⟩, ⟨e6, e7, e8, e9, e12, e13⟩, hX5, hM5⟩ := hM4.swap D hX4 hw
              rw [hs1] at e6 e7
              have h0 := hM5.hq.cell (k := 0) rfl
              have h1 := hM5.hp.cell (k := 0) rfl
              have h2 := hM5.hp.cell (k := 1) rfl
              have x0 := hX5.cell (k := 0) rfl
              have x1 := hX5.cell (k := 1) rfl
              have x2 := hX5.cell (k := 2) rfl
              have x3 := hX5.cell (k := 3) rfl
              have x4 := hX5.cell (k := 4) rfl
              have x5 := hX5.cell (k := 5) rfl
              clear hX4 hM4 hX5
              have HZ := Lib.hid (And.intro hM5 hok)
              go_wp2_with fail
              clear e0 e1 e2 e3 e4 e5 e6 e7 e8 e9 e10 e11 e12 e13 h0 h1 h2 x0 x1 x2 x3 x4 x5
              obtain ⟨hM6, hok⟩ := HZ.out
              clear HZ
              unfold swC swB at hM6
              revert hM6
              generalize (((((((wr.alloc (.cells #[.int .i64 7, .int .i64 xn, .int .i64 xa, .int .u8 (xm.toNat : Int), .slice A xb.length cb, .slice AK xk.length ck] 39))).alloc (.cells #[.pointer (some ⟨b1, 0, none⟩), .pointer (some ⟨c1, 0, none⟩)] 33)).setCell ⟨p, 0, none⟩ (.pointer (some ⟨b2, 0, none⟩))).setCell ⟨p, 1, none⟩ (.pointer (some ⟨c2, 0, none⟩))).setCell ⟨q, 0, none⟩ (.pointer (some ⟨b1, 0, none⟩))).setCell ⟨q, 1, none⟩ (.pointer (some ⟨c1, 0, none⟩))) = w6
              intro hM6
              refine (act_any D w6 b2 c2 F2 G2 S2 ⟨7, xn, xa, xm, xb, xk⟩ A cb AK ck hM6.a (by have := hM6.o1; omega) (hok _ _ _ _ _ _ _ _ _ _ _ hM6)).mono ?_
              rintro e w7 ⟨T, F5, G5, rfl, ha7, ho7, hf7, hg7, hFr7⟩
              have hM7 := hM6.acted D ha7 ho7 hf7 hg7 hFr7
              have p0 := hM7.hp.cell (k := 0) rfl
              have p1 := hM7.hp.cell (k := 1) rfl
              have z8 := alike_any D w7 b2 c2 F5 G5 T hM7.a (by have := hM7.o1; omega)
              have z9 : ∀ w8, Below w7.heap.size w7 w8 → _ := fun w8 hB => alike_any D w8 b1 c1 F1 G1 S1 (hM7.step D hB).d (by have := hM7.o2; omega)
              have hQ : ∀ w8, Below w7.heap.size w7 w8 → w8.cell? ⟨q, 0, none⟩ = some (.pointer (some ⟨b1, 0, none⟩)) ∧ w8.cell? ⟨q, 1, none⟩ = some (.pointer (some ⟨c1, 0, none⟩)) := fun w8 hB => ⟨(hM7.step D hB).hq.cell rfl, (hM7.step D hB).hq.cell rfl⟩
              have HM := Lib.hid hM7
              replace hQ := Lib.hid hQ
              clear hM6 hM7 ha7 ho7 hf7 hg7 hFr7 hok
              go_wp2_with (go_at_call 16; first
                | ((with_reducible refine z8.mono ?_); (rintro e w8 ⟨rfl, hB8⟩; obtain ⟨q0, q1⟩ := hQ.out w8 hB8))
                | ((with_reducible refine (z9 w8 hB8).mono ?_); (rintro e w9 ⟨rfl, hB9⟩)))
              go_roundw
              case rel => exact ⟨i + 1, b2, c2, b1, c1, F5, G5, F1, G1, T, S1, by omega, by go_num, (HM.out.step D hB8).step D hB9⟩
              case measure => simp [aNat]; omega
            · skip
              obtain ⟨hX5, hM5, hw, hok⟩ := HZ.out
              clear HZ
              have t6 : (kd == 6) = false := by simpa using k6
              have t7 : (kd == 7) = false := by simpa using k7
              clear k6 k7
              have h0 := hM5.hq.cell (k := 0) rfl
              have h1 := hM5.hp.cell (k := 0) rfl
              have h2 := hM5.hp.cell (k := 1) rfl
              have x0 := hX5.cell (k := 0) rfl
              have x1 := hX5.cell (k := 1) rfl
              have x2 := hX5.cell (k := 2) rfl
              have x3 := hX5.cell (k := 3) rfl
              have x4 := hX5.cell (k := 4) rfl
              have x5 := hX5.cell (k := 5) rfl
              clear hX5
              have HZ := Lib.hid (And.intro hM5 hok)
              go_wp2_with fail
              clear  h0 h1 h2 x0 x1 x2 x3 x4 x5
              obtain ⟨hM6, hok⟩ := HZ.out
              clear HZ
              revert hM6
              generalize (wr.alloc (.cells #[.int .i64 kd, .int .i64 xn, .int .i64 xa, .int .u8 (xm.toNat : Int), .slice A xb.length cb, .slice AK xk.length ck] 39)) = w6
              intro hM6
              refine (act_any D w6 b1 c1 F1 G1 S1 ⟨kd, xn, xa, xm, xb, xk⟩ A cb AK ck hM6.a (by have := hM6.o1; omega) (hok _ _ _ _ _ _ _ _ _ _ _ hM6)).mono ?_
              rintro e w7 ⟨T, F5, G5, rfl, ha7, ho7, hf7, hg7, hFr7⟩
              have hM7 := hM6.acted D ha7 ho7 hf7 hg7 hFr7
              have p0 := hM7.hp.cell (k := 0) rfl
              have p1 := hM7.hp.cell (k := 1) rfl
              have z8 := alike_any D w7 b1 c1 F5 G5 T hM7.a (by have := hM7.o1; omega)
              have z9 : ∀ w8, Below w7.heap.size w7 w8 → _ := fun w8 hB => alike_any D w8 b2 c2 F2 G2 S2 (hM7.step D hB).d (by have := hM7.o2; omega)
              have hQ : ∀ w8, Below w7.heap.size w7 w8 → w8.cell? ⟨q, 0, none⟩ = some (.pointer (some ⟨b2, 0, none⟩)) ∧ w8.cell? ⟨q, 1, none⟩ = some (.pointer (some ⟨c2, 0, none⟩)) := fun w8 hB => ⟨(hM7.step D hB).hq.cell rfl, (hM7.step D hB).hq.cell rfl⟩
              have HM := Lib.hid hM7
              replace hQ := Lib.hid hQ
              clear hM6 hM7 ha7 ho7 hf7 hg7 hFr7 hok
              go_wp2_with (go_at_call 16; first
                | ((with_reducible refine z8.mono ?_); (rintro e w8 ⟨rfl, hB8⟩; obtain ⟨q0, q1⟩ := hQ.out w8 hB8))
                | ((with_reducible refine (z9 w8 hB8).mono ?_); (rintro e w9 ⟨rfl, hB9⟩)))
              go_roundw
              case rel => exact ⟨i + 1, b1, c1, b2, c2, F5, G5, F2, G2, T, S2, by omega, by go_num, (HM.out.step D hB8).step D hB9⟩
              case measure => simp [aNat]; omega
        · obtain rfl : i = N := by omega
          have HM := Lib.hid hM.B
          clear hM
          go_wp2_with (go_at_call 12; refine (awake_any D wr).mono ?_; (rintro e w3 ⟨rfl, hB3⟩))
          go_ret
          exact ⟨rfl, step_trans HM.out hB3⟩
    · go_ret
      exact ⟨rfl, Below.refl _ _⟩
end
end Go.Proofs.Ytmkibkafccgmgaa
