/-
  SessionOnce: again. Conditions: none.
-/
import Derived.Test.YtfopjilncfndnaaDoorSsOnceRecv
namespace Go.Proofs.YtfopjilncfndnaaDoor
open Go.RowKit Fix

section
variable {w0 w w' : World} {q a b : Nat} {V : Nat → Value} {T : Nat → List (List UInt8)} {D : Nat → Nat → Bool} {X : Nat → List Tx} {L : List Lt} {E : Nat → Ss.S → Prop}
/-- what Resend tells: all that waits, in new blocks, which stay whatever older ones become -/
def RsTo (s : Ss.S) (base : Nat) (w' : World) (A : Option Addr) : Prop :=
  ∀ k m, s.wait[k]? = some m → ∃ (g : Nat) (A1 : Option Addr) (c : Nat), A = some ⟨g, 0, none⟩ ∧ (s.dat m).Ok ∧ m.2.length + 41 ≤ c ∧ ∀ v, Frame (fun j => j < base) w' v → v.cell? ⟨g, k, none⟩ = some (.slice A1 (m.2.length + 41) c) ∧ BytesAt v v.heap.size A1 (s.dat m).enc ∧ ∀ ad, A1 = some ad → base ≤ ad.block ∧ ad.block < w'.heap.size
theorem bt_resendR {Wy : Nat → Prop} {Pa Pb : Ss.S → Prop} {s : Ss.S} (h : Bt w0 w a b Pa Pb Wy) (hs : ∀ t, Pa t → t = s) :
    Calls Tryd.prog 27 #[.pointer (some ⟨a, 0, none⟩)] w fun e w' => ∃ A c, e = .returned (.slice A s.wait.length c) ∧ RsTo s w.heap.size w' A ∧ Bt w0 w' a b Pa Pb Wy ∧ Below w.heap.size w w' := by
  obtain ⟨Fa, Fb, sa, sb, T, h1, h2, h3⟩ := h
  obtain rfl := hs sa h1
  have hok := T.a_.ok
  refine (resend_any a Fa sa w T.a_ T.tab).mono fun e w' ⟨A, c, vs, k1, k2, k3, k4⟩ => ?_
  refine ⟨A, c, k1, fun k m hm => ?_, Bt.step ⟨Fa, Fb, sa, sb, T, h1, h2, h3⟩ k4, k4⟩
  have hmem := List.mem_of_getElem? hm
  have hp := hok.pay m hmem
  have hkl := (List.getElem?_eq_some_iff.1 hm).1
  obtain ⟨B, b1, b2, b3, b4⟩ := k3.at_
  have hlen := k3.len
  have hdl : (dats sa sa.wait).length = sa.wait.length := by simp [dats]
  have hv := List.getElem?_eq_getElem (show k < vs.length by omega)
  have he : (dats sa sa.wait)[k]? = some (sa.dat m).enc := by simp [dats, hm]
  obtain ⟨o1, o2⟩ := b4 k _ _ hv he
  obtain ⟨g, hg, hg1, hg2, _⟩ := k2.at_g (by omega)
  subst hg
  have hBk : w.heap.size ≤ B k := by have := upto_le b2 0 k; rw [Nat.zero_add] at this; omega
  obtain ⟨A1, c1, hu, hc1⟩ := o1.form
  rw [hu] at o1 hv
  have hcell := k2.cell hv
  have el := Ss.enc_length (sa.dat m)
  have el2 : (sa.dat m).enc.length = m.2.length + 41 := el
  have lo : ∀ ad, A1 = some ad → w.heap.size ≤ ad.block ∧ ad.block < w'.heap.size := fun ad e => by
    subst e
    have := o1.lt ad.block rfl
    omega
  rw [el2] at hcell hc1
  refine ⟨g, A1, c1, rfl, Ss.dat_ok hok m (.inr hp), hc1, fun v fr => ⟨(World.cell?_of_block (w := w') (fr.block g hg2 (by omega))).trans hcell, ?_, lo⟩⟩
  exact fr.bytes o1.own.bytes fun ad e => by have := (lo ad e).1; omega
/-- row 2 turned: what else becomes of the world -/
theorem put_frame {w5 w9 : World} {v : Value} {k : Nat} (B5 : Below w.heap.size w w5) (hg : w5.grownBy w9 (V k).ownBlock) : Frame (fun g => (V k).ownBlock = some g ∨ g = q) w (w9.setCell ⟨q, k, none⟩ v) := by
  have F2 : Frame (OneQ q) w9 (w9.setCell ⟨q, k, none⟩ v) := ⟨rfl, rfl, rfl, by simp, fun j _ hj => Below.heap_setCell w9 ⟨q, k, none⟩ v j hj⟩
  exact (((Frame.of_below B5).trans (Frame.of_grown hg) fun g e => .inl (.inl e)) : Frame (fun g => (V k).ownBlock = some g ∨ g = q) w w9).trans F2 fun g e => .inl (.inr e)
/-- one datagram more on its way -/
theorem way_push {w5 w9 : World} {v9 : Value} {m : Lt} (h : PrE w0 w q a b V T D X L E) (hm : LtOk a b q V w T D m) (B5 : Below w.heap.size w w5) (o : OwnK 86 2 w9 w0.heap.size v9 (L.length + 1) (L.flatMap ltC ++ ltC m)) (hg : w5.grownBy w9 (V 2).ownBlock) (hat : v9.ownBlock = (V 2).ownBlock ∨ v9.ownBlock = some w5.heap.size) :
    w9.frozen? ⟨q, 2, none⟩ = false ∧ w9.cell? ⟨q, 2, none⟩ = some (V 2) ∧ PrE w0 (w9.setCell ⟨q, 2, none⟩ v9) q a b (On.upf V 2 v9) T D X (L ++ [m]) E := by
  obtain ⟨f, c, P⟩ := pm_app h.pm 2 (by decide) B5 (n' := L.length + 1) (xs' := L.flatMap ltC ++ ltC m) o hg hat
  refine ⟨f, c, P.pm.congr fun k k2 k6 => ?_, fun x hx => ?_, fun i hi => ⟨(h.txs i hi).1, fun t ht => ?_⟩, h.shp⟩
  · by_cases e : k = 2
    · subst e
      rw [On.upf_at, On.upf_at]
      exact ⟨by show _ = (L ++ [m]).length; simp, by show _ = (L ++ [m]).flatMap ltC; simp [List.flatMap_append]⟩
    · rw [On.upf_ne _ _ e, On.upf_ne _ _ e]
      unfold prN prX
      rw [if_neg e, if_neg e, if_neg e, if_neg e]
      exact ⟨rfl, rfl⟩
  · rcases List.mem_append.1 hx with hx | hx
    · obtain ⟨g1, g2, g3, g4, g5⟩ := h.lts x hx
      exact ⟨g1, g2, g3, g4, P.far _ _ g5⟩
    · rw [List.mem_singleton.1 hx]
      exact ⟨hm.dst, hm.goes, hm.ok, hm.cap, P.far _ _ hm.far⟩
  · obtain ⟨g1, g2⟩ := (h.txs i hi).2 t ht
    exact ⟨g1, P.far _ _ g2⟩
/-- those that are sent again: of what s has waiting -/
def AgL (s : Ss.S) (j : Nat) (Ls : List Lt) : Prop := ∀ (k : Nat) (x : Lt), Ls[k]? = some x → ∃ m, s.wait[k]? = some m ∧ x.dst = j ∧ x.d = s.dat m
/-- what stands in the loop of again -/
def AgRel (w0 w : World) (q a b : Nat) (T : Nat → List (List UInt8)) (D : Nat → Nat → Bool) (X : Nat → List Tx) (L : List Lt) (E : Nat → Ss.S → Prop) (s : Ss.S) (i base : Nat) (ix : Value) (wr : World) : Prop :=
  ∃ V Ls, ix = .int .i64 (Ls.length : Int) ∧ Ls.length ≤ s.wait.length ∧ PrE w0 wr q a b V T D X (L ++ Ls) E ∧ AgL s (1 - i) Ls ∧ Frame (fun j => j < base) w wr ∧ ∀ k, 2 ≤ k → k ≤ 6 → ∀ g, (V k).ownBlock = some g → g < base ∨ w.heap.size ≤ g
def vK : Value → Nat
  | .int _ q => q.toNat
  | _ => 0
set_option maxRecDepth 100000 in
set_option maxHeartbeats 4000000 in
theorem pr_again (h : PrE w0 w q a b V T D X L E) (i : Nat) (hi : i < 2) (s : Ss.S) (hs : ∀ t, E i t → t = s) (hL : L.length ≤ 4000) :
    Calls Tryd.prog 33 #[.pointer (some ⟨q, 0, none⟩), .int .i64 (i : Int)] w fun e w' => e = .returned (.int .i64 (s.wait.length : Int)) ∧ ∃ V' Ls, PrE w0 w' q a b V' T D X (L ++ Ls) E ∧ Ls.length = s.wait.length ∧ AgL s (1 - i) Ls := by
  have y := h.pm.ses hi
  have hi2 : (i : Int) < 2 := by omega
  have z := bt_resendR (h.bti hi) (s := s) fun t k => hs t k.2
  obtain ⟨u, hu, _⟩ := pin (h.bti hi)
  have hus : u = s := hs u hu.2
  have hside : On.Side T D i (1 - i) s := by rw [← hus]; exact hu.1
  have h16 : s.wait.length ≤ 16 := hside.sends.many
  obtain ⟨M, hM⟩ : ∃ M, M = s.wait.length := ⟨_, rfl⟩
  rw [← hM] at z ⊢
  have POST := Lib.hid (fun w' (bt' : BtI w0 w' a b i (fun s => SideI T D i s ∧ E i s) (fun s => SideI T D (1 - i) s ∧ E (1 - i) s) (Wp q V)) (B : Below w.heap.size w w') => h.step B)
  have hq : q < w.heap.size := (h.pm.wp (.inl rfl)).1
  have hV2 : ∀ k, 2 ≤ k → k ≤ 6 → ∀ g, (V k).ownBlock = some g → g < w.heap.size := fun k k2 k6 g e => (h.pm.wp (.inr ⟨k, k2, k6, e⟩)).1
  have hlow := h.pm.low
  have hwj : IntKind.i64.wrap (1 - (i : Int)) = ((1 - i : Nat) : Int) := by rw [IntWalk.i64_in _ (by omega)]; omega
  obtain ⟨J, hJ⟩ : ∃ J, J = ((1 - i : Nat) : Int) := ⟨_, rfl⟩
  rw [← hJ] at hwj
  have HH := Lib.hid (And.intro hside (And.intro hM (And.intro hL (And.intro hq (And.intro hV2 (And.intro hi (And.intro hJ hlow)))))))
  have h16' : M ≤ 16 := by omega
  clear h hs hu hus hside hM hL hq hV2 hi hJ h16 hlow
  go_enter Tryd.func33, Tryd.ntmps33
  go_wp2_with (go_at_call 27; (with_reducible refine z.mono ?_); (rintro e w3 ⟨A, c, rfl, k1, k2, k3⟩; have P3 := Lib.hid (POST.out w3 k2 k3); have TELL := Lib.hid k1; have HS := Lib.hid k3.size; clear k1 k2 k3))
  clear z y
  go_loopw [6] (fun ix wr => AgRel w0 w3 q a b T D X L E s i w.heap.size ix wr) (fun ix _ => 17 - vK ix)
  case atStart => exact ⟨V, [], rfl, Nat.zero_le _, by rw [List.append_nil]; exact P3.out, (fun k x hx => by simp at hx), Frame.refl _ _, fun k k2 k6 g e => .inl (HH.out.2.2.2.2.1 k k2 k6 g e)⟩
  case round =>
    obtain ⟨V', Ls, rfl, hk, inv, ag, F, hown⟩ := hrel
    obtain ⟨k, hk0⟩ : ∃ k, k = Ls.length := ⟨_, rfl⟩
    rw [← hk0] at hk ⊢
    rw [← HH.out.2.1] at hk
    by_cases hkM : k = M
    · have hkl : ¬ (k : Int) < (M : Int) := by omega
      have INV := Lib.hid (And.intro inv (And.intro ag (And.intro hk0 hkM)))
      clear inv ag hk0 hk F hown hkM
      go_wp2
      go_ret
      exact ⟨rfl, V', Ls, INV.out.1, INV.out.2.2.1.symm.trans INV.out.2.2.2, INV.out.2.1⟩
    · have hkl : (k : Int) < (M : Int) := by omega
      obtain ⟨m, hm⟩ : ∃ m, s.wait[k]? = some m := ⟨_, List.getElem?_eq_getElem (by rw [← HH.out.2.1]; omega)⟩
      obtain ⟨g, A1, c1, rfl, d1, d2, d3⟩ := TELL.out k m hm
      obtain ⟨e1, e2, e3⟩ := d3 wr F
      obtain ⟨hside, hM, hL, hq, hV2, hi, hJ, hlow⟩ := HH.out
      have hlt : LtOk a b q V' wr T D ⟨1 - i, A1, c1, s.dat m⟩ := by
        refine ⟨by show 1 - i < 2; omega, ?_, d1, d2, e2, fun ad e hl => ?_⟩
        · show On.Goes T D (1 - (1 - i)) (1 - i) (s.dat m)
          rw [show 1 - (1 - i) = i by omega]
          exact hside.dat m (List.mem_of_getElem? hm)
        · obtain ⟨x1, x2⟩ := e3 ad e
          have := HS.out
          refine ⟨by omega, by omega, fun hw => ?_⟩
          rcases hw with hw | ⟨j, j2, j6, hw⟩
          · omega
          · rcases hown j j2 j6 _ hw with y | y <;> omega
      obtain ⟨Aw, cw, hVw, _⟩ := inv.pr.way.form
      obtain ⟨N2, hN2⟩ : ∃ N2, N2 = (L ++ Ls).length := ⟨_, rfl⟩
      rw [← hN2] at hVw
      have hN3 : N2 ≤ 4016 := by rw [hN2, List.length_append]; omega
      obtain ⟨n1, hn1⟩ : ∃ n1, n1 = m.2.length + 41 := ⟨_, rfl⟩
      have POST2 : Hid (∀ w5 w9 v9, Below wr.heap.size wr w5 → OwnK 86 2 w9 w0.heap.size v9 (N2 + 1) ((L ++ Ls).flatMap ltC ++ [.int .i64 J, .slice A1 n1 c1]) → w5.grownBy w9 (Value.slice Aw N2 cw).ownBlock → (v9.ownBlock = (Value.slice Aw N2 cw).ownBlock ∨ v9.ownBlock = some w5.heap.size) →
          w9.frozen? ⟨q, 2, none⟩ = false ∧ w9.cell? ⟨q, 2, none⟩ = some (.slice Aw N2 cw) ∧ AgRel w0 w3 q a b T D X L E s i w.heap.size (.int .i64 ((k + 1 : Nat) : Int)) (w9.setCell ⟨q, 2, none⟩ v9)) := Lib.hid fun w5 w9 v9 B5 o1 o2 o3 => by
        rw [hJ, hn1, hN2] at o1
        rw [← hVw] at o2 o3 ⊢
        obtain ⟨f, x, P⟩ := way_push inv hlt B5 o1 o2 o3
        refine ⟨f, x, On.upf V' 2 v9, Ls ++ [⟨1 - i, A1, c1, s.dat m⟩], by rw [List.length_append, ← hk0]; rfl, by rw [List.length_append, ← hk0, ← hM]; show k + 1 ≤ M; omega, by rw [← List.append_assoc]; exact P, fun j x hx => ?_, F.trans (put_frame B5 o2) fun g hg => ?_, fun j j2 j6 g e => ?_⟩
        · by_cases hj : j < Ls.length
          · rw [List.getElem?_append_left hj] at hx
            exact ag j x hx
          · rw [List.getElem?_append_right (by omega)] at hx
            obtain ⟨z1, z2⟩ := List.getElem?_eq_some_iff.1 hx
            simp at z1 z2
            have : j = k := by omega
            subst this
            exact ⟨m, hm, by rw [← z2], by rw [← z2]⟩
        · rcases hg with hg | hg
          · rcases hown 2 (by decide) (by decide) g hg with y | y
            · exact .inl y
            · exact .inr y
          · exact .inl (show g < w.heap.size by omega)
        · by_cases ej : j = 2
          · subst ej
            rw [On.upf_at] at e
            rcases o3 with y | y
            · exact hown 2 (by decide) (by decide) g (by rw [← y]; exact e)
            · rw [y] at e
              injection e with e
              have := F.size
              have := B5.size
              exact .inr (by omega)
          · rw [On.upf_ne _ _ ej] at e
            exact hown j j2 j6 g e
      have ROW : Hid (∀ w5, Below wr.heap.size wr w5 → OwnK 86 2 w5 w0.heap.size (.slice Aw N2 cw) N2 ((L ++ Ls).flatMap ltC)) := Lib.hid fun w5 B => by
        have := (inv.step B).pr.way
        rwa [hVw, ← hN2] at this
      have u2 : ∀ w5, Below wr.heap.size wr w5 → w5.cell? ⟨q, 2, none⟩ = some (.slice Aw N2 cw) := fun w5 B => by rw [← hVw]; exact (inv.step B).pm.row (by decide) (by decide)
      have u3 : ∀ w5, Below wr.heap.size wr w5 → w5.cell? ⟨g, k, none⟩ = some (.slice A1 n1 c1) := fun w5 B => by
        rw [hn1]
        exact (d3 w5 (F.trans (Frame.of_below (F := fun j => j < w.heap.size) B) fun _ e => .inl e)).1
      have y2 := u2 wr (Below.refl _ wr)
      have y3 := u3 wr (Below.refl _ wr)
      have y4 := fun o => u2 (wr.alloc o) (step_alloc (Below.refl _ wr) o)
      have y5 := fun o => u3 (wr.alloc o) (step_alloc (Below.refl _ wr) o)
      have HB := Lib.hid inv.pm.fr.size
      have HN := Lib.hid hN3
      have hwk : IntKind.i64.wrap ((k : Int) + 1) = (k : Int) + 1 := IntWalk.i64_in _ (by omega)
      have HKM := Lib.hid (And.intro hkM hk)
      obtain ⟨xs, hxs⟩ : ∃ xs, xs = (L ++ Ls).flatMap ltC := ⟨_, rfl⟩
      rw [← hxs] at POST2 ROW
      clear inv ag F hown hkM hk hk0 hm d1 d2 d3 e1 e2 e3 hside hM hL hq hV2 hi hJ hlow hlt hVw hN2 hN3 hn1 u2 u3 hxs TELL
      go_wp2_with fail
      go_region_law (refine step_appendK rfl (.tmp 24) (.tmp 32) elLt rfl (by simp [Act.eval]) (ROW.out _ (step_alloc (Below.refl _ wr) _).drew) ⟨wr.heap.size, 0, none⟩ 1 (by simp [Act.eval]) (ys := [.int .i64 J, .slice A1 n1 c1]) (m := 1) rfl (fun j u hu => (by rw [addr_zero_add]; exact (BlkR.new wr [.int .i64 J, .slice A1 n1 c1] 86).cell hu)) (by intro u hu; simp only [List.mem_cons, List.not_mem_nil, or_false] at hu; rcases hu with rfl | rfl <;> rfl) (by have := HN.out; unfold maxLen; omega) (by have := HN.out; omega) (by have := HB.out; simp; omega) ?_; (intro v9 w9 o9 gr9 k9; obtain ⟨f9, x9, T9⟩ := POST2.out _ _ _ (step_alloc (Below.refl _ wr) _).drew o9 gr9 k9; obtain ⟨A9, c9, e9, _⟩ := o9.form; subst e9; have T9 := Lib.hid T9; clear o9 gr9 k9))
      all_goals go_wp2
      all_goals exact ⟨T9.out, by have := HKM.out; simp [vK]; omega⟩
end
end Go.Proofs.YtfopjilncfndnaaDoor
