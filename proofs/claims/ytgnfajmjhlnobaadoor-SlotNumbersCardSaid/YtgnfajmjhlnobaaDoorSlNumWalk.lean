/-
  The walk of SlotNumbers. Conditions: the table of crc lies as the program's text lays it; what came in can be read.
-/
import Derived.Test.YtgnfajmjhlnobaaDoorSlNum
namespace Go.Proofs.YtgnfajmjhlnobaaDoor
open Go.RowKit Fix

def vM : Value → Nat
  | .int _ q => q.toNat
  | _ => 0
abbrev numCells (n0 n1 : Nat) : List Value := [.int .i64 (n0 : Int), .int .i64 (n1 : Int)]
abbrev recCells (A0 : Option Addr) (m0 c0 : Nat) (A1 : Option Addr) (m1 c1 : Nat) : List Value := [.slice A0 m0 c0, .slice A1 m1 c1]
/-- what holds between two rounds -/
structure NmInv (w wr : World) (b g1 g2 i : Nat) (F : Nat → Prop) (S : DS) (n0 n1 : Nat) (A0 : Option Addr) (r0 : List UInt8) (c0 : Nat) (A1 : Option Addr) (r1 : List UInt8) (c1 : Nat) : Prop where
  at_ : DiskAt wr b F S
  far : ∀ x, F x → w.heap.size ≤ x
  below : Below w.heap.size w wr
  q : S.Quiet
  n : S.n = 5
  ops : S.ops ≤ 4 * i
  h1 : BlkR 3 wr g1 (numCells n0 n1)
  h2 : BlkR 22 wr g2 (recCells A0 r0.length c0 A1 r1.length c1)
  f1 : ¬ F g1
  f2 : ¬ F g2
  w1 : w.heap.size ≤ g1
  w2 : w.heap.size ≤ g2
  ne : g1 ≠ g2
  s0 : Slot.St S 0 n0 r0
  s1 : Slot.St S 1 n1 r1
  b0 : BytesAt w w.heap.size A0 r0
  b1 : BytesAt w w.heap.size A1 r1
  l0 : n0 ≤ i
  l1 : n1 ≤ i
theorem NmInv.step {w wr wi : World} {b g1 g2 i : Nat} {F : Nat → Prop} {S : DS} {n0 n1 : Nat} {A0 : Option Addr} {r0 : List UInt8} {c0 : Nat} {A1 : Option Addr} {r1 : List UInt8} {c1 : Nat} (h : NmInv w wr b g1 g2 i F S n0 n1 A0 r0 c0 A1 r1 c1) (hb : Below wr.heap.size wr wi) : NmInv w wi b g1 g2 i F S n0 n1 A0 r0 c0 A1 r1 c1 :=
  ⟨At_step disks h.at_ hb, h.far, step_trans h.below hb, h.q, h.n, h.ops, h.h1.step hb, h.h2.step hb, h.f1, h.f2, h.w1, h.w2, h.ne, h.s0, h.s1, h.b0, h.b1, h.l0, h.l1⟩
theorem NmInv.more {w wr : World} {b g1 g2 i : Nat} {F : Nat → Prop} {S : DS} {n0 n1 : Nat} {A0 : Option Addr} {r0 : List UInt8} {c0 : Nat} {A1 : Option Addr} {r1 : List UInt8} {c1 : Nat} (h : NmInv w wr b g1 g2 i F S n0 n1 A0 r0 c0 A1 r1 c1) : NmInv w wr b g1 g2 (i + 1) F S n0 n1 A0 r0 c0 A1 r1 c1 :=
  ⟨h.at_, h.far, h.below, h.q, h.n, by have := h.ops; omega, h.h1, h.h2, h.f1, h.f2, h.w1, h.w2, h.ne, h.s0, h.s1, h.b0, h.b1, by have := h.l0; omega, by have := h.l1; omega⟩
def WholePost (w : World) (e : Ending) (w' : World) : Prop := e = .returned (.bool true) ∧ Below w.heap.size w w'
/-- what the inner rounds read -/
theorem NmInv.inner {w wo : World} {b g1 g2 i : Nat} {F : Nat → Prop} {S : DS} {n0 n1 : Nat} {A0 : Option Addr} {r0 : List UInt8} {c0 : Nat} {A1 : Option Addr} {r1 : List UInt8} {c1 : Nat} (h : NmInv w wo b g1 g2 i F S n0 n1 A0 r0 c0 A1 r1 c1) (hi : i ≤ 1000) (ht : TabAt w) :
    ∀ j, j < 2 → ∃ (nj : Nat) (Aj : Option Addr) (mj cj : Nat), ∀ wi, Below wo.heap.size wo wi → wi.cell? ⟨g1, j, none⟩ = some (.int .i64 (nj : Int)) ∧ wi.cell? ⟨g2, j, none⟩ = some (.slice Aj mj cj) ∧ (1 ≤ nj →
      Calls Tryd.prog 29 #[.pointer (some ⟨b, 0, none⟩), .int .i64 (3 * (j : Int)), .int .i64 (nj : Int), .slice Aj mj cj] wi (WholePost wi) ∧
      Calls Tryd.prog 29 #[.pointer (some ⟨b, 0, none⟩), .int .i64 (3 * (j : Int) + 1), .int .i64 (nj : Int), .slice Aj mj cj] wi (WholePost wi)) := by
  have go : ∀ (j n : Nat) (A : Option Addr) (r : List UInt8) (c : Nat), j < 2 → n ≤ i → Slot.St S j n r → BytesAt w w.heap.size A r → ∀ wi, Below wo.heap.size wo wi → 1 ≤ n →
      Calls Tryd.prog 29 #[.pointer (some ⟨b, 0, none⟩), .int .i64 (3 * (j : Int)), .int .i64 (n : Int), .slice A r.length c] wi (WholePost wi) ∧
      Calls Tryd.prog 29 #[.pointer (some ⟨b, 0, none⟩), .int .i64 (3 * (j : Int) + 1), .int .i64 (n : Int), .slice A r.length c] wi (WholePost wi) := by
    intro j n A r c hj hn hs hr wi hb h1
    have hi' := h.step hb
    have tw := ht.below hi'.below (Nat.le_refl _)
    have rw_ := (hr.below hi'.below).more hi'.below.size
    have e3 : (3 * (j : Int)) = ((3 * j : Nat) : Int) := by omega
    have e4 : (3 * (j : Int) + 1) = ((3 * j + 1 : Nat) : Int) := by omega
    have hn5 := h.n
    rcases hs with ⟨h0, _⟩ | ⟨_, h40, k1, k2⟩
    · omega
    · rw [e4, e3]
      exact ⟨whole_any disks wi b F S _ A r r.length c n rfl tw hi'.at_ rw_ (h.q.readE (by omega)) (by rw [h.q.readB (by omega)]; exact k1) h1 (by omega) h40,
        whole_any disks wi b F S _ A r r.length c n rfl tw hi'.at_ rw_ (h.q.readE (by omega)) (by rw [h.q.readB (by omega)]; exact k2) h1 (by omega) h40⟩
  intro j hj
  rcases (show j = 0 ∨ j = 1 by omega) with rfl | rfl
  · exact ⟨n0, A0, r0.length, c0, fun wi hb => ⟨(h.h1.step hb).cell rfl, (h.h2.step hb).cell rfl, go 0 n0 A0 r0 c0 (by decide) h.l0 h.s0 h.b0 wi hb⟩⟩
  · exact ⟨n1, A1, r1.length, c1, fun wi hb => ⟨(h.h1.step hb).cell rfl, (h.h2.step hb).cell rfl, go 1 n1 A1 r1 c1 (by decide) h.l1 h.s1 h.b1 wi hb⟩⟩
set_option maxRecDepth 100000 in
set_option maxHeartbeats 4000000 in
theorem numbers_any (L : Option Addr) (ms : List RowM) (c : Nat) (X : Option Addr) (wh : List Bool) (cx : Nat) (w : World) (ht : TabAt w) (hA : RowsAt w w.heap.size L ms) (hX : RowAt w w.heap.size X (wh.map Value.bool)) (hms : ms.length ≤ 9223372036854775807) (_hwh : wh.length ≤ 9223372036854775807) :
    Calls Tryd.prog 8 #[.slice L ms.length c, .slice X wh.length cx] w fun e w' => e = .returned (.bool true) ∧ Below w.heap.size w w' := by
  have zn := fun w : World => disks.new_yes 5 w (by decide) (by decide)
  rw [show ((5 : Nat) : Int) = 5 from rfl] at zn
  have mk2 : ∀ W : World, (Instr.makeSlice 61 (.int .i64 2) (.int .i64 2)).run Tryd.prog W = .ok (.slice (some ⟨W.heap.size, 0, none⟩) 2 2) (W.alloc (.cells #[.slice none 0 0, .slice none 0 0] 22)) := fun W => by kernel_rfl
  obtain ⟨n, hn⟩ : ∃ n, n = ms.length := ⟨_, rfl⟩
  obtain ⟨p, hp⟩ : ∃ n, n = wh.length := ⟨_, rfl⟩
  rw [← hn] at hms ⊢
  rw [← hp] at _hwh ⊢
  have HA := Lib.hid (And.intro hA (And.intro hn (And.intro hX hp)))
  have HT := Lib.hid ht
  clear hA hX hn hp
  go_enter Tryd.func8, Tryd.ntmps8
  go_wp2_with (first
    | (go_at_call 19; refine (awake_any disks w ht).mono ?_; (rintro e w1 ⟨rfl, B1⟩))
    | (go_at_call 22; refine (zn w1).mono ?_; (rintro e w2 ⟨b, F0, rfl, h2, hF2, B2⟩)))
  have I0 : NmInv w ((w2.alloc (.cells #[.int .i64 0, .int .i64 0] 3)).alloc (.cells #[.slice none 0 0, .slice none 0 0] 22)) b w2.heap.size (w2.heap.size + 1) 0 F0 (DS.fresh 5) 0 0 none [] 0 none [] 0 := by
    have e1 : (w2.alloc (.cells #[.int .i64 0, .int .i64 0] 3)).heap.size = w2.heap.size + 1 := by simp
    have X1 : Below w2.heap.size w2 (w2.alloc (.cells #[.int .i64 0, .int .i64 0] 3)) := (Below.refl _ _).alloc (Nat.le_refl _) _
    have X2 : Below (w2.alloc (.cells #[.int .i64 0, .int .i64 0] 3)).heap.size (w2.alloc (.cells #[.int .i64 0, .int .i64 0] 3)) ((w2.alloc (.cells #[.int .i64 0, .int .i64 0] 3)).alloc (.cells #[.slice none 0 0, .slice none 0 0] 22)) := (Below.refl _ _).alloc (Nat.le_refl _) _
    have k1 : BlkR 3 (w2.alloc (.cells #[.int .i64 0, .int .i64 0] 3)) w2.heap.size (numCells 0 0) := BlkR.new w2 (numCells 0 0) 3
    have k2 : BlkR 22 ((w2.alloc (.cells #[.int .i64 0, .int .i64 0] 3)).alloc (.cells #[.slice none 0 0, .slice none 0 0] 22)) (w2.heap.size + 1) (recCells none 0 0 none 0 0) := by
      have := BlkR.new (w2.alloc (.cells #[.int .i64 0, .int .i64 0] 3)) (recCells none 0 0 none 0 0) 22
      rwa [e1] at this
    have hs := step_trans B1 B2
    have hl := hs.size
    exact ⟨At_step disks (At_step disks h2 X1) X2, fun k hk => Nat.le_trans B1.size (hF2 k hk), step_trans (step_trans hs X1) X2, DS.fresh_quiet 5, rfl, Nat.zero_le _, k1.step X2, k2, fun hx => Nat.lt_irrefl _ (disks.lt _ _ _ _ h2 _ hx), fun hx => by have := disks.lt _ _ _ _ h2 _ hx; omega, hl, by omega, by omega, Slot.St.fresh 0, Slot.St.fresh 1, bytes_nil, bytes_nil, Nat.le_refl _, Nat.le_refl _⟩
  obtain ⟨g1, hg1⟩ : ∃ g, g = w2.heap.size := ⟨_, rfl⟩
  rw [← hg1] at I0
  generalize hW : ((w2.alloc (.cells #[.int .i64 0, .int .i64 0] 3)).alloc (.cells #[.slice none 0 0, .slice none 0 0] 22)) = W4 at I0 ⊢
  rw [← hg1]
  have I0 := Lib.hid I0
  clear zn mk2 B1 B2 h2 hF2 ht hW hg1
  go_loopw [10] (fun ix wr => ∃ i F S n0 n1 A0 r0 c0 A1 r1 c1, ix = .int .i64 ((i : Nat) : Int) ∧ i ≤ n ∧ i ≤ 20 ∧ NmInv w wr b g1 (g1 + 1) i F S n0 n1 A0 r0 c0 A1 r1 c1) (fun ix _ => 21 - vM ix)
  case atStart => exact ⟨0, F0, _, 0, 0, none, [], 0, none, [], 0, rfl, Nat.zero_le _, Nat.zero_le _, I0.out⟩
  case round =>
    obtain ⟨i, F, S, n0, n1, A0, r0, c0, A1, r1, c1, rfl, hi, hi2, inv⟩ := hrel
    clear I0
    by_cases hlt : i < n
    · by_cases h20 : i < 20
      · obtain ⟨m, hm⟩ : ∃ m, ms[i]? = some m := ⟨_, List.getElem?_eq_getElem (by rw [← HA.out.2.1]; exact hlt)⟩
        have hmem := List.mem_of_getElem? hm
        obtain ⟨ad, rfl, hadb, hca⟩ := HA.out.1.at_.at_ (k := i) (u := rowCell m) (by simp [hm])
        obtain ⟨h_at, far_, below_, q_, hn_, ops_, h1_, h2_, f1_, f2_, w1_, w2_, ne_, s0_, s1_, b0_, b1_, l0_, l1_⟩ := inv
        have hlt' : (i : Int) < (n : Int) := by omega
        have h20' : (i : Int) < 20 := by omega
        have hw1 : IntKind.i64.wrap ((i : Int) + 1) = (i : Int) + 1 := IntWalk.i64_in _ (by omega)
        have YA := Lib.hid (fun (w' : World) (hb : Below w.heap.size w w') => (hb.cell (p := ad.add i) (by rw [block_add]; exact hadb)).trans hca)
        have y := YA.out wr below_
        unfold rowCell at y YA
        obtain ⟨g2, hg2⟩ : ∃ g, g = g1 + 1 := ⟨_, rfl⟩
        rw [← hg2] at h2_ f2_ w2_ ne_ ⊢
        have HB := Lib.hid below_
        have HFar := Lib.hid far_
        have HF := Lib.hid (And.intro f1_ f2_)
        have HBK := Lib.hid (And.intro h1_ h2_)
        have HW := Lib.hid (And.intro w1_ w2_)
        have HNE := Lib.hid ne_
        have HL := Lib.hid (And.intro l0_ l1_)
        have HOP := Lib.hid ops_
        have HA01 := Lib.hid (And.intro b0_ b1_)
        have HM := Lib.hid (HA.out.1.b m hmem)
        have mr : BytesAt wr wr.heap.size m.A m.b := ((HA.out.1.b m hmem).below below_).more below_.size
        have tr := HT.out.below below_ (Nat.le_refl _)
        have hbw : ∀ x, wh[i]? = some x → ∃ adx, X = some adx ∧ wr.cell? (adx.add i) = some (.bool x) := fun x hx => by
          obtain ⟨adx, e, hb, hc⟩ := HA.out.2.2.1.at_ (k := i) (u := .bool x) (by simp [hx])
          exact ⟨adx, e, (below_.cell (p := adx.add i) (by rw [block_add]; exact hb)).trans hc⟩
        have HG2 := Lib.hid hg2
        clear hm hmem hca hadb below_ far_ h1_ h2_ f1_ f2_ w1_ w2_ ne_ b0_ b1_ hg2
        by_cases h60 : 60 < m.b.length
        · have i1 : (60 : Int) < (m.b.length : Int) := by omega
          clear h_at q_ hn_ ops_ s0_ s1_ l0_ l1_ hbw
          go_wp2
          go_ret
          exact ⟨rfl, HB.out⟩
        · have i1 : ¬ (60 : Int) < (m.b.length : Int) := by omega
          by_cases hix : i < p
          · have hix' : (i : Int) < (p : Int) := by omega
            obtain ⟨x, hx⟩ : ∃ x, wh[i]? = some x := ⟨_, List.getElem?_eq_getElem (by rw [← HA.out.2.2.2]; exact hix)⟩
            obtain ⟨adx, rfl, hcx⟩ := hbw x hx
            clear hbw hx
            cases x with
            | false =>
              by_cases h40 : m.b.length ≤ 40
              · have i2 : (m.b.length : Int) ≤ 40 := by omega
                obtain ⟨T, s1, u1, u2, u3, u4, u5⟩ := Slot.St.save q_ hn_ (by decide) s0_ (by omega) m.b (by omega)
                have zs := save_any disks wr b F S 0 m.A m.b m.b.length m.cb rfl tr h_at mr (by omega)
                rw [show Slot.save S 0 m.b = (T, 0) from s1] at zs
                unfold ChgPost at zs
                have u6 := u5 1 _ _ (by decide) (by decide) s1_
                have hwn : IntKind.i64.wrap ((n0 : Int) + 1) = (n0 : Int) + 1 := IntWalk.i64_in _ (by omega)
                have HS := Lib.hid (And.intro u1 (And.intro u2 (And.intro u3 (And.intro u4 u6))))
                clear s1 u1 u2 u3 u4 u5 u6 s0_ s1_ q_ hn_ ops_ h_at l0_ l1_
                go_wp2_with (go_at_call 21; refine zs.mono ?_; (rintro e w4 ⟨F4, rfl, h4, hF4, fr4⟩; obtain ⟨C4, G4⟩ := chg_go HB.out HFar.out hF4 fr4; have n14 : ¬ F4 g1 := (fun hx => (hF4 _ hx).elim HF.out.1 fun y => by have := HBK.out.1.lt; omega); have n24 : ¬ F4 g2 := (fun hx => (hF4 _ hx).elim HF.out.2 fun y => by have := HBK.out.2.lt; omega); have b14 := HBK.out.1.frame fr4 HF.out.1; have b24 := HBK.out.2.frame fr4 HF.out.2; have x1 : w4.cell? ⟨g1, 0, none⟩ = some (.int .i64 (n0 : Int)) := b14.cell rfl; have e1 := b14.frozen 0; have x2 : w4.cell? ⟨g2, 0, none⟩ = some (.slice A0 r0.length c0) := b24.cell rfl; have e2 := b24.frozen 0; have y4 := YA.out w4 C4; have C5 := C4.setCell (p := ⟨g1, 0, none⟩) HW.out.1 (.int .i64 ((n0 : Int) + 1)); have y5 := YA.out _ C5; have b25 := b24.other ⟨g1, 0, none⟩ (.int .i64 ((n0 : Int) + 1)) (fun h => HNE.out h.symm); have x5 : (w4.setCell ⟨g1, 0, none⟩ (.int .i64 ((n0 : Int) + 1))).cell? ⟨g2, 0, none⟩ = some (.slice A0 r0.length c0) := b25.cell rfl; have e5 := b25.frozen 0; have BB := Lib.hid (And.intro b14 b25); have H4 := Lib.hid (And.intro h4 (And.intro n14 (And.intro n24 (And.intro C5 G4)))); clear b14 b24 b25 h4 n14 n24 C4 C5 fr4))
                have HN : NmInv w ((w4.setCell ⟨g1, 0, none⟩ (.int .i64 ((n0 : Int) + 1))).setCell ⟨g2, 0, none⟩ (.slice m.A m.b.length m.cb)) b g1 g2 (i + 1) F4 T (n0 + 1) (n1) m.A m.b m.cb A1 r1 c1 :=
                  ⟨At_set disks (At_set disks H4.out.1 ⟨g1, 0, none⟩ _ H4.out.2.1) ⟨g2, 0, none⟩ _ H4.out.2.2.1, H4.out.2.2.2.2, H4.out.2.2.2.1.setCell (p := ⟨g2, 0, none⟩) HW.out.2 _, HS.out.1, HS.out.2.1, by have := HS.out.2.2.1; have := HOP.out; omega,
                    (BB.out.1.set_ 0 (.int .i64 ((n0 : Int) + 1))).other ⟨g2, 0, none⟩ _ HNE.out, BB.out.2.set_ 0 _, H4.out.2.1, H4.out.2.2.1, HW.out.1, HW.out.2, HNE.out, HS.out.2.2.2.1, HS.out.2.2.2.2, HM.out, HA01.out.2, by have := HL.out; omega, by have := HL.out; omega⟩
                generalize hwo : (w4.setCell ⟨g1, 0, none⟩ (.int .i64 ((n0 : Int) + 1))).setCell ⟨g2, 0, none⟩ (.slice m.A m.b.length m.cb) = wo at HN ⊢
                clear hwo x1 e1 x2 e2 y4 y5 x5 e5 BB H4 zs
                have INN := Lib.hid (HN.inner (by omega) HT.out)
                have HNM := Lib.hid HN
                clear HN
                go_loopw [13] (fun jx wi => ∃ j : Nat, j ≤ 2 ∧ jx = .int .i64 (j : Int) ∧ Below wo.heap.size wo wi) (fun jx _ => 2 - vM jx)
                case atStart => exact ⟨0, Nat.zero_le _, rfl, Below.refl _ _⟩
                case round =>
                  obtain ⟨j, hj, rfl, hbi⟩ := hrel
                  have HBI := Lib.hid hbi
                  by_cases hj2 : j < 2
                  · have hj2' : (j : Int) < 2 := by omega
                    have hj0' : (0 : Int) ≤ (j : Int) := by omega
                    have hwj : IntKind.i64.wrap ((j : Int) + 1) = (j : Int) + 1 := IntWalk.i64_in _ (by omega)
                    have hw3 : IntKind.i64.wrap (3 * (j : Int)) = 3 * (j : Int) := IntWalk.i64_in _ (by omega)
                    have hw31 : IntKind.i64.wrap (3 * (j : Int) + 1) = 3 * (j : Int) + 1 := IntWalk.i64_in _ (by omega)
                    obtain ⟨nj, Aj, mj, cj, hfj⟩ := INN.out j hj2
                    obtain ⟨f1, f2, _⟩ := hfj wr hbi
                    by_cases hz : nj = 0
                    · subst hz
                      replace f1 : wr.cell? ⟨g1, j, none⟩ = some (.int .i64 0) := f1
                      clear hbi hfj
                      go_wp2_with fail
                      go_quiet (fail)
                      go_wp2
                      go_roundw
                      case rel => exact ⟨j + 1, by omega, by go_num, ⟨HBI.out.os, HBI.out.tape, HBI.out.output, HBI.out.size, HBI.out.block⟩⟩
                      case measure => simp [vM]; omega
                    · have hp : (0 : Int) < (nj : Int) := by omega
                      have hp1 : 1 ≤ nj := by omega
                      have hp2 : 0 < nj := by omega
                      have hd1 : decide ((0 : Int) < (nj : Int)) = true := decide_eq_true hp
                      have hd2 : decide (0 < nj) = true := decide_eq_true hp2
                      have hd3 : ((nj : Int) == 0) = false := by simpa using hz
                      have HFJ := Lib.hid hfj
                      have SS := Lib.hid (fun w' (hb : Below wo.heap.size wo w') => And.intro (hfj w' hb).1 (hfj w' hb).2.1)
                      have S0 := SS.out wr.drew hbi.drew
                      clear hbi hfj
                      go_wp2_with fail
                      first
                        | go_region_held3 (fun w' => w'.cell? ⟨g1, j, none⟩ = some (.int .i64 (nj : Int)) ∧ w'.cell? ⟨g2, j, none⟩ = some (.slice Aj mj cj)) (first | assumption | exact SS.out _ C6 | exact SS.out _ C5 | exact S0) (first
                        | (go_at_call 29; (with_reducible refine ((HFJ.out wr.drew HBI.out.drew).2.2 hp1).1.mono ?_); (rintro e w5 ⟨rfl, B5⟩; have C5 := step_trans HBI.out.drew B5; have S5 := SS.out w5 C5))
                        | (go_at_call 29; (with_reducible refine ((HFJ.out w5 C5).2.2 hp1).2.mono ?_); (rintro e w6 ⟨rfl, B6⟩; have C6 := step_trans C5 B6; have S6 := SS.out w6 C6)))
                        | fail
                      go_wp2
                      go_roundw
                      case rel => exact ⟨j + 1, by omega, by go_num, C6⟩
                      case measure => simp [vM]; omega
                  · obtain rfl : j = 2 := by omega
                    clear hbi
                    go_wp2
                    go_roundw
                    case rel => exact ⟨i + 1, F4, T, n0 + 1, n1, m.A, m.b, m.cb, A1, r1, c1, by go_num, by omega, by omega, by first | exact HNM.out.step HBI.out | (have h := HNM.out.step HBI.out; rw [HG2.out] at h; exact h)⟩
                    case measure => simp [vM]; omega
              · have i2 : ¬ (m.b.length : Int) ≤ 40 := by omega
                have zs := save_any disks wr b F S 0 m.A m.b m.b.length m.cb rfl tr h_at mr (by omega)
                rw [show Slot.save S 0 m.b = (S, 3) by unfold Slot.save; rw [if_pos (by omega)]] at zs
                unfold ChgPost at zs
                clear h_at
                go_wp2_with (go_at_call 21; refine zs.mono ?_; (rintro e wo ⟨F4, rfl, h4, hF4, fr4⟩; obtain ⟨C4, G4⟩ := chg_go HB.out HFar.out hF4 fr4; have y4 := YA.out wo C4))
                have HN : NmInv w wo b g1 g2 (i + 1) F4 S n0 n1 A0 r0 c0 A1 r1 c1 :=
                  ⟨h4, G4, C4, q_, hn_, by omega, HBK.out.1.frame fr4 HF.out.1, HBK.out.2.frame fr4 HF.out.2, (fun hx => (hF4 _ hx).elim HF.out.1 fun y => by have := HBK.out.1.lt; omega), (fun hx => (hF4 _ hx).elim HF.out.2 fun y => by have := HBK.out.2.lt; omega), HW.out.1, HW.out.2, HNE.out, s0_, s1_, HA01.out.1, HA01.out.2, by omega, by omega⟩
                clear zs h4 hF4 fr4 C4 G4 y4 s0_ s1_ q_ hn_ ops_
                have INN := Lib.hid (HN.inner (by omega) HT.out)
                have HNM := Lib.hid HN
                clear HN
                go_loopw [13] (fun jx wi => ∃ j : Nat, j ≤ 2 ∧ jx = .int .i64 (j : Int) ∧ Below wo.heap.size wo wi) (fun jx _ => 2 - vM jx)
                case atStart => exact ⟨0, Nat.zero_le _, rfl, Below.refl _ _⟩
                case round =>
                  obtain ⟨j, hj, rfl, hbi⟩ := hrel
                  have HBI := Lib.hid hbi
                  by_cases hj2 : j < 2
                  · have hj2' : (j : Int) < 2 := by omega
                    have hj0' : (0 : Int) ≤ (j : Int) := by omega
                    have hwj : IntKind.i64.wrap ((j : Int) + 1) = (j : Int) + 1 := IntWalk.i64_in _ (by omega)
                    have hw3 : IntKind.i64.wrap (3 * (j : Int)) = 3 * (j : Int) := IntWalk.i64_in _ (by omega)
                    have hw31 : IntKind.i64.wrap (3 * (j : Int) + 1) = 3 * (j : Int) + 1 := IntWalk.i64_in _ (by omega)
                    obtain ⟨nj, Aj, mj, cj, hfj⟩ := INN.out j hj2
                    obtain ⟨f1, f2, _⟩ := hfj wr hbi
                    by_cases hz : nj = 0
                    · subst hz
                      replace f1 : wr.cell? ⟨g1, j, none⟩ = some (.int .i64 0) := f1
                      clear hbi hfj
                      go_wp2_with fail
                      go_quiet (fail)
                      go_wp2
                      go_roundw
                      case rel => exact ⟨j + 1, by omega, by go_num, ⟨HBI.out.os, HBI.out.tape, HBI.out.output, HBI.out.size, HBI.out.block⟩⟩
                      case measure => simp [vM]; omega
                    · have hp : (0 : Int) < (nj : Int) := by omega
                      have hp1 : 1 ≤ nj := by omega
                      have hp2 : 0 < nj := by omega
                      have hd1 : decide ((0 : Int) < (nj : Int)) = true := decide_eq_true hp
                      have hd2 : decide (0 < nj) = true := decide_eq_true hp2
                      have hd3 : ((nj : Int) == 0) = false := by simpa using hz
                      have HFJ := Lib.hid hfj
                      have SS := Lib.hid (fun w' (hb : Below wo.heap.size wo w') => And.intro (hfj w' hb).1 (hfj w' hb).2.1)
                      have S0 := SS.out wr.drew hbi.drew
                      clear hbi hfj
                      go_wp2_with fail
                      first
                        | go_region_held3 (fun w' => w'.cell? ⟨g1, j, none⟩ = some (.int .i64 (nj : Int)) ∧ w'.cell? ⟨g2, j, none⟩ = some (.slice Aj mj cj)) (first | assumption | exact SS.out _ C6 | exact SS.out _ C5 | exact S0) (first
                        | (go_at_call 29; (with_reducible refine ((HFJ.out wr.drew HBI.out.drew).2.2 hp1).1.mono ?_); (rintro e w5 ⟨rfl, B5⟩; have C5 := step_trans HBI.out.drew B5; have S5 := SS.out w5 C5))
                        | (go_at_call 29; (with_reducible refine ((HFJ.out w5 C5).2.2 hp1).2.mono ?_); (rintro e w6 ⟨rfl, B6⟩; have C6 := step_trans C5 B6; have S6 := SS.out w6 C6)))
                        | fail
                      go_wp2
                      go_roundw
                      case rel => exact ⟨j + 1, by omega, by go_num, C6⟩
                      case measure => simp [vM]; omega
                  · obtain rfl : j = 2 := by omega
                    clear hbi
                    go_wp2
                    go_roundw
                    case rel => exact ⟨i + 1, F4, S, n0, n1, A0, r0, c0, A1, r1, c1, by go_num, by omega, by omega, by first | exact HNM.out.step HBI.out | (have h := HNM.out.step HBI.out; rw [HG2.out] at h; exact h)⟩
                    case measure => simp [vM]; omega
            | true =>
              by_cases h40 : m.b.length ≤ 40
              · have i2 : (m.b.length : Int) ≤ 40 := by omega
                obtain ⟨T, s1, u1, u2, u3, u4, u5⟩ := Slot.St.save q_ hn_ (by decide) s1_ (by omega) m.b (by omega)
                have zs := save_any disks wr b F S 3 m.A m.b m.b.length m.cb rfl tr h_at mr (by omega)
                rw [show Slot.save S 3 m.b = (T, 0) from s1] at zs
                unfold ChgPost at zs
                have u6 := u5 0 _ _ (by decide) (by decide) s0_
                have hwn : IntKind.i64.wrap ((n1 : Int) + 1) = (n1 : Int) + 1 := IntWalk.i64_in _ (by omega)
                have HS := Lib.hid (And.intro u1 (And.intro u2 (And.intro u3 (And.intro u4 u6))))
                clear s1 u1 u2 u3 u4 u5 u6 s0_ s1_ q_ hn_ ops_ h_at l0_ l1_
                go_wp2_with (go_at_call 21; refine zs.mono ?_; (rintro e w4 ⟨F4, rfl, h4, hF4, fr4⟩; obtain ⟨C4, G4⟩ := chg_go HB.out HFar.out hF4 fr4; have n14 : ¬ F4 g1 := (fun hx => (hF4 _ hx).elim HF.out.1 fun y => by have := HBK.out.1.lt; omega); have n24 : ¬ F4 g2 := (fun hx => (hF4 _ hx).elim HF.out.2 fun y => by have := HBK.out.2.lt; omega); have b14 := HBK.out.1.frame fr4 HF.out.1; have b24 := HBK.out.2.frame fr4 HF.out.2; have x1 : w4.cell? ⟨g1, 1, none⟩ = some (.int .i64 (n1 : Int)) := b14.cell rfl; have e1 := b14.frozen 1; have x2 : w4.cell? ⟨g2, 1, none⟩ = some (.slice A1 r1.length c1) := b24.cell rfl; have e2 := b24.frozen 1; have y4 := YA.out w4 C4; have C5 := C4.setCell (p := ⟨g1, 1, none⟩) HW.out.1 (.int .i64 ((n1 : Int) + 1)); have y5 := YA.out _ C5; have b25 := b24.other ⟨g1, 1, none⟩ (.int .i64 ((n1 : Int) + 1)) (fun h => HNE.out h.symm); have x5 : (w4.setCell ⟨g1, 1, none⟩ (.int .i64 ((n1 : Int) + 1))).cell? ⟨g2, 1, none⟩ = some (.slice A1 r1.length c1) := b25.cell rfl; have e5 := b25.frozen 1; have BB := Lib.hid (And.intro b14 b25); have H4 := Lib.hid (And.intro h4 (And.intro n14 (And.intro n24 (And.intro C5 G4)))); clear b14 b24 b25 h4 n14 n24 C4 C5 fr4))
                have HN : NmInv w ((w4.setCell ⟨g1, 1, none⟩ (.int .i64 ((n1 : Int) + 1))).setCell ⟨g2, 1, none⟩ (.slice m.A m.b.length m.cb)) b g1 g2 (i + 1) F4 T (n0) (n1 + 1) A0 r0 c0 m.A m.b m.cb :=
                  ⟨At_set disks (At_set disks H4.out.1 ⟨g1, 1, none⟩ _ H4.out.2.1) ⟨g2, 1, none⟩ _ H4.out.2.2.1, H4.out.2.2.2.2, H4.out.2.2.2.1.setCell (p := ⟨g2, 1, none⟩) HW.out.2 _, HS.out.1, HS.out.2.1, by have := HS.out.2.2.1; have := HOP.out; omega,
                    (BB.out.1.set_ 1 (.int .i64 ((n1 : Int) + 1))).other ⟨g2, 1, none⟩ _ HNE.out, BB.out.2.set_ 1 _, H4.out.2.1, H4.out.2.2.1, HW.out.1, HW.out.2, HNE.out, HS.out.2.2.2.2, HS.out.2.2.2.1, HA01.out.1, HM.out, by have := HL.out; omega, by have := HL.out; omega⟩
                generalize hwo : (w4.setCell ⟨g1, 1, none⟩ (.int .i64 ((n1 : Int) + 1))).setCell ⟨g2, 1, none⟩ (.slice m.A m.b.length m.cb) = wo at HN ⊢
                clear hwo x1 e1 x2 e2 y4 y5 x5 e5 BB H4 zs
                have INN := Lib.hid (HN.inner (by omega) HT.out)
                have HNM := Lib.hid HN
                clear HN
                go_loopw [13] (fun jx wi => ∃ j : Nat, j ≤ 2 ∧ jx = .int .i64 (j : Int) ∧ Below wo.heap.size wo wi) (fun jx _ => 2 - vM jx)
                case atStart => exact ⟨0, Nat.zero_le _, rfl, Below.refl _ _⟩
                case round =>
                  obtain ⟨j, hj, rfl, hbi⟩ := hrel
                  have HBI := Lib.hid hbi
                  by_cases hj2 : j < 2
                  · have hj2' : (j : Int) < 2 := by omega
                    have hj0' : (0 : Int) ≤ (j : Int) := by omega
                    have hwj : IntKind.i64.wrap ((j : Int) + 1) = (j : Int) + 1 := IntWalk.i64_in _ (by omega)
                    have hw3 : IntKind.i64.wrap (3 * (j : Int)) = 3 * (j : Int) := IntWalk.i64_in _ (by omega)
                    have hw31 : IntKind.i64.wrap (3 * (j : Int) + 1) = 3 * (j : Int) + 1 := IntWalk.i64_in _ (by omega)
                    obtain ⟨nj, Aj, mj, cj, hfj⟩ := INN.out j hj2
                    obtain ⟨f1, f2, _⟩ := hfj wr hbi
                    by_cases hz : nj = 0
                    · subst hz
                      replace f1 : wr.cell? ⟨g1, j, none⟩ = some (.int .i64 0) := f1
                      clear hbi hfj
                      go_wp2_with fail
                      go_quiet (fail)
                      go_wp2
                      go_roundw
                      case rel => exact ⟨j + 1, by omega, by go_num, ⟨HBI.out.os, HBI.out.tape, HBI.out.output, HBI.out.size, HBI.out.block⟩⟩
                      case measure => simp [vM]; omega
                    · have hp : (0 : Int) < (nj : Int) := by omega
                      have hp1 : 1 ≤ nj := by omega
                      have hp2 : 0 < nj := by omega
                      have hd1 : decide ((0 : Int) < (nj : Int)) = true := decide_eq_true hp
                      have hd2 : decide (0 < nj) = true := decide_eq_true hp2
                      have hd3 : ((nj : Int) == 0) = false := by simpa using hz
                      have HFJ := Lib.hid hfj
                      have SS := Lib.hid (fun w' (hb : Below wo.heap.size wo w') => And.intro (hfj w' hb).1 (hfj w' hb).2.1)
                      have S0 := SS.out wr.drew hbi.drew
                      clear hbi hfj
                      go_wp2_with fail
                      first
                        | go_region_held3 (fun w' => w'.cell? ⟨g1, j, none⟩ = some (.int .i64 (nj : Int)) ∧ w'.cell? ⟨g2, j, none⟩ = some (.slice Aj mj cj)) (first | assumption | exact SS.out _ C6 | exact SS.out _ C5 | exact S0) (first
                        | (go_at_call 29; (with_reducible refine ((HFJ.out wr.drew HBI.out.drew).2.2 hp1).1.mono ?_); (rintro e w5 ⟨rfl, B5⟩; have C5 := step_trans HBI.out.drew B5; have S5 := SS.out w5 C5))
                        | (go_at_call 29; (with_reducible refine ((HFJ.out w5 C5).2.2 hp1).2.mono ?_); (rintro e w6 ⟨rfl, B6⟩; have C6 := step_trans C5 B6; have S6 := SS.out w6 C6)))
                        | fail
                      go_wp2
                      go_roundw
                      case rel => exact ⟨j + 1, by omega, by go_num, C6⟩
                      case measure => simp [vM]; omega
                  · obtain rfl : j = 2 := by omega
                    clear hbi
                    go_wp2
                    go_roundw
                    case rel => exact ⟨i + 1, F4, T, n0, n1 + 1, A0, r0, c0, m.A, m.b, m.cb, by go_num, by omega, by omega, by first | exact HNM.out.step HBI.out | (have h := HNM.out.step HBI.out; rw [HG2.out] at h; exact h)⟩
                    case measure => simp [vM]; omega
              · have i2 : ¬ (m.b.length : Int) ≤ 40 := by omega
                have zs := save_any disks wr b F S 3 m.A m.b m.b.length m.cb rfl tr h_at mr (by omega)
                rw [show Slot.save S 3 m.b = (S, 3) by unfold Slot.save; rw [if_pos (by omega)]] at zs
                unfold ChgPost at zs
                clear h_at
                go_wp2_with (go_at_call 21; refine zs.mono ?_; (rintro e wo ⟨F4, rfl, h4, hF4, fr4⟩; obtain ⟨C4, G4⟩ := chg_go HB.out HFar.out hF4 fr4; have y4 := YA.out wo C4))
                have HN : NmInv w wo b g1 g2 (i + 1) F4 S n0 n1 A0 r0 c0 A1 r1 c1 :=
                  ⟨h4, G4, C4, q_, hn_, by omega, HBK.out.1.frame fr4 HF.out.1, HBK.out.2.frame fr4 HF.out.2, (fun hx => (hF4 _ hx).elim HF.out.1 fun y => by have := HBK.out.1.lt; omega), (fun hx => (hF4 _ hx).elim HF.out.2 fun y => by have := HBK.out.2.lt; omega), HW.out.1, HW.out.2, HNE.out, s0_, s1_, HA01.out.1, HA01.out.2, by omega, by omega⟩
                clear zs h4 hF4 fr4 C4 G4 y4 s0_ s1_ q_ hn_ ops_
                have INN := Lib.hid (HN.inner (by omega) HT.out)
                have HNM := Lib.hid HN
                clear HN
                go_loopw [13] (fun jx wi => ∃ j : Nat, j ≤ 2 ∧ jx = .int .i64 (j : Int) ∧ Below wo.heap.size wo wi) (fun jx _ => 2 - vM jx)
                case atStart => exact ⟨0, Nat.zero_le _, rfl, Below.refl _ _⟩
                case round =>
                  obtain ⟨j, hj, rfl, hbi⟩ := hrel
                  have HBI := Lib.hid hbi
                  by_cases hj2 : j < 2
                  · have hj2' : (j : Int) < 2 := by omega
                    have hj0' : (0 : Int) ≤ (j : Int) := by omega
                    have hwj : IntKind.i64.wrap ((j : Int) + 1) = (j : Int) + 1 := IntWalk.i64_in _ (by omega)
                    have hw3 : IntKind.i64.wrap (3 * (j : Int)) = 3 * (j : Int) := IntWalk.i64_in _ (by omega)
                    have hw31 : IntKind.i64.wrap (3 * (j : Int) + 1) = 3 * (j : Int) + 1 := IntWalk.i64_in _ (by omega)
                    obtain ⟨nj, Aj, mj, cj, hfj⟩ := INN.out j hj2
                    obtain ⟨f1, f2, _⟩ := hfj wr hbi
                    by_cases hz : nj = 0
                    · subst hz
                      replace f1 : wr.cell? ⟨g1, j, none⟩ = some (.int .i64 0) := f1
                      clear hbi hfj
                      go_wp2_with fail
                      go_quiet (fail)
                      go_wp2
                      go_roundw
                      case rel => exact ⟨j + 1, by omega, by go_num, ⟨HBI.out.os, HBI.out.tape, HBI.out.output, HBI.out.size, HBI.out.block⟩⟩
                      case measure => simp [vM]; omega
                    · have hp : (0 : Int) < (nj : Int) := by omega
                      have hp1 : 1 ≤ nj := by omega
                      have hp2 : 0 < nj := by omega
                      have hd1 : decide ((0 : Int) < (nj : Int)) = true := decide_eq_true hp
                      have hd2 : decide (0 < nj) = true := decide_eq_true hp2
                      have hd3 : ((nj : Int) == 0) = false := by simpa using hz
                      have HFJ := Lib.hid hfj
                      have SS := Lib.hid (fun w' (hb : Below wo.heap.size wo w') => And.intro (hfj w' hb).1 (hfj w' hb).2.1)
                      have S0 := SS.out wr.drew hbi.drew
                      clear hbi hfj
                      go_wp2_with fail
                      first
                        | go_region_held3 (fun w' => w'.cell? ⟨g1, j, none⟩ = some (.int .i64 (nj : Int)) ∧ w'.cell? ⟨g2, j, none⟩ = some (.slice Aj mj cj)) (first | assumption | exact SS.out _ C6 | exact SS.out _ C5 | exact S0) (first
                        | (go_at_call 29; (with_reducible refine ((HFJ.out wr.drew HBI.out.drew).2.2 hp1).1.mono ?_); (rintro e w5 ⟨rfl, B5⟩; have C5 := step_trans HBI.out.drew B5; have S5 := SS.out w5 C5))
                        | (go_at_call 29; (with_reducible refine ((HFJ.out w5 C5).2.2 hp1).2.mono ?_); (rintro e w6 ⟨rfl, B6⟩; have C6 := step_trans C5 B6; have S6 := SS.out w6 C6)))
                        | fail
                      go_wp2
                      go_roundw
                      case rel => exact ⟨j + 1, by omega, by go_num, C6⟩
                      case measure => simp [vM]; omega
                  · obtain rfl : j = 2 := by omega
                    clear hbi
                    go_wp2
                    go_roundw
                    case rel => exact ⟨i + 1, F4, S, n0, n1, A0, r0, c0, A1, r1, c1, by go_num, by omega, by omega, by first | exact HNM.out.step HBI.out | (have h := HNM.out.step HBI.out; rw [HG2.out] at h; exact h)⟩
                    case measure => simp [vM]; omega
          · have hix' : ¬ (i : Int) < (p : Int) := by omega
            clear hbw
            by_cases h40 : m.b.length ≤ 40
            · have i2 : (m.b.length : Int) ≤ 40 := by omega
              obtain ⟨T, s1, u1, u2, u3, u4, u5⟩ := Slot.St.save q_ hn_ (by decide) s0_ (by omega) m.b (by omega)
              have zs := save_any disks wr b F S 0 m.A m.b m.b.length m.cb rfl tr h_at mr (by omega)
              rw [show Slot.save S 0 m.b = (T, 0) from s1] at zs
              unfold ChgPost at zs
              have u6 := u5 1 _ _ (by decide) (by decide) s1_
              have hwn : IntKind.i64.wrap ((n0 : Int) + 1) = (n0 : Int) + 1 := IntWalk.i64_in _ (by omega)
              have HS := Lib.hid (And.intro u1 (And.intro u2 (And.intro u3 (And.intro u4 u6))))
              clear s1 u1 u2 u3 u4 u5 u6 s0_ s1_ q_ hn_ ops_ h_at l0_ l1_
              go_wp2_with (go_at_call 21; refine zs.mono ?_; (rintro e w4 ⟨F4, rfl, h4, hF4, fr4⟩; obtain ⟨C4, G4⟩ := chg_go HB.out HFar.out hF4 fr4; have n14 : ¬ F4 g1 := (fun hx => (hF4 _ hx).elim HF.out.1 fun y => by have := HBK.out.1.lt; omega); have n24 : ¬ F4 g2 := (fun hx => (hF4 _ hx).elim HF.out.2 fun y => by have := HBK.out.2.lt; omega); have b14 := HBK.out.1.frame fr4 HF.out.1; have b24 := HBK.out.2.frame fr4 HF.out.2; have x1 : w4.cell? ⟨g1, 0, none⟩ = some (.int .i64 (n0 : Int)) := b14.cell rfl; have e1 := b14.frozen 0; have x2 : w4.cell? ⟨g2, 0, none⟩ = some (.slice A0 r0.length c0) := b24.cell rfl; have e2 := b24.frozen 0; have y4 := YA.out w4 C4; have C5 := C4.setCell (p := ⟨g1, 0, none⟩) HW.out.1 (.int .i64 ((n0 : Int) + 1)); have y5 := YA.out _ C5; have b25 := b24.other ⟨g1, 0, none⟩ (.int .i64 ((n0 : Int) + 1)) (fun h => HNE.out h.symm); have x5 : (w4.setCell ⟨g1, 0, none⟩ (.int .i64 ((n0 : Int) + 1))).cell? ⟨g2, 0, none⟩ = some (.slice A0 r0.length c0) := b25.cell rfl; have e5 := b25.frozen 0; have BB := Lib.hid (And.intro b14 b25); have H4 := Lib.hid (And.intro h4 (And.intro n14 (And.intro n24 (And.intro C5 G4)))); clear b14 b24 b25 h4 n14 n24 C4 C5 fr4))
              have HN : NmInv w ((w4.setCell ⟨g1, 0, none⟩ (.int .i64 ((n0 : Int) + 1))).setCell ⟨g2, 0, none⟩ (.slice m.A m.b.length m.cb)) b g1 g2 (i + 1) F4 T (n0 + 1) (n1) m.A m.b m.cb A1 r1 c1 :=
                ⟨At_set disks (At_set disks H4.out.1 ⟨g1, 0, none⟩ _ H4.out.2.1) ⟨g2, 0, none⟩ _ H4.out.2.2.1, H4.out.2.2.2.2, H4.out.2.2.2.1.setCell (p := ⟨g2, 0, none⟩) HW.out.2 _, HS.out.1, HS.out.2.1, by have := HS.out.2.2.1; have := HOP.out; omega,
                  (BB.out.1.set_ 0 (.int .i64 ((n0 : Int) + 1))).other ⟨g2, 0, none⟩ _ HNE.out, BB.out.2.set_ 0 _, H4.out.2.1, H4.out.2.2.1, HW.out.1, HW.out.2, HNE.out, HS.out.2.2.2.1, HS.out.2.2.2.2, HM.out, HA01.out.2, by have := HL.out; omega, by have := HL.out; omega⟩
              generalize hwo : (w4.setCell ⟨g1, 0, none⟩ (.int .i64 ((n0 : Int) + 1))).setCell ⟨g2, 0, none⟩ (.slice m.A m.b.length m.cb) = wo at HN ⊢
              clear hwo x1 e1 x2 e2 y4 y5 x5 e5 BB H4 zs
              have INN := Lib.hid (HN.inner (by omega) HT.out)
              have HNM := Lib.hid HN
              clear HN
              go_loopw [13] (fun jx wi => ∃ j : Nat, j ≤ 2 ∧ jx = .int .i64 (j : Int) ∧ Below wo.heap.size wo wi) (fun jx _ => 2 - vM jx)
              case atStart => exact ⟨0, Nat.zero_le _, rfl, Below.refl _ _⟩
              case round =>
                obtain ⟨j, hj, rfl, hbi⟩ := hrel
                have HBI := Lib.hid hbi
                by_cases hj2 : j < 2
                · have hj2' : (j : Int) < 2 := by omega
                  have hj0' : (0 : Int) ≤ (j : Int) := by omega
                  have hwj : IntKind.i64.wrap ((j : Int) + 1) = (j : Int) + 1 := IntWalk.i64_in _ (by omega)
                  have hw3 : IntKind.i64.wrap (3 * (j : Int)) = 3 * (j : Int) := IntWalk.i64_in _ (by omega)
                  have hw31 : IntKind.i64.wrap (3 * (j : Int) + 1) = 3 * (j : Int) + 1 := IntWalk.i64_in _ (by omega)
                  obtain ⟨nj, Aj, mj, cj, hfj⟩ := INN.out j hj2
                  obtain ⟨f1, f2, _⟩ := hfj wr hbi
                  by_cases hz : nj = 0
                  · subst hz
                    replace f1 : wr.cell? ⟨g1, j, none⟩ = some (.int .i64 0) := f1
                    clear hbi hfj
                    go_wp2_with fail
                    go_quiet (fail)
                    go_wp2
                    go_roundw
                    case rel => exact ⟨j + 1, by omega, by go_num, ⟨HBI.out.os, HBI.out.tape, HBI.out.output, HBI.out.size, HBI.out.block⟩⟩
                    case measure => simp [vM]; omega
                  · have hp : (0 : Int) < (nj : Int) := by omega
                    have hp1 : 1 ≤ nj := by omega
                    have hp2 : 0 < nj := by omega
                    have hd1 : decide ((0 : Int) < (nj : Int)) = true := decide_eq_true hp
                    have hd2 : decide (0 < nj) = true := decide_eq_true hp2
                    have hd3 : ((nj : Int) == 0) = false := by simpa using hz
                    have HFJ := Lib.hid hfj
                    have SS := Lib.hid (fun w' (hb : Below wo.heap.size wo w') => And.intro (hfj w' hb).1 (hfj w' hb).2.1)
                    have S0 := SS.out wr.drew hbi.drew
                    clear hbi hfj
                    go_wp2_with fail
                    first
                      | go_region_held3 (fun w' => w'.cell? ⟨g1, j, none⟩ = some (.int .i64 (nj : Int)) ∧ w'.cell? ⟨g2, j, none⟩ = some (.slice Aj mj cj)) (first | assumption | exact SS.out _ C6 | exact SS.out _ C5 | exact S0) (first
                      | (go_at_call 29; (with_reducible refine ((HFJ.out wr.drew HBI.out.drew).2.2 hp1).1.mono ?_); (rintro e w5 ⟨rfl, B5⟩; have C5 := step_trans HBI.out.drew B5; have S5 := SS.out w5 C5))
                      | (go_at_call 29; (with_reducible refine ((HFJ.out w5 C5).2.2 hp1).2.mono ?_); (rintro e w6 ⟨rfl, B6⟩; have C6 := step_trans C5 B6; have S6 := SS.out w6 C6)))
                      | fail
                    go_wp2
                    go_roundw
                    case rel => exact ⟨j + 1, by omega, by go_num, C6⟩
                    case measure => simp [vM]; omega
                · obtain rfl : j = 2 := by omega
                  clear hbi
                  go_wp2
                  go_roundw
                  case rel => exact ⟨i + 1, F4, T, n0 + 1, n1, m.A, m.b, m.cb, A1, r1, c1, by go_num, by omega, by omega, by first | exact HNM.out.step HBI.out | (have h := HNM.out.step HBI.out; rw [HG2.out] at h; exact h)⟩
                  case measure => simp [vM]; omega
            · have i2 : ¬ (m.b.length : Int) ≤ 40 := by omega
              have zs := save_any disks wr b F S 0 m.A m.b m.b.length m.cb rfl tr h_at mr (by omega)
              rw [show Slot.save S 0 m.b = (S, 3) by unfold Slot.save; rw [if_pos (by omega)]] at zs
              unfold ChgPost at zs
              clear h_at
              go_wp2_with (go_at_call 21; refine zs.mono ?_; (rintro e wo ⟨F4, rfl, h4, hF4, fr4⟩; obtain ⟨C4, G4⟩ := chg_go HB.out HFar.out hF4 fr4; have y4 := YA.out wo C4))
              have HN : NmInv w wo b g1 g2 (i + 1) F4 S n0 n1 A0 r0 c0 A1 r1 c1 :=
                ⟨h4, G4, C4, q_, hn_, by omega, HBK.out.1.frame fr4 HF.out.1, HBK.out.2.frame fr4 HF.out.2, (fun hx => (hF4 _ hx).elim HF.out.1 fun y => by have := HBK.out.1.lt; omega), (fun hx => (hF4 _ hx).elim HF.out.2 fun y => by have := HBK.out.2.lt; omega), HW.out.1, HW.out.2, HNE.out, s0_, s1_, HA01.out.1, HA01.out.2, by omega, by omega⟩
              clear zs h4 hF4 fr4 C4 G4 y4 s0_ s1_ q_ hn_ ops_
              have INN := Lib.hid (HN.inner (by omega) HT.out)
              have HNM := Lib.hid HN
              clear HN
              go_loopw [13] (fun jx wi => ∃ j : Nat, j ≤ 2 ∧ jx = .int .i64 (j : Int) ∧ Below wo.heap.size wo wi) (fun jx _ => 2 - vM jx)
              case atStart => exact ⟨0, Nat.zero_le _, rfl, Below.refl _ _⟩
              case round =>
                obtain ⟨j, hj, rfl, hbi⟩ := hrel
                have HBI := Lib.hid hbi
                by_cases hj2 : j < 2
                · have hj2' : (j : Int) < 2 := by omega
                  have hj0' : (0 : Int) ≤ (j : Int) := by omega
                  have hwj : IntKind.i64.wrap ((j : Int) + 1) = (j : Int) + 1 := IntWalk.i64_in _ (by omega)
                  have hw3 : IntKind.i64.wrap (3 * (j : Int)) = 3 * (j : Int) := IntWalk.i64_in _ (by omega)
                  have hw31 : IntKind.i64.wrap (3 * (j : Int) + 1) = 3 * (j : Int) + 1 := IntWalk.i64_in _ (by omega)
                  obtain ⟨nj, Aj, mj, cj, hfj⟩ := INN.out j hj2
                  obtain ⟨f1, f2, _⟩ := hfj wr hbi
                  by_cases hz : nj = 0
                  · subst hz
                    replace f1 : wr.cell? ⟨g1, j, none⟩ = some (.int .i64 0) := f1
                    clear hbi hfj
                    go_wp2_with fail
                    go_quiet (fail)
                    go_wp2
                    go_roundw
                    case rel => exact ⟨j + 1, by omega, by go_num, ⟨HBI.out.os, HBI.out.tape, HBI.out.output, HBI.out.size, HBI.out.block⟩⟩
                    case measure => simp [vM]; omega
                  · have hp : (0 : Int) < (nj : Int) := by omega
                    have hp1 : 1 ≤ nj := by omega
                    have hp2 : 0 < nj := by omega
                    have hd1 : decide ((0 : Int) < (nj : Int)) = true := decide_eq_true hp
                    have hd2 : decide (0 < nj) = true := decide_eq_true hp2
                    have hd3 : ((nj : Int) == 0) = false := by simpa using hz
                    have HFJ := Lib.hid hfj
                    have SS := Lib.hid (fun w' (hb : Below wo.heap.size wo w') => And.intro (hfj w' hb).1 (hfj w' hb).2.1)
                    have S0 := SS.out wr.drew hbi.drew
                    clear hbi hfj
                    go_wp2_with fail
                    first
                      | go_region_held3 (fun w' => w'.cell? ⟨g1, j, none⟩ = some (.int .i64 (nj : Int)) ∧ w'.cell? ⟨g2, j, none⟩ = some (.slice Aj mj cj)) (first | assumption | exact SS.out _ C6 | exact SS.out _ C5 | exact S0) (first
                      | (go_at_call 29; (with_reducible refine ((HFJ.out wr.drew HBI.out.drew).2.2 hp1).1.mono ?_); (rintro e w5 ⟨rfl, B5⟩; have C5 := step_trans HBI.out.drew B5; have S5 := SS.out w5 C5))
                      | (go_at_call 29; (with_reducible refine ((HFJ.out w5 C5).2.2 hp1).2.mono ?_); (rintro e w6 ⟨rfl, B6⟩; have C6 := step_trans C5 B6; have S6 := SS.out w6 C6)))
                      | fail
                    go_wp2
                    go_roundw
                    case rel => exact ⟨j + 1, by omega, by go_num, C6⟩
                    case measure => simp [vM]; omega
                · obtain rfl : j = 2 := by omega
                  clear hbi
                  go_wp2
                  go_roundw
                  case rel => exact ⟨i + 1, F4, S, n0, n1, A0, r0, c0, A1, r1, c1, by go_num, by omega, by omega, by first | exact HNM.out.step HBI.out | (have h := HNM.out.step HBI.out; rw [HG2.out] at h; exact h)⟩
                  case measure => simp [vM]; omega
      · obtain rfl : i = 20 := by omega
        have hB := Lib.hid inv.below
        clear inv
        go_wp2
        go_ret
        exact ⟨rfl, hB.out⟩
    · obtain rfl : i = n := by omega
      have hB := Lib.hid inv.below
      clear inv
      go_wp2
      go_ret
      exact ⟨rfl, hB.out⟩
end Go.Proofs.YtgnfajmjhlnobaaDoor
