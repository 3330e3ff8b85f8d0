/-
  The walk of NetKeeps. Conditions: the calls can be read.
-/
import Derived.Test.YtplfhlmipdlmnaaNtKeeps
import Derived.Test.YtplfhlmipdlmnaaNtFullWalk
namespace Go.Proofs.Ytplfhlmipdlmnaa
open Go.RowKit Nt

theorem na5_one (a b c : Int) (x : Bool) (A : Option Addr) (n k : Nat) : ∀ v ∈ [Value.int .i64 a, .int .i64 b, .int .i64 c, .bool x, .slice A n k], v.oneCell' = true := by
  intro v hv
  simp only [List.mem_cons, List.not_mem_nil, or_false] at hv
  rcases hv with rfl | rfl | rfl | rfl | rfl <;> rfl
theorem two_cells {w : World} {B : Nat} {A : Option Addr} {x y : UInt8} (h : BytesAt w B A [x, y]) : ∃ ad, A = some ad ∧ w.cell? ad = some (.int .u8 (x.toNat : Int)) ∧ w.cell? ⟨ad.block, ad.off + 1, none⟩ = some (.int .u8 (y.toNat : Int)) := by
  obtain ⟨ad, e, _, hc⟩ := h (by simp)
  have h0 := hc 0 (by simp)
  have h1 := hc 1 (by simp)
  rw [add_zero] at h0
  exact ⟨ad, e, h0, h1⟩
theorem sent_at {w : World} {base n c : Nat} {A : Option Addr} {sent : List NaM} {k : Nat} {m : NaM} (h : OwnK 34 5 w base (.slice A n c) n (sent.flatMap naCells)) (hk : sent[k]? = some m) : ∃ g, A = some ⟨g, 0, none⟩ ∧ w.cell? ⟨g, k * 5 + 1, none⟩ = some (.int .i64 m.i) ∧ w.cell? ⟨g, k * 5 + 2, none⟩ = some (.int .i64 m.to) := by
  have hkl := (List.getElem?_eq_some_iff.1 hk).1
  have hl := h.len
  rw [flk_len na_len] at hl
  obtain ⟨g, e, _⟩ := h.at_g (by omega)
  exact ⟨g, e, h.cell e (flk_at na_len sent k m hk 1 _ rfl), h.cell e (flk_at na_len sent k m hk 2 _ rfl)⟩
set_option maxRecDepth 100000 in
set_option maxHeartbeats 8000000 in
theorem ntKeeps_any (A0 : Option Addr) (ms : List NaM) (c0 : Nat) (w : World) (hA : NasAt w w.heap.size A0 ms) : Calls Try.prog 6 #[.slice A0 ms.length c0] w fun en w' => en = .returned (.bool true) ∧ Below w.heap.size w w' := by
  have za := ntAwake_any w
  have zn := fun w1 B => nz_new w w1 B
  obtain ⟨n, hn⟩ : ∃ n, n = ms.length := ⟨_, rfl⟩
  rw [← hn]
  by_cases h120 : 120 < n
  · have i0 : (120 : Int) < (n : Int) := by omega
    clear hn hA h120
    go_enter Try.func6, Try.ntmps6
    go_wp2_with (first
      | (go_at_call 10; refine za.mono ?_; (rintro e w1 ⟨rfl, B1⟩; have z1 := zn w1 B1))
      | (go_at_call 9; (with_reducible refine z1.mono ?_); (rintro e w2 ⟨rfl, H2, _⟩; have H2 := Lib.hid H2.fr)))
    go_ret
    exact ⟨rfl, H2.out⟩
  have i0 : ¬ (120 : Int) < (n : Int) := by omega
  have HA := Lib.hid (And.intro hA hn)
  have HN := Lib.hid (show n ≤ 120 by omega)
  clear hn hA h120
  go_enter Try.func6, Try.ntmps6
  go_wp2_with (first
    | (go_at_call 10; refine za.mono ?_; (rintro e w1 ⟨rfl, B1⟩; have z1 := zn w1 B1))
    | (go_at_call 9; (with_reducible refine z1.mono ?_); (rintro e w2 ⟨rfl, H2, _⟩; have H2 := Lib.hid (show Ke w w2 w1.heap.size Nt.new (.slice none 0 0) [] from ⟨H2.less fun j e => (by cases e), OwnK.nil_⟩))))
  obtain ⟨b, hb⟩ : ∃ b, b = w1.heap.size := ⟨_, rfl⟩
  rw [← hb] at H2 ⊢
  clear za zn hb z1 B1
  go_loopw [5, 6, 7, 8] (fun sv my cm ix wr => ∃ (i many came : Nat) (sent : List NaM) (s : N) (As : Option Addr) (cs : Nat), sv = .slice As sent.length cs ∧ my = .int .i64 (many : Int) ∧ cm = .int .i64 (came : Int) ∧ ix = .int .i64 (i : Int) ∧ i ≤ n ∧ Ke w wr b s (.slice As sent.length cs) sent ∧ Kp s sent came many i) (fun _ _ _ ix _ => 130 - vFl ix)
  case atStart => exact ⟨0, 0, 0, [], Nt.new, none, 0, rfl, rfl, rfl, rfl, Nat.zero_le _, H2.out, ⟨rfl, (fun _ h => by cases h), Nat.zero_le _, Nat.zero_le _⟩⟩
  case round =>
    obtain ⟨i, many, came, sent, s, As, cs, rfl, rfl, rfl, rfl, hi, inv, kp⟩ := hrel
    clear H2
    by_cases hlt : i < n
    · obtain ⟨m, hm⟩ : ∃ m, ms[i]? = some m := ⟨_, List.getElem?_eq_getElem (by rw [← HA.out.2]; exact hlt)⟩
      obtain ⟨ad, rfl, hrow⟩ := na_row HA.out.1 inv.nz.fr hm
      have c1 := hrow 0 _ rfl
      have c2 : wr.cell? ⟨(ad.add (i * 5)).block, (ad.add (i * 5)).off + 1, none⟩ = some (.int .i64 m.i) := hrow 1 _ rfl
      have c3 : wr.cell? ⟨(ad.add (i * 5)).block, (ad.add (i * 5)).off + 2, none⟩ = some (.int .i64 m.to) := hrow 2 _ rfl
      have c4 : wr.cell? ⟨(ad.add (i * 5)).block, (ad.add (i * 5)).off + 3, none⟩ = some (.bool m.is) := hrow 3 _ rfl
      have c5 : wr.cell? ⟨(ad.add (i * 5)).block, (ad.add (i * 5)).off + 4, none⟩ = some (.slice m.A m.b.length m.cb) := hrow 4 _ rfl
      rw [add_zero] at c1
      have hlt' : (i : Int) < (n : Int) := by omega
      have hwi : IntKind.i64.wrap ((i : Int) + 1) = (i : Int) + 1 := IntWalk.i64_in _ (by have := HN.out; omega)
      have HE := Lib.hid (And.intro inv kp)
      have HI := Lib.hid (show i < 120 by have := HN.out; omega)
      have HLT := Lib.hid (show i + 1 ≤ n from hlt)
      clear hm hrow hlt hi inv kp
      obtain ⟨kd, mi, mt, is, bb, Ab, cb⟩ := m
      dsimp only at c1 c2 c3 c4 c5
      by_cases h0 : kd = 0
      · subst h0
        by_cases hlk : link mi mt = true
        · obtain ⟨a1, a2, a3, a4, _⟩ := link_iff.1 hlk
          obtain ⟨p, rfl⟩ := Int.eq_ofNat_of_zero_le a1
          obtain ⟨q, rfl⟩ := Int.eq_ofNat_of_zero_le a3
          have KP := Lib.hid (HE.out.2.send ⟨0, (p : Int), (q : Int), is, bb, Ab, cb⟩ p q rfl rfl hlk)
          obtain ⟨s3, hs3⟩ : ∃ s3, s3 = s.send (p : Int) (q : Int) [UInt8.ofNat sent.length, UInt8.ofNat p] := ⟨_, rfl⟩
          rw [← hs3] at KP
          obtain ⟨L, hL⟩ : ∃ L, L = s3.lost := ⟨_, rfl⟩
          obtain ⟨C, hC⟩ : ∃ C, C = s3.way.length := ⟨_, rfl⟩
          have hsum := KP.out.sum
          have hle := KP.out.le
          rw [← hL, ← hC] at hsum
          have q1 : IntKind.i64.wrap ((came : Int) + (L : Int)) = (came : Int) + (L : Int) := IntWalk.i64_in _ (by have := HI.out; omega)
          have q2 : IntKind.i64.wrap ((came : Int) + (L : Int) + (C : Int)) = (many : Int) + 1 := by rw [IntWalk.i64_in _ (by have := HI.out; omega)]; omega
          have q3 : ((many : Int) + 1 != (many : Int) + 1) = false := by simp
          have hlo : s.lost ≤ 4611686018427387904 := by have := HE.out.2.sum; have := HE.out.2.le; have := HI.out; omega
          have HL := Lib.hid hL.symm
          have HC := Lib.hid hC.symm
          clear hL hC hsum hle
          have hm1 : IntKind.i64.wrap ((many : Int) + 1) = (many : Int) + 1 := IntWalk.i64_in _ (by have := HE.out.2.le; have := HI.out; omega)
          have hE : N.sendE (p : Int) (q : Int) 2 = 0 := by unfold N.sendE; rw [hlk, if_neg (by decide), if_neg (by decide)]
          obtain ⟨X, hX⟩ : ∃ X : Int, X = ((UInt8.ofNat sent.length).toNat : Int) := ⟨_, rfl⟩
          obtain ⟨Y, hY⟩ : ∃ Y : Int, Y = ((UInt8.ofNat p).toNat : Int) := ⟨_, rfl⟩
          have hu1 : IntKind.u8.wrap (sent.length : Int) = X := by rw [hX]; exact u8_of _
          have hu2 : IntKind.u8.wrap (p : Int) = Y := by rw [hY]; exact u8_of p
          have ZS := Lib.hid (fun w2 (G : Kg w w2 b s (.slice As sent.length cs) sent wr.heap.size ⟨0, (p : Int), (q : Int), is, bb, Ab, cb⟩) => nz_two G.nz (p : Int) (q : Int) (UInt8.ofNat sent.length) (UInt8.ofNat p) X Y hX hY hlo 0 s3 hE hs3.symm)
          have HSL := Lib.hid (show sent.length ≤ 120 by have := HE.out.2.len; have := HI.out; omega)
          clear hlk a1 a2 a3 a4 hE hX hY hs3 hlo
          go_wp2_with (first
            | ((with_reducible refine atWorld wr ?_); refine wpList_allocRow (w := wr) info_na rfl rfl ?_; (intro w1 b1 B1 s1; have b1 := Lib.hid b1; replace s1 := Lib.hid s1))
            | ((with_reducible refine atWorld w1 ?_); refine wpList_storeRow (w := w1) info_na rfl (.tmp 9) (.tmp 35) rfl wr.heap.size [.int .i64 0, .int .i64 (p : Int), .int .i64 (q : Int), .bool is, .slice Ab bb.length cb] [.int .i64 0, .int .i64 0, .int .i64 0, .bool false, .slice none 0 0] rfl rfl rfl rfl (na5_one _ _ _ _ _ _ _) b1.out ?_; (intro w2 b2 B2 s2 k2; have G2 := HE.out.1.var (m := ⟨0, (p : Int), (q : Int), is, bb, Ab, cb⟩) (B1.trans B2) b2; obtain ⟨y0, y1, y2, y3⟩ := G2.cells; dsimp only at y0 y1 y2 y3; have zs := ZS.out w2 G2; have G2 := Lib.hid G2; clear b2 k2; replace s2 := Lib.hid s2))
            | (go_at_call 17; (with_reducible refine zs.mono ?_); (rintro e w3 ⟨rfl, k2, k3⟩; have G3 := G2.out.go k2 k3; have G4 := G3.step (step_alloc (Below.refl _ w3) (.cells #[.int .i64 0, .int .i64 (p : Int), .int .i64 (q : Int), .bool is, .slice Ab bb.length cb] 34)); have hb4 : w.heap.size ≤ (w3.alloc (.cells #[.int .i64 0, .int .i64 (p : Int), .int .i64 (q : Int), .bool is, .slice Ab bb.length cb] 34)).heap.size := G4.nz.fr.size; have G3 := Lib.hid G3; have G4 := Lib.hid G4; have hb4 := Lib.hid hb4; clear k2 k3))
            | ((with_reducible refine atWorld w3 ?_); refine wpList_loadRow (w := w3) info_na rfl (.tmp 9) rfl wr.heap.size 0 [.int .i64 0, .int .i64 (p : Int), .int .i64 (q : Int), .bool is, .slice Ab bb.length cb] rfl rfl (rangeOf G3.out.blk) ?_)
            | (at_builtin; refine wpList_appendK rfl (.tmp 54) (.tmp 56) elNa rfl (.slice As sent.length cs) sent.length (sent.flatMap naCells) [.int .i64 0, .int .i64 (p : Int), .int .i64 (q : Int), .bool is, .slice Ab bb.length cb] 1 w.heap.size rfl G4.out.own ⟨w3.heap.size, 0, none⟩ 1 rfl rfl (fun j u hu => by rw [addr_zero_add]; exact (BlkR.new w3 [.int .i64 0, .int .i64 (p : Int), .int .i64 (q : Int), .bool is, .slice Ab bb.length cb] 34).cell hu) (na5_one _ _ _ _ _ _ _) (by have := HSL.out; unfold maxLen; omega) (by have := HSL.out; omega) hb4.out ?_; (intro v4 w4 ho hg hat; have G5 := G3.out.push _ ho hg hat; have zl := nz_lost G5.nz L HL.out; have zc := nz_count G5.nz C HC.out; obtain ⟨A4, c4, rfl, _⟩ := ho.form; have G5 := Lib.hid G5; clear ho hg hat))
            | (go_at_call 13; (with_reducible refine zl.mono ?_); (rintro e wl ⟨rfl, rfl⟩))
            | (go_at_call 12; (with_reducible refine zc.mono ?_); (rintro e wc ⟨rfl, rfl⟩)))
          go_roundw
          case rel => exact ⟨i + 1, many + 1, came, sent ++ [⟨0, (p : Int), (q : Int), is, bb, Ab, cb⟩], s3, A4, c4, by rw [List.length_append]; rfl, by go_num, rfl, by go_num, HLT.out, (by have := G5.out; rwa [show sent.length + 1 = (sent ++ [(⟨0, (p : Int), (q : Int), is, bb, Ab, cb⟩ : NaM)]).length by simp] at this), KP.out⟩
          case measure => have := HLT.out; have := HI.out; simp [vFl]; omega
        · simp only [Bool.not_eq_true] at hlk
          have KP := Lib.hid (HE.out.2.up)
          obtain ⟨s3, hs3⟩ : ∃ s3, s3 = s := ⟨_, rfl⟩
          rw [← hs3] at KP
          obtain ⟨L, hL⟩ : ∃ L, L = s3.lost := ⟨_, rfl⟩
          obtain ⟨C, hC⟩ : ∃ C, C = s3.way.length := ⟨_, rfl⟩
          have hsum := KP.out.sum
          have hle := KP.out.le
          rw [← hL, ← hC] at hsum
          have q1 : IntKind.i64.wrap ((came : Int) + (L : Int)) = (came : Int) + (L : Int) := IntWalk.i64_in _ (by have := HI.out; omega)
          have q2 : IntKind.i64.wrap ((came : Int) + (L : Int) + (C : Int)) = (many : Int) := by rw [IntWalk.i64_in _ (by have := HI.out; omega)]; omega
          have q3 : ((many : Int) != (many : Int)) = false := by simp
          have hlo : s.lost ≤ 4611686018427387904 := by have := HE.out.2.sum; have := HE.out.2.le; have := HI.out; omega
          have HL := Lib.hid hL.symm
          have HC := Lib.hid hC.symm
          clear hL hC hsum hle
          subst hs3
          have ZS := Lib.hid (fun w2 (G : Kg w w2 b s3 (.slice As sent.length cs) sent wr.heap.size ⟨0, mi, mt, is, bb, Ab, cb⟩) o P n c => nz_nolink G.nz mi mt o P n c hlk)
          clear hlk hlo
          go_wp2_with (first
            | ((with_reducible refine atWorld wr ?_); refine wpList_allocRow (w := wr) info_na rfl rfl ?_; (intro w1 b1 B1 s1; have b1 := Lib.hid b1; replace s1 := Lib.hid s1))
            | ((with_reducible refine atWorld w1 ?_); refine wpList_storeRow (w := w1) info_na rfl (.tmp 9) (.tmp 35) rfl wr.heap.size [.int .i64 0, .int .i64 mi, .int .i64 mt, .bool is, .slice Ab bb.length cb] [.int .i64 0, .int .i64 0, .int .i64 0, .bool false, .slice none 0 0] rfl rfl rfl rfl (na5_one _ _ _ _ _ _ _) b1.out ?_; (intro w2 b2 B2 s2 k2; have G2 := HE.out.1.var (m := ⟨0, mi, mt, is, bb, Ab, cb⟩) (B1.trans B2) b2; obtain ⟨y0, y1, y2, y3⟩ := G2.cells; dsimp only at y0 y1 y2 y3; have zs := ZS.out w2 G2; have G2 := Lib.hid G2; clear b2 k2; replace s2 := Lib.hid s2))
            | (go_at_call 17; refine (zs _ _ _ _).mono ?_; (rintro e w3 ⟨rfl, k2, k3⟩; have G3 := G2.out.go k2 k3; have zl := nz_lost G3.nz L HL.out; have zc := nz_count G3.nz C HC.out; have G3 := Lib.hid G3; clear k2 k3))
            | (go_at_call 13; (with_reducible refine zl.mono ?_); (rintro e wl ⟨rfl, rfl⟩))
            | (go_at_call 12; (with_reducible refine zc.mono ?_); (rintro e wc ⟨rfl, rfl⟩)))
          go_roundw
          case rel => exact ⟨i + 1, many, came, sent, s3, _, _, rfl, by go_num, by go_num, by go_num, HLT.out, G3.out.ke, KP.out⟩
          case measure => have := HLT.out; have := HI.out; simp [vFl]; omega
      by_cases h3 : kd = 3
      · subst h3
        have KP := Lib.hid (HE.out.2.drop mi)
        obtain ⟨s3, hs3⟩ : ∃ s3, s3 = s.dropI mi := ⟨_, rfl⟩
        rw [← hs3] at KP
        obtain ⟨L, hL⟩ : ∃ L, L = s3.lost := ⟨_, rfl⟩
        obtain ⟨C, hC⟩ : ∃ C, C = s3.way.length := ⟨_, rfl⟩
        have hsum := KP.out.sum
        have hle := KP.out.le
        rw [← hL, ← hC] at hsum
        have q1 : IntKind.i64.wrap ((came : Int) + (L : Int)) = (came : Int) + (L : Int) := IntWalk.i64_in _ (by have := HI.out; omega)
        have q2 : IntKind.i64.wrap ((came : Int) + (L : Int) + (C : Int)) = (many : Int) := by rw [IntWalk.i64_in _ (by have := HI.out; omega)]; omega
        have q3 : ((many : Int) != (many : Int)) = false := by simp
        have hlo : s.lost ≤ 4611686018427387904 := by have := HE.out.2.sum; have := HE.out.2.le; have := HI.out; omega
        have HL := Lib.hid hL.symm
        have HC := Lib.hid hC.symm
        clear hL hC hsum hle
        have ZS := Lib.hid (fun w2 (G : Kg w w2 b s (.slice As sent.length cs) sent wr.heap.size ⟨3, mi, mt, is, bb, Ab, cb⟩) => nz_drop G.nz mi hlo (s.lookE mi) s3 rfl hs3.symm)
        obtain ⟨E, hE⟩ : ∃ E, E = s.lookE mi := ⟨_, rfl⟩
        rw [← hE] at ZS
        clear hs3 hlo hE
        go_wp2_with (first
          | ((with_reducible refine atWorld wr ?_); refine wpList_allocRow (w := wr) info_na rfl rfl ?_; (intro w1 b1 B1 s1; have b1 := Lib.hid b1; replace s1 := Lib.hid s1))
          | ((with_reducible refine atWorld w1 ?_); refine wpList_storeRow (w := w1) info_na rfl (.tmp 9) (.tmp 35) rfl wr.heap.size [.int .i64 3, .int .i64 mi, .int .i64 mt, .bool is, .slice Ab bb.length cb] [.int .i64 0, .int .i64 0, .int .i64 0, .bool false, .slice none 0 0] rfl rfl rfl rfl (na5_one _ _ _ _ _ _ _) b1.out ?_; (intro w2 b2 B2 s2 k2; have G2 := HE.out.1.var (m := ⟨3, mi, mt, is, bb, Ab, cb⟩) (B1.trans B2) b2; obtain ⟨y0, y1, y2, y3⟩ := G2.cells; dsimp only at y0 y1 y2 y3; have zs := ZS.out w2 G2; have G2 := Lib.hid G2; clear b2 k2; replace s2 := Lib.hid s2))
          | (go_at_call 22; (with_reducible refine zs.mono ?_); (rintro e w3 ⟨rfl, k2, k3⟩; have G3 := G2.out.go k2 k3; have zl := nz_lost G3.nz L HL.out; have zc := nz_count G3.nz C HC.out; have G3 := Lib.hid G3; clear k2 k3))
          | (go_at_call 13; (with_reducible refine zl.mono ?_); (rintro e wl ⟨rfl, rfl⟩))
          | (go_at_call 12; (with_reducible refine zc.mono ?_); (rintro e wc ⟨rfl, rfl⟩)))
        go_roundw
        case rel => exact ⟨i + 1, many, came, sent, s3, _, _, rfl, by go_num, by go_num, by go_num, HLT.out, G3.out.ke, KP.out⟩
        case measure => have := HLT.out; have := HI.out; simp [vFl]; omega
      by_cases h4 : kd = 4
      · subst h4
        have KD := HE.out.2.double mi
        by_cases hE : s.doubleE mi = 0
        · rw [if_pos hE] at KD
          have KP := Lib.hid (KD)
          obtain ⟨s3, hs3⟩ : ∃ s3, s3 = s.double mi := ⟨_, rfl⟩
          rw [← hs3] at KP
          obtain ⟨L, hL⟩ : ∃ L, L = s3.lost := ⟨_, rfl⟩
          obtain ⟨C, hC⟩ : ∃ C, C = s3.way.length := ⟨_, rfl⟩
          have hsum := KP.out.sum
          have hle := KP.out.le
          rw [← hL, ← hC] at hsum
          have q1 : IntKind.i64.wrap ((came : Int) + (L : Int)) = (came : Int) + (L : Int) := IntWalk.i64_in _ (by have := HI.out; omega)
          have q2 : IntKind.i64.wrap ((came : Int) + (L : Int) + (C : Int)) = (many : Int) + 1 := by rw [IntWalk.i64_in _ (by have := HI.out; omega)]; omega
          have q3 : ((many : Int) + 1 != (many : Int) + 1) = false := by simp
          have hlo : s.lost ≤ 4611686018427387904 := by have := HE.out.2.sum; have := HE.out.2.le; have := HI.out; omega
          have HL := Lib.hid hL.symm
          have HC := Lib.hid hC.symm
          clear hL hC hsum hle
          have hm1 : IntKind.i64.wrap ((many : Int) + 1) = (many : Int) + 1 := IntWalk.i64_in _ (by have := HE.out.2.le; have := HI.out; omega)
          have ZS := Lib.hid (fun w2 (G : Kg w w2 b s (.slice As sent.length cs) sent wr.heap.size ⟨4, mi, mt, is, bb, Ab, cb⟩) => nz_double G.nz mi 0 s3 hE hs3.symm)
          clear hs3 hlo hE KD
          go_wp2_with (first
            | ((with_reducible refine atWorld wr ?_); refine wpList_allocRow (w := wr) info_na rfl rfl ?_; (intro w1 b1 B1 s1; have b1 := Lib.hid b1; replace s1 := Lib.hid s1))
            | ((with_reducible refine atWorld w1 ?_); refine wpList_storeRow (w := w1) info_na rfl (.tmp 9) (.tmp 35) rfl wr.heap.size [.int .i64 4, .int .i64 mi, .int .i64 mt, .bool is, .slice Ab bb.length cb] [.int .i64 0, .int .i64 0, .int .i64 0, .bool false, .slice none 0 0] rfl rfl rfl rfl (na5_one _ _ _ _ _ _ _) b1.out ?_; (intro w2 b2 B2 s2 k2; have G2 := HE.out.1.var (m := ⟨4, mi, mt, is, bb, Ab, cb⟩) (B1.trans B2) b2; obtain ⟨y0, y1, y2, y3⟩ := G2.cells; dsimp only at y0 y1 y2 y3; have zs := ZS.out w2 G2; have G2 := Lib.hid G2; clear b2 k2; replace s2 := Lib.hid s2))
            | (go_at_call 18; (with_reducible refine zs.mono ?_); (rintro e w3 ⟨rfl, k2, k3⟩; have G3 := G2.out.go k2 k3; have zl := nz_lost G3.nz L HL.out; have zc := nz_count G3.nz C HC.out; have G3 := Lib.hid G3; clear k2 k3))
            | (go_at_call 13; (with_reducible refine zl.mono ?_); (rintro e wl ⟨rfl, rfl⟩))
            | (go_at_call 12; (with_reducible refine zc.mono ?_); (rintro e wc ⟨rfl, rfl⟩)))
          go_roundw
          case rel => exact ⟨i + 1, many + 1, came, sent, s3, _, _, rfl, by go_num, by go_num, by go_num, HLT.out, G3.out.ke, KP.out⟩
          case measure => have := HLT.out; have := HI.out; simp [vFl]; omega
        · rw [if_neg hE] at KD
          have KP := Lib.hid (KD)
          obtain ⟨s3, hs3⟩ : ∃ s3, s3 = s.double mi := ⟨_, rfl⟩
          rw [← hs3] at KP
          obtain ⟨L, hL⟩ : ∃ L, L = s3.lost := ⟨_, rfl⟩
          obtain ⟨C, hC⟩ : ∃ C, C = s3.way.length := ⟨_, rfl⟩
          have hsum := KP.out.sum
          have hle := KP.out.le
          rw [← hL, ← hC] at hsum
          have q1 : IntKind.i64.wrap ((came : Int) + (L : Int)) = (came : Int) + (L : Int) := IntWalk.i64_in _ (by have := HI.out; omega)
          have q2 : IntKind.i64.wrap ((came : Int) + (L : Int) + (C : Int)) = (many : Int) := by rw [IntWalk.i64_in _ (by have := HI.out; omega)]; omega
          have q3 : ((many : Int) != (many : Int)) = false := by simp
          have hlo : s.lost ≤ 4611686018427387904 := by have := HE.out.2.sum; have := HE.out.2.le; have := HI.out; omega
          have HL := Lib.hid hL.symm
          have HC := Lib.hid hC.symm
          clear hL hC hsum hle
          have ZS := Lib.hid (fun w2 (G : Kg w w2 b s (.slice As sent.length cs) sent wr.heap.size ⟨4, mi, mt, is, bb, Ab, cb⟩) => nz_double G.nz mi (s.doubleE mi) s3 rfl hs3.symm)
          have hE2 : (s.doubleE mi == 0) = false := by simpa using hE
          obtain ⟨E, hE3⟩ : ∃ E, E = s.doubleE mi := ⟨_, rfl⟩
          rw [← hE3] at ZS hE2
          clear hE3
          clear hs3 hlo hE KD
          go_wp2_with (first
            | ((with_reducible refine atWorld wr ?_); refine wpList_allocRow (w := wr) info_na rfl rfl ?_; (intro w1 b1 B1 s1; have b1 := Lib.hid b1; replace s1 := Lib.hid s1))
            | ((with_reducible refine atWorld w1 ?_); refine wpList_storeRow (w := w1) info_na rfl (.tmp 9) (.tmp 35) rfl wr.heap.size [.int .i64 4, .int .i64 mi, .int .i64 mt, .bool is, .slice Ab bb.length cb] [.int .i64 0, .int .i64 0, .int .i64 0, .bool false, .slice none 0 0] rfl rfl rfl rfl (na5_one _ _ _ _ _ _ _) b1.out ?_; (intro w2 b2 B2 s2 k2; have G2 := HE.out.1.var (m := ⟨4, mi, mt, is, bb, Ab, cb⟩) (B1.trans B2) b2; obtain ⟨y0, y1, y2, y3⟩ := G2.cells; dsimp only at y0 y1 y2 y3; have zs := ZS.out w2 G2; have G2 := Lib.hid G2; clear b2 k2; replace s2 := Lib.hid s2))
            | (go_at_call 18; (with_reducible refine zs.mono ?_); (rintro e w3 ⟨rfl, k2, k3⟩; have G3 := G2.out.go k2 k3; have zl := nz_lost G3.nz L HL.out; have zc := nz_count G3.nz C HC.out; have G3 := Lib.hid G3; clear k2 k3))
            | (go_at_call 13; (with_reducible refine zl.mono ?_); (rintro e wl ⟨rfl, rfl⟩))
            | (go_at_call 12; (with_reducible refine zc.mono ?_); (rintro e wc ⟨rfl, rfl⟩)))
          go_roundw
          case rel => exact ⟨i + 1, many, came, sent, s3, _, _, rfl, by go_num, by go_num, by go_num, HLT.out, G3.out.ke, KP.out⟩
          case measure => have := HLT.out; have := HI.out; simp [vFl]; omega
      by_cases h5 : kd = 5
      · subst h5
        have KP := Lib.hid (HE.out.2.cut mi mt is)
        obtain ⟨s3, hs3⟩ : ∃ s3, s3 = s.cut mi mt is := ⟨_, rfl⟩
        rw [← hs3] at KP
        obtain ⟨L, hL⟩ : ∃ L, L = s3.lost := ⟨_, rfl⟩
        obtain ⟨C, hC⟩ : ∃ C, C = s3.way.length := ⟨_, rfl⟩
        have hsum := KP.out.sum
        have hle := KP.out.le
        rw [← hL, ← hC] at hsum
        have q1 : IntKind.i64.wrap ((came : Int) + (L : Int)) = (came : Int) + (L : Int) := IntWalk.i64_in _ (by have := HI.out; omega)
        have q2 : IntKind.i64.wrap ((came : Int) + (L : Int) + (C : Int)) = (many : Int) := by rw [IntWalk.i64_in _ (by have := HI.out; omega)]; omega
        have q3 : ((many : Int) != (many : Int)) = false := by simp
        have hlo : s.lost ≤ 4611686018427387904 := by have := HE.out.2.sum; have := HE.out.2.le; have := HI.out; omega
        have HL := Lib.hid hL.symm
        have HC := Lib.hid hC.symm
        clear hL hC hsum hle
        have ZS := Lib.hid (fun w2 (G : Kg w w2 b s (.slice As sent.length cs) sent wr.heap.size ⟨5, mi, mt, is, bb, Ab, cb⟩) => nz_cut G.nz mi mt is (N.cutE mi mt) s3 rfl hs3.symm)
        obtain ⟨E, hE⟩ : ∃ E, E = N.cutE mi mt := ⟨_, rfl⟩
        rw [← hE] at ZS
        clear hs3 hlo hE
        go_wp2_with (first
          | ((with_reducible refine atWorld wr ?_); refine wpList_allocRow (w := wr) info_na rfl rfl ?_; (intro w1 b1 B1 s1; have b1 := Lib.hid b1; replace s1 := Lib.hid s1))
          | ((with_reducible refine atWorld w1 ?_); refine wpList_storeRow (w := w1) info_na rfl (.tmp 9) (.tmp 35) rfl wr.heap.size [.int .i64 5, .int .i64 mi, .int .i64 mt, .bool is, .slice Ab bb.length cb] [.int .i64 0, .int .i64 0, .int .i64 0, .bool false, .slice none 0 0] rfl rfl rfl rfl (na5_one _ _ _ _ _ _ _) b1.out ?_; (intro w2 b2 B2 s2 k2; have G2 := HE.out.1.var (m := ⟨5, mi, mt, is, bb, Ab, cb⟩) (B1.trans B2) b2; obtain ⟨y0, y1, y2, y3⟩ := G2.cells; dsimp only at y0 y1 y2 y3; have zs := ZS.out w2 G2; have G2 := Lib.hid G2; clear b2 k2; replace s2 := Lib.hid s2))
          | (go_at_call 23; (with_reducible refine zs.mono ?_); (rintro e w3 ⟨rfl, k2, k3⟩; have G3 := G2.out.go k2 k3; have zl := nz_lost G3.nz L HL.out; have zc := nz_count G3.nz C HC.out; have G3 := Lib.hid G3; clear k2 k3))
          | (go_at_call 13; (with_reducible refine zl.mono ?_); (rintro e wl ⟨rfl, rfl⟩))
          | (go_at_call 12; (with_reducible refine zc.mono ?_); (rintro e wc ⟨rfl, rfl⟩)))
        go_roundw
        case rel => exact ⟨i + 1, many, came, sent, s3, _, _, rfl, by go_num, by go_num, by go_num, HLT.out, G3.out.ke, KP.out⟩
        case measure => have := HLT.out; have := HI.out; simp [vFl]; omega
      by_cases h6 : kd = 6
      · subst h6
        have KP := Lib.hid (HE.out.2.clear)
        obtain ⟨s3, hs3⟩ : ∃ s3, s3 = s.clear := ⟨_, rfl⟩
        rw [← hs3] at KP
        obtain ⟨L, hL⟩ : ∃ L, L = s3.lost := ⟨_, rfl⟩
        obtain ⟨C, hC⟩ : ∃ C, C = s3.way.length := ⟨_, rfl⟩
        have hsum := KP.out.sum
        have hle := KP.out.le
        rw [← hL, ← hC] at hsum
        have q1 : IntKind.i64.wrap ((came : Int) + (L : Int)) = (came : Int) + (L : Int) := IntWalk.i64_in _ (by have := HI.out; omega)
        have q2 : IntKind.i64.wrap ((came : Int) + (L : Int) + (C : Int)) = (many : Int) := by rw [IntWalk.i64_in _ (by have := HI.out; omega)]; omega
        have q3 : ((many : Int) != (many : Int)) = false := by simp
        have hlo : s.lost ≤ 4611686018427387904 := by have := HE.out.2.sum; have := HE.out.2.le; have := HI.out; omega
        have HL := Lib.hid hL.symm
        have HC := Lib.hid hC.symm
        clear hL hC hsum hle
        have ZS := Lib.hid (fun w2 (G : Kg w w2 b s (.slice As sent.length cs) sent wr.heap.size ⟨6, mi, mt, is, bb, Ab, cb⟩) => nz_clear G.nz hlo s3 hs3.symm)
        clear hs3 hlo
        go_wp2_with (first
          | ((with_reducible refine atWorld wr ?_); refine wpList_allocRow (w := wr) info_na rfl rfl ?_; (intro w1 b1 B1 s1; have b1 := Lib.hid b1; replace s1 := Lib.hid s1))
          | ((with_reducible refine atWorld w1 ?_); refine wpList_storeRow (w := w1) info_na rfl (.tmp 9) (.tmp 35) rfl wr.heap.size [.int .i64 6, .int .i64 mi, .int .i64 mt, .bool is, .slice Ab bb.length cb] [.int .i64 0, .int .i64 0, .int .i64 0, .bool false, .slice none 0 0] rfl rfl rfl rfl (na5_one _ _ _ _ _ _ _) b1.out ?_; (intro w2 b2 B2 s2 k2; have G2 := HE.out.1.var (m := ⟨6, mi, mt, is, bb, Ab, cb⟩) (B1.trans B2) b2; obtain ⟨y0, y1, y2, y3⟩ := G2.cells; dsimp only at y0 y1 y2 y3; have zs := ZS.out w2 G2; have G2 := Lib.hid G2; clear b2 k2; replace s2 := Lib.hid s2))
          | (go_at_call 24; (with_reducible refine zs.mono ?_); (rintro e w3 ⟨rfl, k2, k3⟩; have G3 := G2.out.go k2 k3; have zl := nz_lost G3.nz L HL.out; have zc := nz_count G3.nz C HC.out; have G3 := Lib.hid G3; clear k2 k3))
          | (go_at_call 13; (with_reducible refine zl.mono ?_); (rintro e wl ⟨rfl, rfl⟩))
          | (go_at_call 12; (with_reducible refine zc.mono ?_); (rintro e wc ⟨rfl, rfl⟩)))
        go_roundw
        case rel => exact ⟨i + 1, many, came, sent, s3, _, _, rfl, by go_num, by go_num, by go_num, HLT.out, G3.out.ke, KP.out⟩
        case measure => have := HLT.out; have := HI.out; simp [vFl]; omega
      by_cases h1 : kd = 1
      · subst h1
        cases hh : s.has mi with
        | true =>
          obtain ⟨k, mk, hk1, hk2, hk3, hk4⟩ := HE.out.2.good _ (at_mem hh)
          obtain ⟨fr, tq, bs, hp⟩ : ∃ fr tq bs, s.at_ mi = ⟨fr, tq, bs⟩ := ⟨_, _, _, rfl⟩
          rw [hp] at hk2 hk3 hk4
          dsimp only at hk2 hk3 hk4
          subst hk2
          have hfr3 : fr < 3 := by have := (HE.out.1.nz.ok.pk _ (at_mem hh)).fr; rw [hp] at this; exact this
          have hkl := (List.getElem?_eq_some_iff.1 hk1).1
          have KP := Lib.hid (HE.out.2.deliver hh)
          obtain ⟨s3, hs3⟩ : ∃ s3, s3 = s.del mi := ⟨_, rfl⟩
          rw [← hs3] at KP
          obtain ⟨L, hL⟩ : ∃ L, L = s3.lost := ⟨_, rfl⟩
          obtain ⟨C, hC⟩ : ∃ C, C = s3.way.length := ⟨_, rfl⟩
          have hsum := KP.out.sum
          have hle := KP.out.le
          rw [← hL, ← hC] at hsum
          have q1 : IntKind.i64.wrap (((came : Int) + 1) + (L : Int)) = ((came : Int) + 1) + (L : Int) := IntWalk.i64_in _ (by have := HI.out; omega)
          have q2 : IntKind.i64.wrap (((came : Int) + 1) + (L : Int) + (C : Int)) = (many : Int) := by rw [IntWalk.i64_in _ (by have := HI.out; omega)]; omega
          have q3 : ((many : Int) != (many : Int)) = false := by simp
          have hlo : s.lost ≤ 4611686018427387904 := by have := HE.out.2.sum; have := HE.out.2.le; have := HI.out; omega
          have HL := Lib.hid hL.symm
          have HC := Lib.hid hC.symm
          clear hL hC hsum hle
          have hc1 : IntKind.i64.wrap ((came : Int) + 1) = (came : Int) + 1 := IntWalk.i64_in _ (by have := HE.out.2.sum; have := HE.out.2.le; have := HI.out; omega)
          have hE : s.lookE mi = 0 := by unfold N.lookE; rw [hh, if_pos rfl]
          have hlen := HE.out.2.len
          have hk256 : ((UInt8.ofNat k).toNat : Int) = (k : Int) := by rw [UInt8.toNat_ofNat']; have := HI.out; omega
          have hf256 : ((UInt8.ofNat fr).toNat : Int) = (fr : Int) := by rw [UInt8.toNat_ofNat']; omega
          have hw1 : IntKind.i64.wrap (k : Int) = (k : Int) := IntWalk.i64_in _ (by have := HI.out; omega)
          have hw2 : IntKind.i64.wrap (fr : Int) = (fr : Int) := IntWalk.i64_in _ (by omega)
          have hlt1 : decide ((sent.length : Int) ≤ (k : Int)) = false := by simp; omega
          have hlt3 : decide (sent.length ≤ k) = false := by simp; omega
          have hk0 : (0 : Int) ≤ (k : Int) := by omega
          have hlt2 : (k : Int) < (sent.length : Int) := by omega
          have e1 : ((fr : Int) != (fr : Int)) = false := by simp
          have e2 : ((tq : Int) != (tq : Int)) = false := by simp
          have ZS := Lib.hid (fun w2 (G : Kg w w2 b s (.slice As sent.length cs) sent wr.heap.size ⟨1, mi, mt, is, bb, Ab, cb⟩) => nz_deliver G.nz mi ⟨fr, tq, [UInt8.ofNat k, UInt8.ofNat fr]⟩ 0 s3 hp hE hs3.symm)
          have HROW := Lib.hid (And.intro hk1 (And.intro hk3 (And.intro hk4 (And.intro hk256 hf256))))
          clear hs3 hlo hE hp hk1 hk3 hk4 hk256 hf256 hkl hfr3 hlen hh
          unfold Tells pkCells at ZS
          dsimp only at ZS
          go_wp2_with (first
            | ((with_reducible refine atWorld wr ?_); refine wpList_allocRow (w := wr) info_na rfl rfl ?_; (intro w1 b1 B1 s1; have b1 := Lib.hid b1; replace s1 := Lib.hid s1))
            | ((with_reducible refine atWorld w1 ?_); refine wpList_storeRow (w := w1) info_na rfl (.tmp 9) (.tmp 35) rfl wr.heap.size [.int .i64 1, .int .i64 mi, .int .i64 mt, .bool is, .slice Ab bb.length cb] [.int .i64 0, .int .i64 0, .int .i64 0, .bool false, .slice none 0 0] rfl rfl rfl rfl (na5_one _ _ _ _ _ _ _) b1.out ?_; (intro w2 b2 B2 s2 k2; have G2 := HE.out.1.var (m := ⟨1, mi, mt, is, bb, Ab, cb⟩) (B1.trans B2) b2; obtain ⟨y0, y1, y2, y3⟩ := G2.cells; dsimp only at y0 y1 y2 y3; have zs := ZS.out w2 G2; have G2 := Lib.hid G2; clear b2 k2; replace s2 := Lib.hid s2))
            | (go_at_call 20; (with_reducible refine zs.mono ?_); (rintro e w3 ⟨A, c, rfl, _, o3, k2, k3⟩; have G3 := G2.out.go (k2.less fun _ e => .inl e) k3; have o3 := Lib.hid o3.bytes; have G3 := Lib.hid G3; clear k2 k3))
            | ((with_reducible refine atWorld w3 ?_); refine wpList_allocRow (w := w3) info_pk rfl rfl ?_; (intro w4 b4 B4 s4; have b4 := Lib.hid b4; replace s4 := Lib.hid s4))
            | ((with_reducible refine atWorld w4 ?_); refine wpList_storeRow (w := w4) info_pk rfl (.tmp 10) (.tmp 68) rfl w3.heap.size [.int .i64 (fr : Int), .int .i64 (tq : Int), .slice A 2 c] pkZ rfl rfl rfl rfl (pk3_one _ _ _ _ _) b4.out ?_; (intro w5 b5 B5 s5 k5; have D5 := B4.trans B5; have G5 := G3.out.step D5; have p0 := b5.cell (k := 0) rfl; have p1 := b5.cell (k := 1) rfl; have p2 := b5.cell (k := 2) rfl; obtain ⟨ad, rfl, u0, u1⟩ := two_cells (o3.out.step D5); rw [HROW.out.2.2.2.1] at u0; rw [HROW.out.2.2.2.2] at u1; obtain ⟨gs, rfl, v1, v2⟩ := sent_at G5.own HROW.out.1; rw [HROW.out.2.1] at v1; rw [HROW.out.2.2.1] at v2; have G5 := Lib.hid G5; replace s5 := Lib.hid s5; clear b5 k5)))
          go_quiet (fail)
          have BN := belowN (Below.refl w5.heap.size w5) nq
          have G6 := G5.out.step BN
          have zl := nz_lost G6.nz L HL.out
          have zc := nz_count G6.nz C HC.out
          have G6 := Lib.hid G6
          go_wp2_with (first
            | (go_at_call 13; (with_reducible refine zl.mono ?_); (rintro e wl ⟨rfl, rfl⟩))
            | (go_at_call 12; (with_reducible refine zc.mono ?_); (rintro e wc ⟨rfl, rfl⟩)))
          go_roundw
          case rel => exact ⟨i + 1, many, came + 1, sent, s3, _, _, rfl, by go_num, by go_num, by go_num, HLT.out, G6.out.ke, KP.out⟩
          case measure => have := HLT.out; have := HI.out; simp [vFl]; omega
        | false =>
          have KP := Lib.hid (HE.out.2.up)
          obtain ⟨s3, hs3⟩ : ∃ s3, s3 = s := ⟨_, rfl⟩
          rw [← hs3] at KP
          obtain ⟨L, hL⟩ : ∃ L, L = s3.lost := ⟨_, rfl⟩
          obtain ⟨C, hC⟩ : ∃ C, C = s3.way.length := ⟨_, rfl⟩
          have hsum := KP.out.sum
          have hle := KP.out.le
          rw [← hL, ← hC] at hsum
          have q1 : IntKind.i64.wrap ((came : Int) + (L : Int)) = (came : Int) + (L : Int) := IntWalk.i64_in _ (by have := HI.out; omega)
          have q2 : IntKind.i64.wrap ((came : Int) + (L : Int) + (C : Int)) = (many : Int) := by rw [IntWalk.i64_in _ (by have := HI.out; omega)]; omega
          have q3 : ((many : Int) != (many : Int)) = false := by simp
          have hlo : s.lost ≤ 4611686018427387904 := by have := HE.out.2.sum; have := HE.out.2.le; have := HI.out; omega
          have HL := Lib.hid hL.symm
          have HC := Lib.hid hC.symm
          clear hL hC hsum hle
          subst hs3
          have e0 : s3.at_ mi = zPk := by unfold N.at_; rw [hh, if_neg (by decide)]
          have hE : s3.lookE mi = 5 := by unfold N.lookE; rw [hh, if_neg (by decide)]
          have hs : s3.del mi = s3 := by unfold N.del; rw [hh, if_neg (by decide)]
          have ZS := Lib.hid (fun w2 (G : Kg w w2 b s3 (.slice As sent.length cs) sent wr.heap.size ⟨1, mi, mt, is, bb, Ab, cb⟩) => nz_deliver G.nz mi zPk 5 s3 e0 hE hs)
          clear hlo hE hs e0 hh q1 q2 q3
          unfold Tells pkCells zPk at ZS
          dsimp only at ZS
          go_wp2_with (first
            | ((with_reducible refine atWorld wr ?_); refine wpList_allocRow (w := wr) info_na rfl rfl ?_; (intro w1 b1 B1 s1; have b1 := Lib.hid b1; replace s1 := Lib.hid s1))
            | ((with_reducible refine atWorld w1 ?_); refine wpList_storeRow (w := w1) info_na rfl (.tmp 9) (.tmp 35) rfl wr.heap.size [.int .i64 1, .int .i64 mi, .int .i64 mt, .bool is, .slice Ab bb.length cb] [.int .i64 0, .int .i64 0, .int .i64 0, .bool false, .slice none 0 0] rfl rfl rfl rfl (na5_one _ _ _ _ _ _ _) b1.out ?_; (intro w2 b2 B2 s2 k2; have G2 := HE.out.1.var (m := ⟨1, mi, mt, is, bb, Ab, cb⟩) (B1.trans B2) b2; obtain ⟨y0, y1, y2, y3⟩ := G2.cells; dsimp only at y0 y1 y2 y3; have zs := ZS.out w2 G2; have G2 := Lib.hid G2; clear b2 k2; replace s2 := Lib.hid s2))
            | (go_at_call 20; (with_reducible refine zs.mono ?_); (rintro e w3 ⟨A, c, rfl, _, o3, k2, k3⟩; have G3 := G2.out.go (k2.less fun _ e => .inl e) k3; have G3 := Lib.hid G3; clear k2 k3 o3))
            | ((with_reducible refine atWorld w3 ?_); refine wpList_allocRow (w := w3) info_pk rfl rfl ?_; (intro w4 b4 B4 s4; have b4 := Lib.hid b4; replace s4 := Lib.hid s4))
            | ((with_reducible refine atWorld w4 ?_); refine wpList_storeRow (w := w4) info_pk rfl (.tmp 10) (.tmp 68) rfl w3.heap.size [.int .i64 0, .int .i64 0, .slice A 0 c] pkZ rfl rfl rfl rfl (pk3_one _ _ _ _ _) b4.out ?_; (intro w5 b5 B5 s5 k5; have G5 := Lib.hid (G3.out.step (B4.trans B5)); replace s5 := Lib.hid s5; clear b5 k5)))
          go_roundw
          case rel => exact ⟨i + 1, many, came, sent, s3, _, _, rfl, by go_num, by go_num, by go_num, HLT.out, G5.out.ke, KP.out⟩
          case measure => have := HLT.out; have := HI.out; simp [vFl]; omega
      by_cases h2 : kd = 2
      · subst h2
        cases hh : s.has mi with
        | true =>
          obtain ⟨k, mk, hk1, hk2, hk3, hk4⟩ := HE.out.2.good _ (at_mem hh)
          obtain ⟨fr, tq, bs, hp⟩ : ∃ fr tq bs, s.at_ mi = ⟨fr, tq, bs⟩ := ⟨_, _, _, rfl⟩
          rw [hp] at hk2 hk3 hk4
          dsimp only at hk2 hk3 hk4
          subst hk2
          have hfr3 : fr < 3 := by have := (HE.out.1.nz.ok.pk _ (at_mem hh)).fr; rw [hp] at this; exact this
          have hkl := (List.getElem?_eq_some_iff.1 hk1).1
          have KP := Lib.hid (HE.out.2.deliver hh)
          obtain ⟨s3, hs3⟩ : ∃ s3, s3 = s.del mi := ⟨_, rfl⟩
          rw [← hs3] at KP
          obtain ⟨L, hL⟩ : ∃ L, L = s3.lost := ⟨_, rfl⟩
          obtain ⟨C, hC⟩ : ∃ C, C = s3.way.length := ⟨_, rfl⟩
          have hsum := KP.out.sum
          have hle := KP.out.le
          rw [← hL, ← hC] at hsum
          have q1 : IntKind.i64.wrap (((came : Int) + 1) + (L : Int)) = ((came : Int) + 1) + (L : Int) := IntWalk.i64_in _ (by have := HI.out; omega)
          have q2 : IntKind.i64.wrap (((came : Int) + 1) + (L : Int) + (C : Int)) = (many : Int) := by rw [IntWalk.i64_in _ (by have := HI.out; omega)]; omega
          have q3 : ((many : Int) != (many : Int)) = false := by simp
          have hlo : s.lost ≤ 4611686018427387904 := by have := HE.out.2.sum; have := HE.out.2.le; have := HI.out; omega
          have HL := Lib.hid hL.symm
          have HC := Lib.hid hC.symm
          clear hL hC hsum hle
          have hc1 : IntKind.i64.wrap ((came : Int) + 1) = (came : Int) + 1 := IntWalk.i64_in _ (by have := HE.out.2.sum; have := HE.out.2.le; have := HI.out; omega)
          have hE : s.lookE mi = 0 := by unfold N.lookE; rw [hh, if_pos rfl]
          have hlen := HE.out.2.len
          have hk256 : ((UInt8.ofNat k).toNat : Int) = (k : Int) := by rw [UInt8.toNat_ofNat']; have := HI.out; omega
          have hf256 : ((UInt8.ofNat fr).toNat : Int) = (fr : Int) := by rw [UInt8.toNat_ofNat']; omega
          have hw1 : IntKind.i64.wrap (k : Int) = (k : Int) := IntWalk.i64_in _ (by have := HI.out; omega)
          have hw2 : IntKind.i64.wrap (fr : Int) = (fr : Int) := IntWalk.i64_in _ (by omega)
          have hlt1 : decide ((sent.length : Int) ≤ (k : Int)) = false := by simp; omega
          have hlt3 : decide (sent.length ≤ k) = false := by simp; omega
          have hk0 : (0 : Int) ≤ (k : Int) := by omega
          have hlt2 : (k : Int) < (sent.length : Int) := by omega
          have e1 : ((fr : Int) != (fr : Int)) = false := by simp
          have e2 : ((tq : Int) != (tq : Int)) = false := by simp
          have ZS := Lib.hid (fun w2 (G : Kg w w2 b s (.slice As sent.length cs) sent wr.heap.size ⟨2, mi, mt, is, bb, Ab, cb⟩) => nz_deliver G.nz mi ⟨fr, tq, [UInt8.ofNat k, UInt8.ofNat fr]⟩ 0 s3 hp hE hs3.symm)
          have HROW := Lib.hid (And.intro hk1 (And.intro hk3 (And.intro hk4 (And.intro hk256 hf256))))
          clear hs3 hlo hE hp hk1 hk3 hk4 hk256 hf256 hkl hfr3 hlen hh
          unfold Tells pkCells at ZS
          dsimp only at ZS
          go_wp2_with (first
            | ((with_reducible refine atWorld wr ?_); refine wpList_allocRow (w := wr) info_na rfl rfl ?_; (intro w1 b1 B1 s1; have b1 := Lib.hid b1; replace s1 := Lib.hid s1))
            | ((with_reducible refine atWorld w1 ?_); refine wpList_storeRow (w := w1) info_na rfl (.tmp 9) (.tmp 35) rfl wr.heap.size [.int .i64 2, .int .i64 mi, .int .i64 mt, .bool is, .slice Ab bb.length cb] [.int .i64 0, .int .i64 0, .int .i64 0, .bool false, .slice none 0 0] rfl rfl rfl rfl (na5_one _ _ _ _ _ _ _) b1.out ?_; (intro w2 b2 B2 s2 k2; have G2 := HE.out.1.var (m := ⟨2, mi, mt, is, bb, Ab, cb⟩) (B1.trans B2) b2; obtain ⟨y0, y1, y2, y3⟩ := G2.cells; dsimp only at y0 y1 y2 y3; have zs := ZS.out w2 G2; have G2 := Lib.hid G2; clear b2 k2; replace s2 := Lib.hid s2))
            | (go_at_call 20; (with_reducible refine zs.mono ?_); (rintro e w3 ⟨A, c, rfl, _, o3, k2, k3⟩; have G3 := G2.out.go (k2.less fun _ e => .inl e) k3; have o3 := Lib.hid o3.bytes; have G3 := Lib.hid G3; clear k2 k3))
            | ((with_reducible refine atWorld w3 ?_); refine wpList_allocRow (w := w3) info_pk rfl rfl ?_; (intro w4 b4 B4 s4; have b4 := Lib.hid b4; replace s4 := Lib.hid s4))
            | ((with_reducible refine atWorld w4 ?_); refine wpList_storeRow (w := w4) info_pk rfl (.tmp 10) (.tmp 68) rfl w3.heap.size [.int .i64 (fr : Int), .int .i64 (tq : Int), .slice A 2 c] pkZ rfl rfl rfl rfl (pk3_one _ _ _ _ _) b4.out ?_; (intro w5 b5 B5 s5 k5; have D5 := B4.trans B5; have G5 := G3.out.step D5; have p0 := b5.cell (k := 0) rfl; have p1 := b5.cell (k := 1) rfl; have p2 := b5.cell (k := 2) rfl; obtain ⟨ad, rfl, u0, u1⟩ := two_cells (o3.out.step D5); rw [HROW.out.2.2.2.1] at u0; rw [HROW.out.2.2.2.2] at u1; obtain ⟨gs, rfl, v1, v2⟩ := sent_at G5.own HROW.out.1; rw [HROW.out.2.1] at v1; rw [HROW.out.2.2.1] at v2; have G5 := Lib.hid G5; replace s5 := Lib.hid s5; clear b5 k5)))
          go_quiet (fail)
          have BN := belowN (Below.refl w5.heap.size w5) nq
          have G6 := G5.out.step BN
          have zl := nz_lost G6.nz L HL.out
          have zc := nz_count G6.nz C HC.out
          have G6 := Lib.hid G6
          go_wp2_with (first
            | (go_at_call 13; (with_reducible refine zl.mono ?_); (rintro e wl ⟨rfl, rfl⟩))
            | (go_at_call 12; (with_reducible refine zc.mono ?_); (rintro e wc ⟨rfl, rfl⟩)))
          go_roundw
          case rel => exact ⟨i + 1, many, came + 1, sent, s3, _, _, rfl, by go_num, by go_num, by go_num, HLT.out, G6.out.ke, KP.out⟩
          case measure => have := HLT.out; have := HI.out; simp [vFl]; omega
        | false =>
          have KP := Lib.hid (HE.out.2.up)
          obtain ⟨s3, hs3⟩ : ∃ s3, s3 = s := ⟨_, rfl⟩
          rw [← hs3] at KP
          obtain ⟨L, hL⟩ : ∃ L, L = s3.lost := ⟨_, rfl⟩
          obtain ⟨C, hC⟩ : ∃ C, C = s3.way.length := ⟨_, rfl⟩
          have hsum := KP.out.sum
          have hle := KP.out.le
          rw [← hL, ← hC] at hsum
          have q1 : IntKind.i64.wrap ((came : Int) + (L : Int)) = (came : Int) + (L : Int) := IntWalk.i64_in _ (by have := HI.out; omega)
          have q2 : IntKind.i64.wrap ((came : Int) + (L : Int) + (C : Int)) = (many : Int) := by rw [IntWalk.i64_in _ (by have := HI.out; omega)]; omega
          have q3 : ((many : Int) != (many : Int)) = false := by simp
          have hlo : s.lost ≤ 4611686018427387904 := by have := HE.out.2.sum; have := HE.out.2.le; have := HI.out; omega
          have HL := Lib.hid hL.symm
          have HC := Lib.hid hC.symm
          clear hL hC hsum hle
          subst hs3
          have e0 : s3.at_ mi = zPk := by unfold N.at_; rw [hh, if_neg (by decide)]
          have hE : s3.lookE mi = 5 := by unfold N.lookE; rw [hh, if_neg (by decide)]
          have hs : s3.del mi = s3 := by unfold N.del; rw [hh, if_neg (by decide)]
          have ZS := Lib.hid (fun w2 (G : Kg w w2 b s3 (.slice As sent.length cs) sent wr.heap.size ⟨2, mi, mt, is, bb, Ab, cb⟩) => nz_deliver G.nz mi zPk 5 s3 e0 hE hs)
          clear hlo hE hs e0 hh q1 q2 q3
          unfold Tells pkCells zPk at ZS
          dsimp only at ZS
          go_wp2_with (first
            | ((with_reducible refine atWorld wr ?_); refine wpList_allocRow (w := wr) info_na rfl rfl ?_; (intro w1 b1 B1 s1; have b1 := Lib.hid b1; replace s1 := Lib.hid s1))
            | ((with_reducible refine atWorld w1 ?_); refine wpList_storeRow (w := w1) info_na rfl (.tmp 9) (.tmp 35) rfl wr.heap.size [.int .i64 2, .int .i64 mi, .int .i64 mt, .bool is, .slice Ab bb.length cb] [.int .i64 0, .int .i64 0, .int .i64 0, .bool false, .slice none 0 0] rfl rfl rfl rfl (na5_one _ _ _ _ _ _ _) b1.out ?_; (intro w2 b2 B2 s2 k2; have G2 := HE.out.1.var (m := ⟨2, mi, mt, is, bb, Ab, cb⟩) (B1.trans B2) b2; obtain ⟨y0, y1, y2, y3⟩ := G2.cells; dsimp only at y0 y1 y2 y3; have zs := ZS.out w2 G2; have G2 := Lib.hid G2; clear b2 k2; replace s2 := Lib.hid s2))
            | (go_at_call 20; (with_reducible refine zs.mono ?_); (rintro e w3 ⟨A, c, rfl, _, o3, k2, k3⟩; have G3 := G2.out.go (k2.less fun _ e => .inl e) k3; have G3 := Lib.hid G3; clear k2 k3 o3))
            | ((with_reducible refine atWorld w3 ?_); refine wpList_allocRow (w := w3) info_pk rfl rfl ?_; (intro w4 b4 B4 s4; have b4 := Lib.hid b4; replace s4 := Lib.hid s4))
            | ((with_reducible refine atWorld w4 ?_); refine wpList_storeRow (w := w4) info_pk rfl (.tmp 10) (.tmp 68) rfl w3.heap.size [.int .i64 0, .int .i64 0, .slice A 0 c] pkZ rfl rfl rfl rfl (pk3_one _ _ _ _ _) b4.out ?_; (intro w5 b5 B5 s5 k5; have G5 := Lib.hid (G3.out.step (B4.trans B5)); replace s5 := Lib.hid s5; clear b5 k5)))
          go_roundw
          case rel => exact ⟨i + 1, many, came, sent, s3, _, _, rfl, by go_num, by go_num, by go_num, HLT.out, G5.out.ke, KP.out⟩
          case measure => have := HLT.out; have := HI.out; simp [vFl]; omega
      have f0 : (kd == 0) = false := by simp; omega
      have f1 : (kd == 1) = false := by simp; omega
      have f2 : (kd == 2) = false := by simp; omega
      have f3 : (kd == 3) = false := by simp; omega
      have f4 : (kd == 4) = false := by simp; omega
      have f5 : (kd == 5) = false := by simp; omega
      have f6 : (kd == 6) = false := by simp; omega
      clear h0 h1 h2 h3 h4 h5 h6
      have KP := Lib.hid (HE.out.2.up)
      obtain ⟨s3, hs3⟩ : ∃ s3, s3 = s := ⟨_, rfl⟩
      rw [← hs3] at KP
      obtain ⟨L, hL⟩ : ∃ L, L = s3.lost := ⟨_, rfl⟩
      obtain ⟨C, hC⟩ : ∃ C, C = s3.way.length := ⟨_, rfl⟩
      have hsum := KP.out.sum
      have hle := KP.out.le
      rw [← hL, ← hC] at hsum
      have q1 : IntKind.i64.wrap ((came : Int) + (L : Int)) = (came : Int) + (L : Int) := IntWalk.i64_in _ (by have := HI.out; omega)
      have q2 : IntKind.i64.wrap ((came : Int) + (L : Int) + (C : Int)) = (many : Int) := by rw [IntWalk.i64_in _ (by have := HI.out; omega)]; omega
      have q3 : ((many : Int) != (many : Int)) = false := by simp
      have hlo : s.lost ≤ 4611686018427387904 := by have := HE.out.2.sum; have := HE.out.2.le; have := HI.out; omega
      have HL := Lib.hid hL.symm
      have HC := Lib.hid hC.symm
      clear hL hC hsum hle
      subst hs3
      clear hlo
      have ZS := Lib.hid (fun w2 (G : Kg w w2 b s3 (.slice As sent.length cs) sent wr.heap.size ⟨kd, mi, mt, is, bb, Ab, cb⟩) => And.intro (nz_lost G.nz L HL.out) (nz_count G.nz C HC.out))
      go_wp2_with (first
        | ((with_reducible refine atWorld wr ?_); refine wpList_allocRow (w := wr) info_na rfl rfl ?_; (intro w1 b1 B1 s1; have b1 := Lib.hid b1; replace s1 := Lib.hid s1))
        | ((with_reducible refine atWorld w1 ?_); refine wpList_storeRow (w := w1) info_na rfl (.tmp 9) (.tmp 35) rfl wr.heap.size [.int .i64 kd, .int .i64 mi, .int .i64 mt, .bool is, .slice Ab bb.length cb] [.int .i64 0, .int .i64 0, .int .i64 0, .bool false, .slice none 0 0] rfl rfl rfl rfl (na5_one _ _ _ _ _ _ _) b1.out ?_; (intro w2 b2 B2 s2 k2; have G2 := HE.out.1.var (m := ⟨kd, mi, mt, is, bb, Ab, cb⟩) (B1.trans B2) b2; obtain ⟨y0, y1, y2, y3⟩ := G2.cells; dsimp only at y0 y1 y2 y3; obtain ⟨zl, zc⟩ := ZS.out w2 G2; have G2 := Lib.hid G2; clear b2 k2; replace s2 := Lib.hid s2))
        | (go_at_call 13; (with_reducible refine zl.mono ?_); (rintro e wl ⟨rfl, rfl⟩))
        | (go_at_call 12; (with_reducible refine zc.mono ?_); (rintro e wc ⟨rfl, rfl⟩)))
      go_roundw
      case rel => exact ⟨i + 1, many, came, sent, s3, _, _, rfl, by go_num, by go_num, by go_num, HLT.out, G2.out.ke, KP.out⟩
      case measure => have := HLT.out; have := HI.out; simp [vFl]; omega
    · obtain rfl : i = n := by omega
      have hii : ¬ (i : Int) < (i : Int) := by omega
      have HE := Lib.hid inv.nz.fr
      clear inv kp hlt hi
      go_wp2
      go_ret
      exact ⟨rfl, HE.out⟩
end Go.Proofs.Ytplfhlmipdlmnaa
