/-
  tandemlaw09.anew: a store behind a crash. Conditions: a disk's methods and a store's do what the document says; the table of crc lies as the program's text lays it.
-/
import Derived.Test.YtlchpolheciadaaDoorStKit
import Derived.Test.YtlchpolheciadaaDoorStPuts
namespace Go.Proofs.YtlchpolheciadaaDoor
open Go.RowKit Fix

/-- Bools that lie beside a disk -/
def AsideK (F : Nat → Prop) (w : World) (A : Option Addr) (l : List Bool) : Prop := RowAt w w.heap.size A (l.map Value.bool) ∧ (l ≠ [] → ∀ ad, A = some ad → ad.block < w.heap.size ∧ ¬ F ad.block)
theorem AsideK.keep {F F' : Nat → Prop} {w w' : World} {A : Option Addr} {l : List Bool} (h : AsideK F w A l) (k : Keep F w F' w') : AsideK F' w' A l := by
  refine ⟨fun hne => ?_, fun hl ad e => ⟨Nat.lt_of_lt_of_le (h.2 hl ad e).1 k.fr.size, fun hx => (k.own _ hx).elim (h.2 hl ad e).2 fun y => by have := (h.2 hl ad e).1; omega⟩⟩
  have hl : l ≠ [] := by rintro rfl; exact hne rfl
  obtain ⟨ad, e, hb, hc⟩ := h.1 hne
  refine ⟨ad, e, Nat.lt_of_lt_of_le hb k.fr.size, fun j v hv => ?_⟩
  rw [← hc j v hv]
  exact World.cell?_of_block (w := w) (by rw [block_add]; exact k.fr.block _ hb (h.2 hl ad e).2)
theorem AsideK.step {F : Nat → Prop} {w w' : World} {A : Option Addr} {l : List Bool} (h : AsideK F w A l) (hb : Below w.heap.size w w') : AsideK F w' A l := h.keep (Keep.of_below hb)
section
variable {At : World → Nat → (Nat → Prop) → DS → Prop} {SAt : World → Nat → (Nat → Prop) → Nat → StM → Prop} (D : Disks Tryd.prog At) (T : Stores At SAt)
include D T
def AnewPost (At : World → Nat → (Nat → Prop) → DS → Prop) (SAt : World → Nat → (Nat → Prop) → Nat → StM → Prop) (b n N : Nat) (f : Nat → List UInt8) (F : Nat → Prop) (o : Nat) (w : World) (e : Ending) (w' : World) : Prop :=
  ∃ g H S, e = .returned (.tuple #[.pointer (some ⟨g, 0, none⟩), .bool true]) ∧ Duo At SAt w' b g H S ⟨0, n, N, false⟩ ∧ St.Calm S n N f ∧ S.ops ≤ o + 4 ∧ Keep F w H w'
theorem anew_any (w : World) (b n N : Nat) (f : Nat → List UInt8) (F : Nat → Prop) (S : DS) (m : P9M) (ha : At w b F S) (hG : St.Good (S.crash m.keeps m.tear) n N f) (ho : S.ops ≤ 800000) (hk : AsideK F w m.AK m.keeps) (hc : m.keeps.length ≤ m.ck)
    (g1 : -9223372036854775808 ≤ m.again) (g2 : m.again ≤ 9223372036854775807) (htab : ∀ w' F', Keep F w F' w' → TabAt w') :
    Calls Tryd.prog 19 #[.pointer (some ⟨b, 0, none⟩), .int .i64 (n : Int), .agg (p9Cells m).toArray] w (AnewPost At SAt b n N f F S.ops w) := by
  have hb := BlkR.new w (p9Cells m) 57
  have B0 : Below w.heap.size w (w.alloc (.cells (p9Cells m).toArray 57)) := (Below.refl _ _).alloc (Nat.le_refl _) _
  obtain ⟨W, hW⟩ : ∃ W, W = w.alloc (.cells (p9Cells m).toArray 57) := ⟨_, rfl⟩
  rw [← hW] at hb B0
  have hlF := D.lt w b F S ha
  have KW : Keep F w F W := Keep.of_below B0
  have HX : Hid (∀ w' F', Keep F W F' w' → TabAt w' ∧ BlkR 57 w' w.heap.size (p9Cells m) ∧ RowAt w' w'.heap.size m.AK (m.keeps.map Value.bool)) := Lib.hid fun w' F' K => ⟨htab w' F' (KW.trans K), hb.frame K.fr fun x => Nat.lt_irrefl _ (hlF _ x), ((hk.keep KW).keep K).1⟩
  have HK := Lib.hid KW
  have aW := At_step D ha B0
  obtain ⟨_, xW, kW⟩ := HX.out W F (Keep.of_below (Below.refl _ _))
  have z1 := D.crash W b F S m.AK m.keeps m.keeps.length m.ck m.tear aW kW rfl hc
  obtain ⟨V, hV⟩ : ∃ V, V = S.crash m.keeps m.tear := ⟨_, rfl⟩
  have hVo : V.ops = S.ops := by rw [hV]; rfl
  rw [← hV] at z1 hG
  have zlast : ∀ w F' Z, TabAt w → At w b F' Z → St.Good Z n N f → Z.ops ≤ S.ops + 2 → Calls Tryd.prog 10 #[.pointer (some ⟨b, 0, none⟩), .int .i64 0, .int .i64 (n : Int)] w fun en w' => ∃ g H A c Q, en = .returned (.tuple #[.pointer (some ⟨g, 0, none⟩), .slice A 0 c, .int .i64 0]) ∧ Duo At SAt w' b g H Q ⟨0, n, N, false⟩ ∧ St.Calm Q n N f ∧ Q.ops ≤ S.ops + 4 ∧ Keep F' w H w' := by
    intro w F' Z t a G o
    obtain ⟨o1, o2, o3, o4⟩ := G.open_
    have oo := St.ops_open Z 0 n
    refine (T.open_ w b F' Z 0 n t a (by omega)).mono fun en w' h => ?_
    obtain ⟨g, H, A, c, e1, e2, e3, _⟩ := h.yes o1
    rw [Int.toNat_natCast, o3] at e1
    rw [o4] at e2
    exact ⟨g, H, A, c, _, e1, e2, o2, by omega, e3⟩
  have HG := Lib.hid (And.intro hG hVo)
  obtain ⟨y0, y1, y2, y3, y4, y5⟩ := p9_cells xW
  by_cases hag : m.again < 0
  · have hag2 : ¬ (0 : Int) ≤ m.again := by omega
    clear hb B0 hlF KW aW xW kW ha hk hG hV hVo htab
    unfold p9Cells at hW ⊢
    rw [hW] at y0 y1 y2 y3 y4 y5
    go_enter Tryd.func19, Tryd.ntmps19
    go_wp2_with (first
      | (go_at_call 26; rw [← hW]; refine z1.mono ?_; (rintro e w1 ⟨F1, rfl, a1, o1, fr1⟩; have K1 : Keep F W F1 w1 := ⟨fr1, o1⟩; obtain ⟨t1, x1, k1⟩ := HX.out w1 F1 K1; obtain ⟨u0, u1, u2, u3, u4, u5⟩ := p9_cells x1; clear hW))
      | (go_at_call 10; refine (zlast w1 F1 V t1 a1 HG.out.1 (by have := HG.out.2; omega)).mono ?_; (rintro e w2 ⟨g, H, A, c, Q, rfl, d2, c2, o2, K2⟩)))
    go_ret2
    exact ⟨g, H, Q, rfl, d2, c2, o2, (HK.out.trans K1).trans K2⟩
  · have hag2 : (0 : Int) ≤ m.again := by omega
    obtain ⟨s1, s2⟩ := hG.stop m.again.toNat m.keeps m.tear
    have hq := hG.q
    have oo := St.ops_open { V with left := some m.again.toNat } 0 n
    have zf : ∀ w F', At w b F' V → _ := fun w F' h => D.fuse w b F' V m.again h g1 g2
    rw [show V.fuse m.again = ({ V with left := some m.again.toNat }, 0) by unfold DS.fuse; rw [hq.out]; simp [hag]] at zf
    have zo : ∀ w F', TabAt w → At w b F' { V with left := some m.again.toNat } → Calls Tryd.prog 10 #[.pointer (some ⟨b, 0, none⟩), .int .i64 0, .int .i64 (n : Int)] w fun en w' => ∃ p v F'', en = .returned (.tuple #[p, v, .int .i64 (St.openE { V with left := some m.again.toNat } 0 n)]) ∧ At w' b F'' (St.openS { V with left := some m.again.toNat } 0 n) ∧ Keep F' w F'' w' := by
      intro w F' t a
      refine (T.open_ w b F' _ 0 n t a (by show V.ops ≤ 900000; omega)).mono fun en w' h => ?_
      by_cases he : St.openE { V with left := some m.again.toNat } 0 n = 0
      · obtain ⟨g, G, F2, A, c, e1, e2, _, _, e5, _, _, _, _, e10⟩ := h.1 he
        exact ⟨_, _, F2, by rw [he]; exact e1, e2, e10, e5⟩
      · obtain ⟨F2, e1, e2, e3, e4⟩ := h.2 he
        exact ⟨_, _, F2, e1, e2, e4, e3⟩
    obtain ⟨U, hU⟩ : ∃ U, U = St.openS { V with left := some m.again.toNat } 0 n := ⟨_, rfl⟩
    obtain ⟨x, hx⟩ : ∃ x, x = St.openE { V with left := some m.again.toNat } 0 n := ⟨_, rfl⟩
    rw [← hU] at zo s2 oo
    rw [← hx] at zo s1
    have hUo : U.ops ≤ S.ops + 2 := by have : ({ V with left := some m.again.toNat } : DS).ops = V.ops := rfl; omega
    obtain ⟨V2, hV2⟩ : ∃ V2, V2 = ({ V with left := some m.again.toNat } : DS) := ⟨_, rfl⟩
    rw [← hV2] at zo zf
    have zc : ∀ w F', At w b F' U → RowAt w w.heap.size m.AK (m.keeps.map Value.bool) → _ := fun w F' h r => D.crash w b F' U m.AK m.keeps m.keeps.length m.ck m.tear h r rfl hc
    have HU := Lib.hid (And.intro s2 hUo)
    obtain ⟨R, hR⟩ : ∃ R, R = U.crash m.keeps m.tear := ⟨_, rfl⟩
    have HR := Lib.hid (show St.Good R n N f ∧ R.ops ≤ S.ops + 2 from ⟨by rw [hR]; exact s2, by rw [hR]; exact hUo⟩)
    rw [← hR] at zc
    clear hb B0 hlF KW aW xW kW ha hk hG hV hVo htab hU hx s2 oo hUo hV2 hR hq HU
    unfold p9Cells at hW ⊢
    rw [hW] at y0 y1 y2 y3 y4 y5
    rcases s1 with rfl | rfl
    all_goals
      go_enter Tryd.func19, Tryd.ntmps19
      go_wp2_with (first
        | (go_at_call 26; first
          | (rw [← hW]; ((with_reducible refine z1.mono ?_); (rintro e w1 ⟨F1, rfl, a1, o1, fr1⟩; have K1 : Keep F W F1 w1 := ⟨fr1, o1⟩; obtain ⟨t1, x1, k1⟩ := HX.out w1 F1 K1; obtain ⟨u0, u1, u2, u3, u4, u5⟩ := p9_cells x1; clear hW)))
          | ((with_reducible refine (zc w3 F3 a3 k3).mono ?_); (rintro e w4 ⟨F4, rfl, a4, o4, fr4⟩; have K4 : Keep F W F4 w4 := K3.trans ⟨fr4, o4⟩; obtain ⟨t4, _, _⟩ := HX.out w4 F4 K4)))
        | (go_at_call 18; ((with_reducible refine (zf w1 F1 a1).mono ?_); (rintro e w2 ⟨F2, rfl, a2, o2, fr2⟩; have K2 : Keep F W F2 w2 := K1.trans ⟨fr2, o2⟩; obtain ⟨t2, _, _⟩ := HX.out w2 F2 K2)))
        | (go_at_call 10; first
          | ((with_reducible refine (zo w2 F2 t2 a2).mono ?_); (rintro e w3 ⟨p, v, F3, rfl, a3, K23⟩; have K3 : Keep F W F3 w3 := K2.trans K23; obtain ⟨_, x3, k3⟩ := HX.out w3 F3 K3; obtain ⟨v0, v1, v2, v3, v4, v5⟩ := p9_cells x3))
          | ((with_reducible refine (zlast w4 F4 R t4 a4 HR.out.1 HR.out.2).mono ?_); (rintro e w5 ⟨g, H, A, c, Q, rfl, d5, c5, o5, K5⟩))))
      go_ret2
      exact ⟨g, H, Q, rfl, d5, c5, o5, (HK.out.trans K4).trans K5⟩
end
end Go.Proofs.YtlchpolheciadaaDoor
