/-
  tandemlaw09.forged, told. Conditions: a disk's methods and a store's do what the document says; the table of crc lies as the program's text lays it.
-/
import Derived.Test.YtlchpolheciadaaDoorStRound
import Derived.Test.YtlchpolheciadaaDoorStTurnM
import Derived.Test.YtlchpolheciadaaDoorJp
import Derived.Test.YtlchpolheciadaaDoorBk
namespace Go.Proofs.YtlchpolheciadaaDoor
open Go.RowKit Fix

/-- a row that lies beside a store -/
def AsideR (H : Nat → Prop) (w : World) (A : Option Addr) (xs : List Value) : Prop := RowAt w w.heap.size A xs ∧ (xs ≠ [] → ∀ ad, A = some ad → ad.block < w.heap.size ∧ ¬ H ad.block)
theorem AsideR.keep {H H' : Nat → Prop} {w w' : World} {A : Option Addr} {xs : List Value} (h : AsideR H w A xs) (k : Keep H w H' w') : AsideR H' w' A xs := by
  refine ⟨fun hne => ?_, fun hl ad e => ⟨Nat.lt_of_lt_of_le (h.2 hl ad e).1 k.fr.size, fun hx => (k.own _ hx).elim (h.2 hl ad e).2 fun y => by have := (h.2 hl ad e).1; omega⟩⟩
  obtain ⟨ad, e, hb, hc⟩ := h.1 hne
  refine ⟨ad, e, Nat.lt_of_lt_of_le hb k.fr.size, fun j v hv => ?_⟩
  rw [← hc j v hv]
  exact World.cell?_of_block (w := w) (by rw [block_add]; exact k.fr.block _ hb (h.2 hne ad e).2)
theorem AsideR.row {H : Nat → Prop} {w : World} {A : Option Addr} {xs : List Value} (h : AsideR H w A xs) : RowAt w w.heap.size A xs := h.1
theorem AsideR.step {H : Nat → Prop} {w w' : World} {A : Option Addr} {xs : List Value} (h : AsideR H w A xs) (hb : Below w.heap.size w w') : AsideR H w' A xs := h.keep (Keep.of_below hb)
theorem asideR_new {H : Nat → Prop} {w : World} {A : Option Addr} {xs : List Value} (hr : RowAt w w.heap.size A xs) (hn : ∀ ad, A = some ad → xs ≠ [] → ¬ H ad.block) : AsideR H w A xs := by
  refine ⟨hr, fun hl ad e => ⟨?_, hn ad e hl⟩⟩
  obtain ⟨ad', e', hb, _⟩ := hr hl
  rw [e] at e'; cases e'
  exact hb
/-- a list of n sectors' bytes, beside a store -/
structure WasAt (H : Nat → Prop) (w : World) (A : Option Addr) (n : Nat) (ls : Nat → List UInt8) : Prop where
  ex : ∃ xs : List Value, xs.length = n ∧ AsideR H w A xs ∧ ∀ k, k < n → ∃ B c, xs[k]? = some (.slice B (ls k).length c) ∧ Aside H w B (ls k)
theorem WasAt.keep {H H' : Nat → Prop} {w w' : World} {A : Option Addr} {n : Nat} {ls : Nat → List UInt8} (h : WasAt H w A n ls) (K : Keep H w H' w') : WasAt H' w' A n ls := by
  obtain ⟨xs, h1, h2, h3⟩ := h.ex
  refine ⟨xs, h1, h2.keep K, fun k hk => ?_⟩
  obtain ⟨B, c, e1, e2⟩ := h3 k hk
  exact ⟨B, c, e1, e2.keep K⟩
theorem WasAt.step {H : Nat → Prop} {w w' : World} {A : Option Addr} {n : Nat} {ls : Nat → List UInt8} (h : WasAt H w A n ls) (hb : Below w.heap.size w w') : WasAt H w' A n ls := h.keep (Keep.of_below hb)
theorem WasAt.at_ {H : Nat → Prop} {w : World} {A : Option Addr} {n k : Nat} {ls : Nat → List UInt8} (h : WasAt H w A n ls) (hk : k < n) : ∃ ad B c, A = some ad ∧ w.cell? (ad.add k) = some (.slice B (ls k).length c) ∧ BytesAt w w.heap.size B (ls k) := by
  obtain ⟨xs, h1, h2, h3⟩ := h.ex
  obtain ⟨B, c, e1, e2⟩ := h3 k hk
  obtain ⟨ad, e, _, hc⟩ := h2.1.at_ e1
  exact ⟨ad, B, c, e, hc, e2.1⟩
/-- a sector is as it was, or none -/
def NotForged (S : DS) (ls : Nat → List UInt8) (k : Nat) : Prop := S.firm k = ls k ∨ (k = 0 → Jn.right (S.firm 0) = false) ∧ (∀ i, k = i + 1 → Blk.right (i : Nat) (S.firm (i + 1)) = false)
def ForgedPost (S : DS) (n : Nat) (ls : Nat → List UInt8) (w : World) (e : Ending) (w' : World) : Prop := ∃ y, e = .returned (.bool y) ∧ Below w.heap.size w w' ∧ (y = false → ∀ k, k ≤ n → NotForged S ls k)
section
variable {At : World → Nat → (Nat → Prop) → DS → Prop} {SAt : World → Nat → (Nat → Prop) → Nat → StM → Prop} (D : Disks Tryd.prog At) (T : Stores At SAt)
include D T
set_option maxRecDepth 100000 in
set_option maxHeartbeats 4000000 in
theorem forged_any (n : Nat) (hn : n ≤ 64) (w : World) (b g : Nat) (H : Nat → Prop) (S : DS) (s : StM) (h : Duo At SAt w b g H S s) (hq : S.Quiet) (hsn : S.n = n + 1) (hl : ∀ i, i ≤ n → (S.firm i).length = 64) (ht : TabAt w) (A : Option Addr) (m c : Nat) (hm : m = n + 1) (ls : Nat → List UInt8) (hW : WasAt H w A m ls) :
    Calls Tryd.prog 23 #[.pointer (some ⟨b, 0, none⟩), .slice A m c] w (ForgedPost S n ls w) := by
  have zr : ∀ w' i, i ≤ n → Below w.heap.size w w' → Calls Tryd.prog 21 #[.pointer (some ⟨b, 0, none⟩), .int .i64 ((i : Nat) : Int)] w' fun e w'' => ∃ A c, e = .returned (.tuple #[.slice A 64 c, .int .i64 0]) ∧ 64 ≤ c ∧ BytesAt w'' w''.heap.size A (S.firm i) ∧ Below w'.heap.size w' w'' := by
    intro w' i hi B
    have z := duo_read D (Duo.step D T h B) (i : Int)
    rw [hq.readE (by omega), hq.readB (by omega), hl i hi] at z
    exact z.mono fun e w'' ⟨A, c, h1, h2, h3⟩ => ⟨A, c, h1, by have := rdB_cap h2; rw [hl i hi] at this; exact this, h2.bytes, h3⟩
  have HW := Lib.hid hW
  have HT := Lib.hid ht
  have HL := Lib.hid hl
  have HM := Lib.hid hm
  clear hW ht h hq hsn hl hm
  go_enter Tryd.func23, Tryd.ntmps23
  go_wp2
  go_loopw [5] (fun ix wr => ∃ k : Nat, ix = .int .i64 ((k : Nat) : Int) ∧ k ≤ m ∧ (∀ j, j < k → NotForged S ls j) ∧ Below w.heap.size w wr) (fun ix _ => m - vN9 ix)
  case atStart => exact ⟨0, rfl, Nat.zero_le _, fun j hj => by omega, Below.refl _ _⟩
  case round =>
    obtain ⟨k, rfl, hkm, hP, hB⟩ := hrel
    by_cases hk : k < m
    · have hkn : k ≤ n := by have := HM.out; omega
      have hk' : (k : Int) < (m : Int) := by omega
      have hk0 : (0 : Int) ≤ (k : Int) := by omega
      have hw1 : IntKind.i64.wrap ((k : Int) + 1) = (k : Int) + 1 := IntWalk.i64_in _ (by omega)
      have zr := zr wr k hkn hB
      have WX : Hid (∀ w', Below wr.heap.size wr w' → TabAt w' ∧ ∃ ad B c, A = some ad ∧ w'.cell? (ad.add k) = some (.slice B (ls k).length c) ∧ BytesAt w' w'.heap.size B (ls k)) := Lib.hid fun w' hb => ⟨HT.out.below (step_trans hB hb) (Nat.le_refl _), ((HW.out.step (step_trans hB hb))).at_ hk⟩
      have hll := Lib.hid (HL.out k hkn)
      have HB := Lib.hid hB
      have zs := fun A1 c1 B c w1 h h' => sameBytes_any A1 (S.firm k) 64 c1 hll.out B (ls k) (ls k).length c rfl (World.heap w1).size w1 h h'
      have HP := Lib.hid hP
      clear hB hkm hkn hP
      by_cases he : S.firm k = ls k
      · rw [he, beq_self_eq_true] at zs
        have hnf : NotForged S ls k := .inl he
        replace hnf := Lib.hid hnf
        obtain ⟨nk, hnk⟩ : ∃ x, x = (ls k).length := ⟨_, rfl⟩
        simp only [← hnk] at zs WX
        clear hnk
        rw [he] at zr
        clear he
        go_wp2_with (first
          | (go_at_call 21; refine zr.mono ?_; (rintro e w1 ⟨A1, c1, rfl, hc1, r1, B1⟩; obtain ⟨t1, ad, B, cb, rfl, y1, r1'⟩ := WX.out w1 B1))
          | (go_at_call 42; ((with_reducible refine (zs A1 c1 B cb w1 r1 r1').mono ?_); (rintro e w2 ⟨rfl, rfl⟩))))
        go_roundw
        case rel => exact ⟨k + 1, by go_num, by omega, fun j hj => (by by_cases e : j = k; exact e ▸ hnf.out; exact HP.out j (by omega)), step_trans HB.out B1⟩
        case measure => simp [vN9]; omega
      · rw [show (S.firm k == ls k) = false by simpa using he] at zs
        obtain ⟨sk, hsk⟩ : ∃ x, x = S.firm k := ⟨_, rfl⟩
        have zj := fun A1 c1 w1 hc t r => journalRead_any A1 sk 64 c1 (by rw [hsk]; exact hll.out) hc w1 t r
        unfold JrPost at zj
        obtain ⟨V, hV⟩ : ∃ V, V = Jn.readV sk := ⟨_, rfl⟩
        rw [← hV] at zj
        rw [← hsk] at zr zs
        obtain ⟨nk, hnk⟩ : ∃ x, x = (ls k).length := ⟨_, rfl⟩
        simp only [← hnk] at zs WX
        clear hnk hV
        rcases Nat.eq_zero_or_pos k with hz | hpos
        · have hp0 : ¬ (0 : Int) < (k : Int) := by omega
          have HZ := Lib.hid hz
          clear hz
          by_cases hr : Jn.right sk = true
          · rw [(Jn.readE_zero sk).2 hr] at zj
            clear hsk he hr
            go_wp2_with (first
              | (go_at_call 21; refine zr.mono ?_; (rintro e w1 ⟨A1, c1, rfl, hc1, r1, B1⟩; obtain ⟨t1, ad, B, cb, rfl, y1, r1'⟩ := WX.out w1 B1))
              | (go_at_call 42; ((with_reducible refine (zs A1 c1 B cb w1 r1 r1').mono ?_); (rintro e w2 ⟨rfl, rfl⟩)))
              | (go_at_call 44; refine (zj A1 c1 w1 hc1 t1 r1).mono ?_; (rintro e w2 ⟨A2, c2, rfl, _, _, B2⟩))
              | ((with_reducible refine atWorld w2 ?_); refine wpList_allocRow (w := w2) entTy rfl rfl ?_; (intro w3 b3 B3 s3; have b3 := Lib.hid b3; replace s3 := Lib.hid s3))
              | ((with_reducible refine atWorld w3 ?_); refine wpList_storeRow (w := w3) entTy rfl (.tmp 8) (.tmp 31) rfl w2.heap.size (entL V A2 c2) entZ rfl rfl rfl rfl (ent_one _ _ _) b3.out ?_; (intro w4 b4 B4 s4 k4; have C4 := step_trans HB.out (step_trans B1 (step_trans B2 (B3.trans B4))); clear b4 s4 k4)))
            go_ret
            exact ⟨true, rfl, C4, fun x => by cases x⟩
          · have hr : Jn.right sk = false := by simpa using hr
            rw [Jn.readE_bad (by rw [hsk]; exact hll.out) hr] at zj
            have hnf := Lib.hid (show NotForged S ls k from .inr ⟨fun e => by rw [← e, ← hsk]; exact hr, fun i hi => by have := HZ.out; omega⟩)
            clear hsk he hr
            go_wp2_with (first
              | (go_at_call 21; refine zr.mono ?_; (rintro e w1 ⟨A1, c1, rfl, hc1, r1, B1⟩; obtain ⟨t1, ad, B, cb, rfl, y1, r1'⟩ := WX.out w1 B1))
              | (go_at_call 42; ((with_reducible refine (zs A1 c1 B cb w1 r1 r1').mono ?_); (rintro e w2 ⟨rfl, rfl⟩)))
              | (go_at_call 44; refine (zj A1 c1 w1 hc1 t1 r1).mono ?_; (rintro e w2 ⟨A2, c2, rfl, _, _, B2⟩))
              | ((with_reducible refine atWorld w2 ?_); refine wpList_allocRow (w := w2) entTy rfl rfl ?_; (intro w3 b3 B3 s3; have b3 := Lib.hid b3; replace s3 := Lib.hid s3))
              | ((with_reducible refine atWorld w3 ?_); refine wpList_storeRow (w := w3) entTy rfl (.tmp 8) (.tmp 31) rfl w2.heap.size (entL V A2 c2) entZ rfl rfl rfl rfl (ent_one _ _ _) b3.out ?_; (intro w4 b4 B4 s4 k4; have C4 := step_trans HB.out (step_trans B1 (step_trans B2 (B3.trans B4))); clear b4 s4 k4)))
            go_roundw
            case rel => exact ⟨k + 1, by go_num, by omega, fun j hj => (by by_cases e : j = k; exact e ▸ hnf.out; exact HP.out j (by omega)), C4⟩
            case measure => simp [vN9]; omega
        · have hp0 : (0 : Int) < (k : Int) := by omega
          obtain ⟨i, hkk⟩ : ∃ i, k = i + 1 := ⟨k - 1, by omega⟩
          have hwi : IntKind.i64.wrap ((k : Int) - 1) = (i : Int) := by rw [IntWalk.i64_in _ (by have := HM.out; omega)]; omega
          have zb := fun A1 c1 w1 hc t r => blockRead_any (i : Int) A1 sk 64 c1 (by rw [hsk]; exact hll.out) hc w1 t r
          unfold BrPost at zb
          obtain ⟨bN, hbN⟩ : ∃ V, V = Blk.readN (i : Int) sk := ⟨_, rfl⟩
          obtain ⟨bB, hbB⟩ : ∃ V, V = Blk.readB (i : Int) sk := ⟨_, rfl⟩
          obtain ⟨jE, hjE⟩ : ∃ V, V = Jn.readE sk := ⟨_, rfl⟩
          rw [← hbN, ← hbB] at zb
          rw [← hjE] at zj
          have hnfy := fun (hr : Blk.right (i : Int) sk = false) => (show NotForged S ls k from .inr ⟨fun x => by omega, fun i2 hi2 => by obtain rfl : i2 = i := (by omega); rw [← hkk, ← hsk]; exact hr⟩)
          by_cases hr : Blk.right (i : Int) sk = true
          · rw [(Blk.readE_zero _ sk).2 hr] at zb
            clear hsk he hr hbN hbB hjE hkk hnfy
            go_wp2_with (first
              | (go_at_call 21; refine zr.mono ?_; (rintro e w1 ⟨A1, c1, rfl, hc1, r1, B1⟩; obtain ⟨t1, ad, B, cb, rfl, y1, r1'⟩ := WX.out w1 B1))
              | (go_at_call 42; ((with_reducible refine (zs A1 c1 B cb w1 r1 r1').mono ?_); (rintro e w2 ⟨rfl, rfl⟩)))
              | (go_at_call 44; refine (zj A1 c1 w1 hc1 t1 r1).mono ?_; (rintro e w2 ⟨A2, c2, rfl, _, _, B2⟩))
              | ((with_reducible refine atWorld w2 ?_); refine wpList_allocRow (w := w2) entTy rfl rfl ?_; (intro w3 b3 B3 s3; have b3 := Lib.hid b3; replace s3 := Lib.hid s3))
              | ((with_reducible refine atWorld w3 ?_); refine wpList_storeRow (w := w3) entTy rfl (.tmp 8) (.tmp 31) rfl w2.heap.size (entL V A2 c2) entZ rfl rfl rfl rfl (ent_one _ _ _) b3.out ?_; (intro w4 b4 B4 s4 k4; have D4 := step_trans B2 (B3.trans B4); have C4 := step_trans HB.out (step_trans B1 D4); have t4 := HT.out.below C4 (Nat.le_refl _); have r4 := r1.step D4; clear b4 s4 k4))
              | (go_at_call 45; refine (zb A1 c1 w4 hc1 t4 r4).mono ?_; (rintro e w5 ⟨A5, c5, rfl, _, _, B5⟩; have C5 := step_trans C4 B5)))
            go_ret
            exact ⟨true, rfl, C5, fun x => by cases x⟩
          · have hr : Blk.right (i : Int) sk = false := by simpa using hr
            have hnf := Lib.hid (hnfy hr)
            rw [Blk.readE_bad (by rw [hsk]; exact hll.out) hr] at zb
            clear hsk he hr hbN hbB hjE hkk hnfy
            go_wp2_with (first
              | (go_at_call 21; refine zr.mono ?_; (rintro e w1 ⟨A1, c1, rfl, hc1, r1, B1⟩; obtain ⟨t1, ad, B, cb, rfl, y1, r1'⟩ := WX.out w1 B1))
              | (go_at_call 42; ((with_reducible refine (zs A1 c1 B cb w1 r1 r1').mono ?_); (rintro e w2 ⟨rfl, rfl⟩)))
              | (go_at_call 44; refine (zj A1 c1 w1 hc1 t1 r1).mono ?_; (rintro e w2 ⟨A2, c2, rfl, _, _, B2⟩))
              | ((with_reducible refine atWorld w2 ?_); refine wpList_allocRow (w := w2) entTy rfl rfl ?_; (intro w3 b3 B3 s3; have b3 := Lib.hid b3; replace s3 := Lib.hid s3))
              | ((with_reducible refine atWorld w3 ?_); refine wpList_storeRow (w := w3) entTy rfl (.tmp 8) (.tmp 31) rfl w2.heap.size (entL V A2 c2) entZ rfl rfl rfl rfl (ent_one _ _ _) b3.out ?_; (intro w4 b4 B4 s4 k4; have D4 := step_trans B2 (B3.trans B4); have C4 := step_trans HB.out (step_trans B1 D4); have t4 := HT.out.below C4 (Nat.le_refl _); have r4 := r1.step D4; clear b4 s4 k4))
              | (go_at_call 45; refine (zb A1 c1 w4 hc1 t4 r4).mono ?_; (rintro e w5 ⟨A5, c5, rfl, _, _, B5⟩; have C5 := step_trans C4 B5)))
            go_roundw
            case rel => exact ⟨k + 1, by go_num, by omega, fun j hj => (by by_cases e : j = k; exact e ▸ hnf.out; exact HP.out j (by omega)), C5⟩
            case measure => simp [vN9]; omega
    · obtain rfl : k = m := by omega
      have hk' : ¬ (k : Int) < (k : Int) := by omega
      have HP := Lib.hid hP
      clear hP
      go_wp2
      go_ret
      exact ⟨false, rfl, hB, fun _ j hj => HP.out j (by have := HM.out; omega)⟩
end
end Go.Proofs.YtlchpolheciadaaDoor
