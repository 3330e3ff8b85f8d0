/-
  Several texts in one (StMem, StRoom, StGet, StLay, StWrite, StPutP, StPutQ). Conditions: as each says.
-/
import Derived.Test.YtlchpolheciadaaDoorStLie
import Derived.LaidEqlPtr
import Derived.Deep.RegionHeldLaw
import Derived.Test.YtlchpolheciadaaDoorSlNo
import Derived.Test.YtlchpolheciadaaDoorBk
import Derived.Test.YtlchpolheciadaaDoorJp
/-
  How a store lies in the program's memory; the program's sectorOf, isMade, check, Blocks, Number. Conditions: as each says.
-/
namespace Go.Proofs.YtlchpolheciadaaDoor
open Go.RowKit Fix

/-- a store's cells -/
def stL (g b : Nat) (s : StM) : List Value := [.pointer (some ⟨g, 0, none⟩), .pointer (some ⟨b, 0, none⟩), .int .i64 (s.at_ : Int), .int .i64 (s.n : Int), .int .i64 (s.num : Int), .bool s.broken]
/-- its numbers are such that may be -/
structure StFit (s : StM) : Prop where
  n1 : 1 ≤ s.n
  n64 : s.n ≤ 64
  far : s.at_ + s.n < 1024
  num : s.num ≤ 1099511627776
def StAt (w : World) (g : Nat) (G : Nat → Prop) (b : Nat) (s : StM) : Prop := BlkR 27 w g (stL g b s) ∧ (∀ k, G k ↔ k = g) ∧ StFit s
section
variable {w w' : World} {g b : Nat} {G : Nat → Prop} {s : StM}
theorem stL_len (g b : Nat) (s : StM) : (stL g b s).length = 6 := rfl
theorem StAt.lt (h : StAt w g G b s) : ∀ k, G k → k < w.heap.size := fun k hk => by rw [(h.2.1 k).1 hk]; exact h.1.lt
theorem StAt.keep (h : StAt w g G b s) (hk : ∀ k, G k → w'.heap[k]? = w.heap[k]?) : StAt w' g G b s := ⟨(hk g ((h.2.1 g).2 rfl)).trans h.1, h.2.1, h.2.2⟩
theorem StAt.step (h : StAt w g G b s) (hb : Below w.heap.size w w') : StAt w' g G b s := h.keep fun k hk => hb.block k (h.lt k hk)
/-- what is read of a store -/
def StRd (w : World) (g b : Nat) (s : StM) : Prop := w.cell? ⟨g, 0, none⟩ = some (.pointer (some ⟨g, 0, none⟩)) ∧ w.cell? ⟨g, 1, none⟩ = some (.pointer (some ⟨b, 0, none⟩)) ∧ w.cell? ⟨g, 2, none⟩ = some (.int .i64 (s.at_ : Int)) ∧ w.cell? ⟨g, 3, none⟩ = some (.int .i64 (s.n : Int)) ∧ w.cell? ⟨g, 4, none⟩ = some (.int .i64 (s.num : Int)) ∧ w.cell? ⟨g, 5, none⟩ = some (.bool s.broken)
theorem st_rd (h : BlkR 27 w g (stL g b s)) : StRd w g b s := ⟨h.cell rfl, h.cell rfl, h.cell rfl, h.cell rfl, h.cell rfl, h.cell rfl⟩
end
set_option maxRecDepth 100000 in
theorem sectorOf_any (p i : Nat) (w : World) (hp : p < 2000) (hi : i < 2000) : Calls Tryd.prog 38 #[.int .i64 (p : Int), .int .i64 (i : Int)] w fun e w' => e = .returned (.int .i64 ((p : Int) + 1 + (i : Int))) ∧ w = w' := by
  have h1 : IntKind.i64.wrap ((p : Int) + 1) = (p : Int) + 1 := IntWalk.i64_in _ (by omega)
  have h2 : IntKind.i64.wrap ((p : Int) + 1 + (i : Int)) = (p : Int) + 1 + (i : Int) := IntWalk.i64_in _ (by omega)
  clear hp hi
  go_enter Tryd.func38, Tryd.ntmps38
  go_wp2
  go_ret
  exact ⟨rfl, rfl⟩
set_option maxRecDepth 100000 in
theorem stMade_yes (w : World) (g : Nat) (h0 : w.cell? ⟨g, 0, none⟩ = some (.pointer (some ⟨g, 0, none⟩))) : Calls Tryd.prog 34 #[.pointer (some ⟨g, 0, none⟩)] w fun e w' => e = .returned (.bool true) ∧ w = w' := by
  have he : ∀ w, (binOp .eql 24 (.pointer (some ⟨g, 0, none⟩)) (.pointer (some ⟨g, 0, none⟩))).run Tryd.prog w = .ok (.bool true) w := fun w => by
    obtain ⟨j, hj⟩ : ∃ j, Tryd.prog.info? 27 = some j := Option.isSome_iff_exists.1 (by kernel_rfl)
    exact run_eql_ptr_same w _ (tp := 24) (te := 27) (by kernel_rfl) hj
  go_enter Tryd.func34, Tryd.ntmps34
  go_wp2
  go_ret
  exact ⟨rfl, rfl⟩
set_option maxRecDepth 100000 in
theorem stBlocks_any (w : World) (g b : Nat) (s : StM) (h : StRd w g b s) : Calls Tryd.prog 12 #[.pointer (some ⟨g, 0, none⟩)] w fun e w' => e = .returned (.int .i64 (s.n : Int)) ∧ w = w' := by
  obtain ⟨x0, x1, x2, x3, x4, x5⟩ := h
  have zm := stMade_yes w g x0
  go_enter Tryd.func12, Tryd.ntmps12
  go_wp2_with (go_at_call 34; refine zm.mono ?_; (rintro e w2 ⟨rfl, rfl⟩))
  go_ret
  exact ⟨rfl, rfl⟩
set_option maxRecDepth 100000 in
theorem stNumber_any (w : World) (g b : Nat) (s : StM) (h : StRd w g b s) : Calls Tryd.prog 13 #[.pointer (some ⟨g, 0, none⟩)] w fun e w' => e = .returned (.int .i64 (s.num : Int)) ∧ w = w' := by
  obtain ⟨x0, x1, x2, x3, x4, x5⟩ := h
  have zm := stMade_yes w g x0
  go_enter Tryd.func13, Tryd.ntmps13
  go_wp2_with (go_at_call 34; refine zm.mono ?_; (rintro e w2 ⟨rfl, rfl⟩))
  go_ret
  exact ⟨rfl, rfl⟩
end Go.Proofs.YtlchpolheciadaaDoor
/-
  The program's checkRoom, look, check, Get, layBlock. Conditions: a disk's methods do what the document says; the table of crc lies as the program's text lays it.
-/
namespace Go.Proofs.YtlchpolheciadaaDoor
open Go.RowKit Fix

section
variable {At : World → Nat → (Nat → Prop) → DS → Prop} (D : Disks Tryd.prog At)
include D
set_option maxRecDepth 100000 in
set_option maxHeartbeats 1000000 in
theorem stRoom_any (w : World) (b : Nat) (F : Nat → Prop) (S : DS) (p m : Int) (h : At w b F S) : Calls Tryd.prog 30 #[.pointer (some ⟨b, 0, none⟩), .int .i64 p, .int .i64 m] w fun e w' => e = .returned (.int .i64 (St.room S p m)) ∧ Below w.heap.size w w' := by
  have hok := D.ok w b F S h
  have h1 := hok.n1
  have h2 := hok.n2
  have zs := fun w h => D.sectors w b F S h
  have zu := fun w h => D.up w b F S h
  obtain ⟨n, hn⟩ : ∃ n : Nat, n = S.n := ⟨_, rfl⟩
  have hnz : (((n : Int)) == 0) = false := by rw [hn]; simp; omega
  have HR := Lib.hid (show St.room S p m = if S.out = true then 10 else if m < 1 ∨ 64 < m then 2 else if p < 0 ∨ (n : Int) ≤ p ∨ (n : Int) - p ≤ m then 5 else 0 by rw [hn]; rfl)
  rw [← hn] at zs h1 h2
  have zs1 := fun w1 (B : Below w.heap.size w w1) => zs w1 (At_step D h B)
  have zu1 := fun w1 (B : Below w.heap.size w w1) => zu w1 (At_step D h B)
  rw [HR.out]
  clear hn HR hok zs zu h
  have zs0 := zs1 w (Below.refl _ _)
  cases ho : S.out with
  | true =>
    rw [ho] at zu1
    rw [if_pos rfl]
    clear ho h1 h2
    go_enter Tryd.func30, Tryd.ntmps30
    go_wp2_with (first
      | (go_at_call 49; refine zs0.mono ?_; (rintro e w1 ⟨rfl, B1⟩))
      | (go_at_call 48; refine (zu1 w1 B1).mono ?_; (rintro e w2 ⟨rfl, B2⟩)))
    go_ret
    exact ⟨rfl, step_trans B1 B2⟩
  | false =>
    rw [ho] at zu1
    rw [if_neg (by decide)]
    clear ho
    by_cases hm : m < 1 ∨ 64 < m
    · rw [if_pos hm]
      clear h1 h2
      by_cases hm1 : m < 1
      · clear hm
        go_enter Tryd.func30, Tryd.ntmps30
        go_wp2_with (first
          | (go_at_call 49; refine zs0.mono ?_; (rintro e w1 ⟨rfl, B1⟩))
          | (go_at_call 48; refine (zu1 w1 B1).mono ?_; (rintro e w2 ⟨rfl, B2⟩)))
        go_ret
        exact ⟨rfl, step_trans B1 B2⟩
      · have hm2 : 64 < m := by omega
        clear hm
        go_enter Tryd.func30, Tryd.ntmps30
        go_wp2_with (first
          | (go_at_call 49; refine zs0.mono ?_; (rintro e w1 ⟨rfl, B1⟩))
          | (go_at_call 48; refine (zu1 w1 B1).mono ?_; (rintro e w2 ⟨rfl, B2⟩)))
        go_ret
        exact ⟨rfl, step_trans B1 B2⟩
    · rw [if_neg hm]
      have hm1 : ¬ m < 1 := by omega
      have hm2 : ¬ 64 < m := by omega
      have hwr : IntKind.i64.wrap ((n : Int) - m) = (n : Int) - m := IntWalk.i64_in _ (by omega)
      by_cases hp : p < 0
      · rw [if_pos (.inl hp)]
        clear hm h1 h2 hwr
        go_enter Tryd.func30, Tryd.ntmps30
        go_wp2_with (first
          | (go_at_call 49; refine zs0.mono ?_; (rintro e w1 ⟨rfl, B1⟩))
          | (go_at_call 48; refine (zu1 w1 B1).mono ?_; (rintro e w2 ⟨rfl, B2⟩)))
        go_ret
        exact ⟨rfl, step_trans B1 B2⟩
      · by_cases hq : (n : Int) - m ≤ p
        · rw [if_pos (by omega)]
          clear hm h1 h2
          go_enter Tryd.func30, Tryd.ntmps30
          go_wp2_with (first
            | (go_at_call 49; refine zs0.mono ?_; (rintro e w1 ⟨rfl, B1⟩))
            | (go_at_call 48; refine (zu1 w1 B1).mono ?_; (rintro e w2 ⟨rfl, B2⟩))
            | (go_at_call 49; refine (zs1 w2 (step_trans B1 B2)).mono ?_; (rintro e w3 ⟨rfl, B3⟩)))
          go_ret
          exact ⟨rfl, step_trans B1 (step_trans B2 B3)⟩
        · rw [if_neg (by omega)]
          clear hm h1 h2
          go_enter Tryd.func30, Tryd.ntmps30
          go_wp2_with (first
            | (go_at_call 49; refine zs0.mono ?_; (rintro e w1 ⟨rfl, B1⟩))
            | (go_at_call 48; refine (zu1 w1 B1).mono ?_; (rintro e w2 ⟨rfl, B2⟩))
            | (go_at_call 49; refine (zs1 w2 (step_trans B1 B2)).mono ?_; (rintro e w3 ⟨rfl, B3⟩)))
          go_ret
          exact ⟨rfl, step_trans B1 (step_trans B2 B3)⟩
omit D in
/-- what look tells -/
def LkPost (E : Int) (N : Nat) (l : List UInt8) (w : World) (en : Ending) (w' : World) : Prop :=
  ∃ A c, en = .returned (.tuple #[.int .i64 (N : Int), .slice A l.length c, .int .i64 E]) ∧ c ≤ 9223372036854775807 ∧ Whole w' w.heap.size A c l ∧ Below w.heap.size w w'
omit D in
theorem LkPost.of_read {E : Int} {N : Nat} {l : List UInt8} {w w1 w2 : World} {en : Ending} (B : Below w.heap.size w w1) (h : LkPost E N l w1 en w2) : LkPost E N l w en w2 := by
  obtain ⟨A, c, h1, h2, h3, h4⟩ := h
  exact ⟨A, c, h1, h2, h3.less B.size, step_trans B h4⟩
omit D in
theorem St.bE_in {S : DS} {p i : Int} (h : S.readE (p + 1 + i) = 0) : St.bE S p i = Blk.readE i (S.readB (p + 1 + i)) ∧ St.bN S p i = Blk.readN i (S.readB (p + 1 + i)) ∧ St.bB S p i = Blk.readB i (S.readB (p + 1 + i)) := by
  unfold St.bE St.bN St.bB
  rw [if_pos h, if_pos h, if_pos h]
  exact ⟨rfl, rfl, rfl⟩
omit D in
theorem St.bE_out {S : DS} {p i : Int} (h : S.readE (p + 1 + i) ≠ 0) : St.bE S p i = S.readE (p + 1 + i) ∧ St.bN S p i = 0 ∧ St.bB S p i = [] := by
  unfold St.bE St.bN St.bB
  rw [if_neg h, if_neg h, if_neg h]
  exact ⟨rfl, rfl, rfl⟩
set_option maxRecDepth 100000 in
set_option maxHeartbeats 1000000 in
theorem stLook_any (w : World) (b : Nat) (F : Nat → Prop) (S : DS) (g : Nat) (s : StM) (i : Nat) (ht : TabAt w) (h : At w b F S) (hb : BlkR 27 w g (stL g b s)) (hs : s.at_ < 1024) (hi : i < 64) :
    Calls Tryd.prog 29 #[.pointer (some ⟨g, 0, none⟩), .int .i64 (i : Int)] w (LkPost (St.bE S s.at_ i) (St.bN S s.at_ i) (St.bB S s.at_ i) w) := by
  have zs := fun w => sectorOf_any s.at_ i w (by omega) (by omega)
  have Bd : Below w.heap.size w w.drew := (Below.refl _ w).drew
  have zr := D.read w.drew b F S ((s.at_ : Int) + 1 + (i : Int)) (At_step D h Bd)
  have KX : Hid (∀ w', Below w.heap.size w w' → w'.cell? ⟨g, 1, none⟩ = some (.pointer (some ⟨b, 0, none⟩)) ∧ w'.cell? ⟨g, 2, none⟩ = some (.int .i64 (s.at_ : Int))) := Lib.hid fun w' B => by
    obtain ⟨_, y1, y2, _⟩ := st_rd (hb.step B)
    exact ⟨y1, y2⟩
  obtain ⟨x1, x2⟩ := KX.out w (Below.refl _ _)
  have hrl := DS.readB_length (i := (s.at_ : Int) + 1 + (i : Int)) (D.ok w b F S h)
  obtain ⟨q, hq⟩ : ∃ q, q = (s.at_ : Int) + 1 + (i : Int) := ⟨_, rfl⟩
  rw [← hq] at zs zr hrl
  by_cases he : S.readE q = 0
  · obtain ⟨e1, e2, e3⟩ := St.bE_in (S := S) (p := (s.at_ : Int)) (i := (i : Int)) (by rw [← hq]; exact he)
    rw [← hq] at e1 e2 e3
    rw [e1, e2, e3]
    have h64 := hrl he
    rw [he] at zr
    obtain ⟨l, hl⟩ : ∃ l, l = S.readB q := ⟨_, rfl⟩
    rw [← hl] at zr h64 ⊢
    rw [h64] at zr
    have zk : ∀ A c w1, 64 ≤ c → TabAt w1 → BytesAt w1 w1.heap.size A l → _ := fun A c w1 hc t r => blockRead_any (i : Int) A l 64 c h64 hc w1 t r
    have HL := Lib.hid h64
    have HT := Lib.hid ht
    clear hl e1 e2 e3 h64 he hrl hq ht h hb hs hi
    go_enter Tryd.func29, Tryd.ntmps29
    go_wp2
    go_region_held3 (fun w' => w'.cell? ⟨g, 1, none⟩ = some (.pointer (some ⟨b, 0, none⟩)) ∧ w'.cell? ⟨g, 2, none⟩ = some (.int .i64 (s.at_ : Int))) (first | assumption | exact ⟨x1, x2⟩ | exact KX.out _ (by assumption)) (first
      | (go_at_call 38; refine (zs _).mono ?_; (rintro e w' ⟨rfl, rfl⟩))
      | (go_at_call 21; refine zr.mono ?_; (rintro e w1 ⟨A, c, rfl, r1, B1⟩; have C1 : Below w.heap.size w w1 := undrew B1; have t1 := HT.out.below C1 (Nat.le_refl _); have rc := rdB_cap r1; rw [HL.out] at rc; have ra := r1.bytes)))
    go_wp2_with (go_at_call 45; refine (zk A c w1 rc t1 ra).mono ?_; (rintro e w2 ⟨A2, c2, rfl, hc2, o2, B2⟩))
    go_ret3
    exact ⟨A2, c2, rfl, hc2, o2.less C1.size, step_trans C1 B2⟩
  · obtain ⟨e1, e2, e3⟩ := St.bE_out (S := S) (p := (s.at_ : Int)) (i := (i : Int)) (by rw [← hq]; exact he)
    rw [← hq] at e1
    rw [e1, e2, e3]
    rw [DS.readB_none S q he] at zr
    obtain ⟨E, hE⟩ : ∃ E, E = S.readE q := ⟨_, rfl⟩
    rw [← hE] at zr he ⊢
    have hne : (E != 0) = true := by simpa using he
    clear hE e1 e2 e3 he hrl hq ht h hb hs hi
    go_enter Tryd.func29, Tryd.ntmps29
    go_wp2
    go_region_held3 (fun w' => w'.cell? ⟨g, 1, none⟩ = some (.pointer (some ⟨b, 0, none⟩)) ∧ w'.cell? ⟨g, 2, none⟩ = some (.int .i64 (s.at_ : Int))) (first | assumption | exact ⟨x1, x2⟩ | exact KX.out _ (by assumption)) (first
      | (go_at_call 38; refine (zs _).mono ?_; (rintro e w' ⟨rfl, rfl⟩))
      | (go_at_call 21; refine zr.mono ?_; (rintro e w1 ⟨A, c, rfl, r1, B1⟩; have C1 : Below w.heap.size w w1 := undrew B1)))
    go_wp2
    go_ret3
    exact ⟨none, 0, rfl, by decide, Whole.none_, C1⟩
/-- what check makes of a store: whether ErrBroken is told from now on -/
def chkE (S : DS) (s : StM) (i : Int) : Int := if St.out S s = true then 10 else if i < 0 ∨ (s.n : Int) ≤ i then 5 else 0
omit D in
theorem getS_cases (S : DS) (s : StM) : St.getS S s = { s with broken := St.out S s } := by
  unfold St.getS
  split
  · rename_i h; rw [h]
  · rename_i h
    unfold St.out at h ⊢
    cases hb : s.broken <;> cases ho : S.out <;> simp_all
    cases s; simp_all
def ChkPost (E : Int) (g b : Nat) (s : StM) (w : World) (en : Ending) (w' : World) : Prop :=
  en = .returned (.int .i64 E) ∧ BlkR 27 w' g (stL g b s) ∧ Frame (fun k => k = g) w w'
omit D in
theorem st_broken {w : World} {g b : Nat} {s : StM} (h : BlkR 27 w g (stL g b s)) (y : Bool) : BlkR 27 (w.setCell ⟨g, 5, none⟩ (.bool y)) g (stL g b { s with broken := y }) := h.set_ 5 (.bool y)
set_option maxRecDepth 100000 in
set_option maxHeartbeats 1000000 in
theorem stCheck_any (w : World) (b : Nat) (F : Nat → Prop) (S : DS) (g : Nat) (s : StM) (i : Int) (h : At w b F S) (hb : BlkR 27 w g (stL g b s)) :
    Calls Tryd.prog 28 #[.pointer (some ⟨g, 0, none⟩), .int .i64 i] w (ChkPost (chkE S s i) g b (St.getS S s) w) := by
  rw [getS_cases]
  obtain ⟨x0, x1, x2, x3, x4, x5⟩ := st_rd hb
  have zm := stMade_yes w g x0
  have zu := D.up w b F S h
  have f5 := hb.frozen 5
  have HB := Lib.hid hb
  unfold ChkPost chkE
  cases hbr : s.broken with
  | true =>
    rw [hbr] at x5
    have ho : St.out S s = true := by unfold St.out; rw [hbr]; rfl
    rw [if_pos ho, ho]
    clear ho hb zu h
    go_enter Tryd.func28, Tryd.ntmps28
    go_wp2_with (go_at_call 34; refine zm.mono ?_; (rintro e w2 ⟨rfl, rfl⟩))
    go_ret
    exact ⟨rfl, st_broken HB.out true, (Frame.refl _ _).setAt _ _ rfl⟩
  | false =>
    rw [hbr] at x5
    have KX : Hid (∀ w', Below w.heap.size w w' → BlkR 27 w' g (stL g b s) ∧ w'.frozen? ⟨g, 5, none⟩ = false ∧ w'.cell? ⟨g, 3, none⟩ = some (.int .i64 (s.n : Int)) ∧ w'.cell? ⟨g, 5, none⟩ = some (.bool false)) := Lib.hid fun w' B => by
      have hb' := HB.out.step B
      obtain ⟨_, _, _, y3, _, y5⟩ := st_rd hb'
      exact ⟨hb', hb'.frozen 5, y3, by rw [y5, hbr]⟩
    cases hso : S.out with
    | true =>
      have ho : St.out S s = true := by unfold St.out; rw [hbr, hso]; rfl
      rw [if_pos ho, ho]
      rw [hso] at zu
      clear ho hb h hso hbr
      go_enter Tryd.func28, Tryd.ntmps28
      go_wp2_with (first
        | (go_at_call 34; refine zm.mono ?_; (rintro e w2 ⟨rfl, rfl⟩))
        | (go_at_call 48; refine zu.mono ?_; (rintro e w1 ⟨rfl, B1⟩; obtain ⟨k0, k1, k2, k3⟩ := KX.out w1 B1; have k0 := Lib.hid k0)))
      go_ret
      exact ⟨rfl, st_broken k0.out true, (Frame.of_below B1).setAt _ _ rfl⟩
    | false =>
      have ho : St.out S s = false := by unfold St.out; rw [hbr, hso]; rfl
      rw [ho, if_neg (by decide)]
      rw [hso] at zu
      clear ho hb h hso hbr
      by_cases hi : i < 0
      · rw [if_pos (.inl hi)]
        go_enter Tryd.func28, Tryd.ntmps28
        go_wp2_with (first
          | (go_at_call 34; refine zm.mono ?_; (rintro e w2 ⟨rfl, rfl⟩))
          | (go_at_call 48; refine zu.mono ?_; (rintro e w1 ⟨rfl, B1⟩; obtain ⟨k0, k1, k2, k3⟩ := KX.out w1 B1; have k0 := Lib.hid k0)))
        go_ret
        exact ⟨rfl, st_broken k0.out false, (Frame.of_below B1).setAt _ _ rfl⟩
      · by_cases hj : (s.n : Int) ≤ i
        · rw [if_pos (.inr hj)]
          go_enter Tryd.func28, Tryd.ntmps28
          go_wp2_with (first
            | (go_at_call 34; refine zm.mono ?_; (rintro e w2 ⟨rfl, rfl⟩))
            | (go_at_call 48; refine zu.mono ?_; (rintro e w1 ⟨rfl, B1⟩; obtain ⟨k0, k1, k2, k3⟩ := KX.out w1 B1; have k0 := Lib.hid k0)))
          go_ret
          exact ⟨rfl, st_broken k0.out false, (Frame.of_below B1).setAt _ _ rfl⟩
        · rw [if_neg (by omega)]
          go_enter Tryd.func28, Tryd.ntmps28
          go_wp2_with (first
            | (go_at_call 34; refine zm.mono ?_; (rintro e w2 ⟨rfl, rfl⟩))
            | (go_at_call 48; refine zu.mono ?_; (rintro e w1 ⟨rfl, B1⟩; obtain ⟨k0, k1, k2, k3⟩ := KX.out w1 B1; have k0 := Lib.hid k0)))
          go_ret
          exact ⟨rfl, st_broken k0.out false, (Frame.of_below B1).setAt _ _ rfl⟩
end
end Go.Proofs.YtlchpolheciadaaDoor
/-
  The program's Get, layBlock. Conditions: a disk's methods do what the document says; the table of crc lies as the program's text lays it.
-/
namespace Go.Proofs.YtlchpolheciadaaDoor
open Go.RowKit Fix

theorem tab_lt {w : World} (ht : TabAt w) : 0 < w.heap.size := World.block_lt_of_cell? w _ (ht 0 (by decide))
theorem TabAt.frame {F : Nat → Prop} {w w' : World} (ht : TabAt w) (fr : Frame F w w') (hF : ¬ F 0) : TabAt w' := fun i hi => (World.cell?_of_block (w := w) (a := ⟨0, i, none⟩) (fr.block _ (tab_lt ht) hF)).trans (ht i hi)
theorem st_notab {w : World} {g b : Nat} {s : StM} (ht : TabAt w) (h : BlkR 27 w g (stL g b s)) : 0 ≠ g := by
  rintro rfl
  have h1 := ht 0 (by decide)
  rw [(st_rd h).1] at h1
  cases h1
/-- a disk that lies beside the table of crc -/
def Tight (At : World → Nat → (Nat → Prop) → DS → Prop) : Prop := ∀ w b F S, TabAt w → At w b F S → ∃ F0, At w b F0 S ∧ (∀ k, F0 k → F k) ∧ ¬ F0 0
theorem chk_zero {S : DS} {s : StM} {i : Int} (h : chkE S s i = 0) : St.out S s = false ∧ ¬ (i < 0 ∨ (s.n : Int) ≤ i) := by
  unfold chkE at h
  split at h
  · cases h
  · rename_i ho
    split at h
    · cases h
    · rename_i hi
      exact ⟨by simpa using ho, hi⟩
theorem get_ok {S : DS} {s : StM} {i : Int} (h : chkE S s i = 0) : St.getE S s i = St.bE S s.at_ i ∧ St.getB S s i = St.bB S s.at_ i := by
  obtain ⟨h1, h2⟩ := chk_zero h
  unfold St.getE St.getB
  rw [if_neg (by rw [h1]; decide), if_neg h2, if_neg (by rw [h1]; decide), if_neg h2]
  exact ⟨rfl, rfl⟩
theorem get_no {S : DS} {s : StM} {i : Int} (h : chkE S s i ≠ 0) : St.getE S s i = chkE S s i ∧ St.getB S s i = [] := by
  unfold chkE at h ⊢
  unfold St.getE St.getB
  split
  · exact ⟨rfl, rfl⟩
  · rename_i ho
    rw [if_neg ho] at h
    split
    · exact ⟨rfl, rfl⟩
    · rename_i hi
      rw [if_neg hi] at h
      exact absurd rfl h
theorem getS_at (S : DS) (s : StM) : (St.getS S s).at_ = s.at_ ∧ (St.getS S s).n = s.n ∧ (St.getS S s).num = s.num := by
  rw [getS_cases]
  exact ⟨rfl, rfl, rfl⟩
theorem getS_fit {S : DS} {s : StM} (h : StFit s) : StFit (St.getS S s) := by
  rw [getS_cases]
  exact ⟨h.n1, h.n64, h.far, h.num⟩
section
variable {At : World → Nat → (Nat → Prop) → DS → Prop} (D : Disks Tryd.prog At)
include D
theorem at_beside {w w' : World} {b g : Nat} {F : Nat → Prop} {S : DS} (h : At w b F S) (fr : Frame (fun k => k = g) w w') (hg : ¬ F g) : At w' b F S :=
  D.keep w w' b F S h fr.size fun k hk => fr.block k (D.lt w b F S h k hk) fun e => hg (e ▸ hk)
set_option maxRecDepth 100000 in
set_option maxHeartbeats 1000000 in
theorem stGet_any (w : World) (b : Nat) (F : Nat → Prop) (S : DS) (g : Nat) (G : Nat → Prop) (s : StM) (i : Int) (ht : TabAt w) (h : At w b F S) (hs : StAt w g G b s) (hFG : ∀ k, ¬ (F k ∧ G k)) :
    Calls Tryd.prog 9 #[.pointer (some ⟨g, 0, none⟩), .int .i64 i] w (StGet StAt S b g G s i w) := by
  obtain ⟨hb, hG, hf⟩ := hs
  have zc := stCheck_any D w b F S g s i h hb
  have hgF : ¬ F g := fun x => hFG g ⟨x, (hG g).2 rfl⟩
  have hgt := st_notab ht hb
  have hgl := hb.lt
  obtain ⟨s', hs'⟩ : ∃ s', s' = St.getS S s := ⟨_, rfl⟩
  have hat := getS_at S s
  have hf' := getS_fit (S := S) hf
  unfold StGet
  unfold ChkPost at zc
  rw [← hs'] at zc hat hf' ⊢
  by_cases hc : chkE S s i = 0
  · obtain ⟨hi0, hi1⟩ : 0 ≤ i ∧ i < (s.n : Int) := by have := (chk_zero hc).2; omega
    obtain ⟨k, rfl⟩ : ∃ k : Nat, i = (k : Int) := ⟨i.toNat, by omega⟩
    rw [(get_ok hc).1, (get_ok hc).2]
    rw [hc] at zc
    have zl : ∀ w1, TabAt w1 → At w1 b F S → BlkR 27 w1 g (stL g b s') → _ := fun w1 t a e => stLook_any D w1 b F S g s' k t a e (by have := hf.far; rw [hat.1]; omega) (by have := hf.n64; omega)
    rw [hat.1] at zl
    unfold LkPost at zl
    have HH := Lib.hid (And.intro h (And.intro hgF (And.intro ht (And.intro hgt (And.intro hG (And.intro hf' hgl))))))
    obtain ⟨E, hE⟩ : ∃ E, E = St.bE S s.at_ (k : Int) := ⟨_, rfl⟩
    obtain ⟨l, hl⟩ : ∃ l, l = St.bB S s.at_ (k : Int) := ⟨_, rfl⟩
    rw [← hE, ← hl] at zl ⊢
    clear hE hl h hgF ht hgt hG hf hf' hat hc hi0 hi1 hs' hFG hb hgl
    go_enter Tryd.func9, Tryd.ntmps9
    go_wp2_with (first
      | (go_at_call 28; refine zc.mono ?_; (rintro e w1 ⟨rfl, b1, fr1⟩; have t1 := HH.out.2.2.1.frame fr1 HH.out.2.2.2.1; have h1 := at_beside D HH.out.1 fr1 HH.out.2.1; have b1 := Lib.hid b1))
      | (go_at_call 29; refine (zl w1 t1 h1 b1.out).mono ?_; (rintro e w2 ⟨A, c, rfl, hc2, o2, B2⟩)))
    go_ret2
    obtain ⟨_, _, _, _, hG, hf', hgl⟩ := HH.out
    refine ⟨A, c, G, rfl, hc2, o2.less fr1.size, ⟨b1.out.step B2, hG, hf'⟩, fun j hj => ⟨.inl hj, fun ad e hne x => ?_⟩, fr1.trans (Frame.of_below (F := fun _ => False) B2) (fun _ x => x.elim) |>.mono fun j e => (hG j).2 e⟩
    have := o2.new ad e hne
    rw [(hG j).1 hj] at x
    have := fr1.size
    omega
  · rw [(get_no hc).1, (get_no hc).2]
    obtain ⟨E, hE⟩ : ∃ E, E = chkE S s i := ⟨_, rfl⟩
    rw [← hE] at zc hc ⊢
    have hne : (E != 0) = true := by simpa using hc
    have HH := Lib.hid (And.intro hG hf')
    clear hE h hgF ht hgt hG hf hf' hat hs' hFG hb hgl hc
    go_enter Tryd.func9, Tryd.ntmps9
    go_wp2_with (go_at_call 28; refine zc.mono ?_; (rintro e w1 ⟨rfl, b1, fr1⟩; have b1 := Lib.hid b1))
    go_ret2
    exact ⟨none, 0, G, rfl, by decide, Whole.none_, ⟨b1.out, HH.out.1, HH.out.2⟩, fun j hj => ⟨.inl hj, fun ad e => (by cases e)⟩, fr1.mono fun j e => (HH.out.1 j).2 e⟩
end
end Go.Proofs.YtlchpolheciadaaDoor
/-
  The program's layBlock. Conditions: a disk's methods do what the document says; at most so many changes; the table of crc lies as the program's text lays it.
-/
namespace Go.Proofs.YtlchpolheciadaaDoor
open Go.RowKit Fix

section
variable {At : World → Nat → (Nat → Prop) → DS → Prop} (D : Disks Tryd.prog At)
include D
set_option maxRecDepth 100000 in
set_option maxHeartbeats 2000000 in
theorem stLay_any (w : World) (b : Nat) (F : Nat → Prop) (S : DS) (q : Int) (e : Ent) (A : Option Addr) (c : Nat) (ht : TabAt w) (h : At w b F S) (ho : S.ops ≤ 990000) (hr : BytesAt w w.heap.size A e.d) :
    Calls Tryd.prog 51 #[.pointer (some ⟨b, 0, none⟩), .int .i64 q, .agg (entL e A c).toArray] w (ChgPost At b F (Slot.put1 S q (Blk.bytesB e.b e.n e.d)) w) := by
  have bx := boxE w e A c
  obtain ⟨W, hW⟩ : ∃ W, W = w.alloc (.cells (entL e A c).toArray 79) := ⟨_, rfl⟩
  rw [← hW] at bx
  have tW := ht.below bx.out.2 (Nat.le_refl _)
  have rW := hr.step bx.out.2
  have hW0 := At_step D h bx.out.2
  have HB := Lib.hid bx.out.2
  have zb := blockBytes_any e.b e.n A e.d e.d.length c rfl W tW rW
  unfold BbPost at zb
  obtain ⟨l, hll⟩ : ∃ x, x = Blk.bytesB e.b e.n e.d := ⟨_, rfl⟩
  rw [← hll] at zb ⊢
  obtain ⟨E, hE⟩ : ∃ x, x = Blk.bytesE e.b e.n e.d := ⟨_, rfl⟩
  rw [← hE] at zb
  have zw := fun w A c h r hc => D.write w b F S q A l l.length c h (by omega) r rfl hc
  have hops := ops_write S q l
  unfold ChgPost Slot.put1
  clear hll hE hr ht tW rW h bx
  by_cases hx : (S.write q l).2 = 0
  · rw [if_pos hx]
    rw [hx] at zw
    have zf := fun w F' h => D.flush w b F' (S.write q l).1 h (by omega)
    obtain ⟨T, hT⟩ : ∃ T, T = (S.write q l).1 := ⟨_, rfl⟩
    rw [← hT] at zw zf ⊢
    clear hT hx hops
    obtain ⟨x, hx⟩ : ∃ x, x = T.flush.2 := ⟨_, rfl⟩
    obtain ⟨U, hU⟩ : ∃ x, x = T.flush.1 := ⟨_, rfl⟩
    rw [← hx, ← hU] at zf ⊢
    clear hx hU
    unfold entL at hW ⊢
    go_enter Tryd.func51, Tryd.ntmps51
    go_wp2_with (first
      | (go_at_call 37; rw [← hW]; refine zb.mono ?_; (rintro en w1 ⟨A1, c1, rfl, hc1, o1, B1⟩; have h1 := At_step D hW0 B1; have B01 := step_trans HB.out B1; clear hW))
      | (go_at_call 35; refine (zw w1 A1 c1 h1 o1.bytes o1.cap).mono ?_; (rintro en w3 ⟨F3, rfl, h3, hF3, fr3⟩))
      | (go_at_call 39; refine (zf w3 F3 h3).mono ?_; (rintro en w4 ⟨F4, rfl, h4, hF4, fr4⟩)))
    go_ret
    refine ⟨F4, rfl, h4, fun k hk => ?_, ((Frame.of_below B01).trans fr3 fun k hk => .inl hk).trans fr4 fun k hk => (hF3 k hk).imp id fun y => Nat.le_trans B01.size y⟩
    rcases hF4 k hk with y | y
    · exact (hF3 k y).imp id fun y => Nat.le_trans B01.size y
    · exact .inr (Nat.le_trans (Nat.le_trans B01.size fr3.size) y)
  · rw [if_neg hx]
    obtain ⟨x, hx'⟩ : ∃ x, x = (S.write q l).2 := ⟨_, rfl⟩
    obtain ⟨T, hT⟩ : ∃ T, T = (S.write q l).1 := ⟨_, rfl⟩
    rw [← hx'] at hx
    rw [← hx', ← hT] at zw ⊢
    have hne : (x != 0) = true := by simpa using hx
    clear hx' hT hops hx
    unfold entL at hW ⊢
    go_enter Tryd.func51, Tryd.ntmps51
    go_wp2_with (first
      | (go_at_call 37; rw [← hW]; refine zb.mono ?_; (rintro en w1 ⟨A1, c1, rfl, hc1, o1, B1⟩; have h1 := At_step D hW0 B1; have B01 := step_trans HB.out B1; clear hW))
      | (go_at_call 35; refine (zw w1 A1 c1 h1 o1.bytes o1.cap).mono ?_; (rintro en w3 ⟨F3, rfl, h3, hF3, fr3⟩)))
    go_ret
    exact ⟨F3, rfl, h3, fun k hk => (hF3 k hk).imp id fun y => Nat.le_trans B01.size y, (Frame.of_below B01).trans fr3 fun k hk => .inl hk⟩
end
end Go.Proofs.YtlchpolheciadaaDoor
/-
  The program's write and its closure, Put. Conditions: a disk's methods do what the document says; at most so many changes; the table of crc lies as the program's text lays it, beside the disk.
-/
namespace Go.Proofs.YtlchpolheciadaaDoor
open Go.RowKit Fix

/-- what the closure makes: of a disk, of the variable 'first' at block f -/
def KpPost (At : World → Nat → (Nat → Prop) → DS → Prop) (b f : Nat) (F : Nat → Prop) (T : DS × Int) (w : World) (e : Ending) (w' : World) : Prop :=
  ∃ F', e = .returned (.tuple #[]) ∧ At w' b F' T.1 ∧ (∀ k, F' k → F k ∨ w.heap.size ≤ k) ∧ Frame (fun k => F k ∨ k = f) w w' ∧ BlkR 39 w' f [.int .i64 T.2]
/-- what the closure reads -/
structure KpAt (w : World) (g b f p q : Nat) (s : StM) (e : Ent) (A : Option Addr) (c : Nat) : Prop where
  st : BlkR 27 w g (stL g b s)
  ps : BlkR 24 w p [.pointer (some ⟨g, 0, none⟩)]
  en : BlkR 79 w q (entL e A c)
theorem KpAt.step {w w' : World} {g b f p q : Nat} {s : StM} {e : Ent} {A : Option Addr} {c : Nat} (h : KpAt w g b f p q s e A c) (B : Below w.heap.size w w') : KpAt w' g b f p q s e A c := ⟨h.st.step B, h.ps.step B, h.en.step B⟩
theorem KpAt.frame {w w' : World} {g b f p q : Nat} {s : StM} {e : Ent} {A : Option Addr} {c : Nat} {F : Nat → Prop} (h : KpAt w g b f p q s e A c) (fr : Frame F w w') (h1 : ¬ F g) (h2 : ¬ F p) (h3 : ¬ F q) : KpAt w' g b f p q s e A c := ⟨h.st.frame fr h1, h.ps.frame fr h2, h.en.frame fr h3⟩
section
variable {At : World → Nat → (Nat → Prop) → DS → Prop}
set_option maxRecDepth 100000 in
set_option maxHeartbeats 1000000 in
theorem stKeepJ_yes (w : World) (b g f p q : Nat) (F : Nat → Prop) (T : DS × Int) (s : StM) (i : Int) (e : Ent) (A : Option Addr) (c : Nat) (D : Disks Tryd.prog At) (hk : KpAt w g b f p q s e A c) (hf : BlkR 39 w f [.int .i64 0]) (hfF : ¬ F f) (hgF : ¬ F g) (hpF : ¬ F p) (hqF : ¬ F q) (hgf : g ≠ f) (hpf : p ≠ f) (hqf : q ≠ f)
    (z : Calls Tryd.prog 53 #[.pointer (some ⟨b, 0, none⟩), .int .i64 i, .agg (entL e A c).toArray] w.drew (ChgPost At b F T w.drew)) :
    Calls Tryd.prog 52 #[.int .i64 i, .func (.func 53) #[] #[], .pointer (some ⟨f, 0, none⟩), .pointer (some ⟨p, 0, none⟩), .pointer (some ⟨q, 0, none⟩)] w (KpPost At b f F T w) := by
  have f0 := hf.cell (k := 0) rfl
  have HF := Lib.hid (And.intro hf hfF)
  have hfl := hf.lt
  unfold ChgPost at z
  unfold entL at z
  obtain ⟨m, hm⟩ : ∃ m, m = e.d.length := ⟨_, rfl⟩
  have KX : Hid (∀ w1, Frame (fun k => F k ∨ k = f) w w1 → w1.cell? ⟨p, 0, none⟩ = some (.pointer (some ⟨g, 0, none⟩)) ∧ w1.cell? ⟨g, 1, none⟩ = some (.pointer (some ⟨b, 0, none⟩)) ∧ w1.cell? ⟨q, 0, none⟩ = some (.int .i64 e.b) ∧ w1.cell? ⟨q, 1, none⟩ = some (.int .i64 e.n) ∧ w1.cell? ⟨q, 2, none⟩ = some (.slice A m c)) := Lib.hid fun w1 fr => by
    have hk1 := hk.frame fr (fun x => x.elim hgF hgf) (fun x => x.elim hpF hpf) (fun x => x.elim hqF hqf)
    obtain ⟨_, x1, _⟩ := st_rd hk1.st
    obtain ⟨e0, e1, e2⟩ := ent_cells hk1.en
    rw [← hm] at e2
    exact ⟨hk1.ps.cell (k := 0) rfl, x1, e0, e1, e2⟩
  obtain ⟨y0, x1, e0, e1, e2⟩ := KX.out w (Frame.refl _ _)
  rw [← hm] at z
  clear hm hk hf hfF hgF hpF hqF hgf hpf hqf
  go_enter Tryd.func52, Tryd.ntmps52
  go_wp2
  first
  | go_region_held3 (fun w' => w'.cell? ⟨p, 0, none⟩ = some (.pointer (some ⟨g, 0, none⟩)) ∧ w'.cell? ⟨g, 1, none⟩ = some (.pointer (some ⟨b, 0, none⟩)) ∧ w'.cell? ⟨q, 0, none⟩ = some (.int .i64 e.b) ∧ w'.cell? ⟨q, 1, none⟩ = some (.int .i64 e.n) ∧ w'.cell? ⟨q, 2, none⟩ = some (.slice A m c)) (first | assumption | exact J1 | exact J2 | exact ⟨y0, x1, e0, e1, e2⟩) (first
    | (go_at_call 53; refine z.mono ?_; (rintro en w1 ⟨F1, rfl, h1, hF1, fr1⟩; have fr0 : Frame F w w1 := ⟨fr1.os, fr1.tape, fr1.output, fr1.size, fr1.block⟩; have fr1 : Frame (fun k => F k ∨ k = f) w w1 := fr0.mono fun k hk => .inl hk; have b1 := HF.out.1.frame fr0 HF.out.2; have J1 := KX.out w1 fr1; have J2 := KX.out _ (fr1.setAt ⟨f, 0, none⟩ (.int .i64 T.2) (.inr rfl)); have c1 := b1.cell (k := 0) rfl; have z1 := b1.frozen 0; have b1 := Lib.hid b1)))
  | fail
  go_end0
  refine ⟨F1, rfl, ?_, hF1, fr1.setAt _ _ (.inr rfl), b1.out.set_ 0 _⟩
  exact at_beside D h1 ((Frame.refl _ _).setAt _ _ rfl) fun x => (hF1 _ x).elim HF.out.2 fun y => by simp at y; omega
set_option maxRecDepth 100000 in
theorem stKeepJ_no (w : World) (f : Nat) (v1 v2 : Value) (i x : Int) (hx : x ≠ 0) (hf : BlkR 39 w f [.int .i64 x]) :
    Calls Tryd.prog 52 #[.int .i64 i, .func (.func 53) #[] #[], .pointer (some ⟨f, 0, none⟩), v1, v2] w fun e w' => e = .returned (.tuple #[]) ∧ w = w' := by
  have f0 := hf.cell (k := 0) rfl
  have hne : (x == 0) = false := by simpa using hx
  clear hf hx
  go_enter Tryd.func52, Tryd.ntmps52
  go_wp2
  go_end0
  exact ⟨rfl, rfl⟩
set_option maxRecDepth 100000 in
set_option maxHeartbeats 1000000 in
theorem stKeepL_yes (w : World) (b g f p q : Nat) (F : Nat → Prop) (T : DS × Int) (s : StM) (i : Int) (e : Ent) (A : Option Addr) (c : Nat) (D : Disks Tryd.prog At) (hk : KpAt w g b f p q s e A c) (hf : BlkR 39 w f [.int .i64 0]) (hfF : ¬ F f) (hgF : ¬ F g) (hpF : ¬ F p) (hqF : ¬ F q) (hgf : g ≠ f) (hpf : p ≠ f) (hqf : q ≠ f)
    (z : Calls Tryd.prog 51 #[.pointer (some ⟨b, 0, none⟩), .int .i64 i, .agg (entL e A c).toArray] w.drew (ChgPost At b F T w.drew)) :
    Calls Tryd.prog 52 #[.int .i64 i, .func (.func 51) #[] #[], .pointer (some ⟨f, 0, none⟩), .pointer (some ⟨p, 0, none⟩), .pointer (some ⟨q, 0, none⟩)] w (KpPost At b f F T w) := by
  have f0 := hf.cell (k := 0) rfl
  have HF := Lib.hid (And.intro hf hfF)
  have hfl := hf.lt
  unfold ChgPost at z
  unfold entL at z
  obtain ⟨m, hm⟩ : ∃ m, m = e.d.length := ⟨_, rfl⟩
  have KX : Hid (∀ w1, Frame (fun k => F k ∨ k = f) w w1 → w1.cell? ⟨p, 0, none⟩ = some (.pointer (some ⟨g, 0, none⟩)) ∧ w1.cell? ⟨g, 1, none⟩ = some (.pointer (some ⟨b, 0, none⟩)) ∧ w1.cell? ⟨q, 0, none⟩ = some (.int .i64 e.b) ∧ w1.cell? ⟨q, 1, none⟩ = some (.int .i64 e.n) ∧ w1.cell? ⟨q, 2, none⟩ = some (.slice A m c)) := Lib.hid fun w1 fr => by
    have hk1 := hk.frame fr (fun x => x.elim hgF hgf) (fun x => x.elim hpF hpf) (fun x => x.elim hqF hqf)
    obtain ⟨_, x1, _⟩ := st_rd hk1.st
    obtain ⟨e0, e1, e2⟩ := ent_cells hk1.en
    rw [← hm] at e2
    exact ⟨hk1.ps.cell (k := 0) rfl, x1, e0, e1, e2⟩
  obtain ⟨y0, x1, e0, e1, e2⟩ := KX.out w (Frame.refl _ _)
  rw [← hm] at z
  clear hm hk hf hfF hgF hpF hqF hgf hpf hqf
  go_enter Tryd.func52, Tryd.ntmps52
  go_wp2
  first
  | go_region_held3 (fun w' => w'.cell? ⟨p, 0, none⟩ = some (.pointer (some ⟨g, 0, none⟩)) ∧ w'.cell? ⟨g, 1, none⟩ = some (.pointer (some ⟨b, 0, none⟩)) ∧ w'.cell? ⟨q, 0, none⟩ = some (.int .i64 e.b) ∧ w'.cell? ⟨q, 1, none⟩ = some (.int .i64 e.n) ∧ w'.cell? ⟨q, 2, none⟩ = some (.slice A m c)) (first | assumption | exact J1 | exact J2 | exact ⟨y0, x1, e0, e1, e2⟩) (first
    | (go_at_call 51; refine z.mono ?_; (rintro en w1 ⟨F1, rfl, h1, hF1, fr1⟩; have fr0 : Frame F w w1 := ⟨fr1.os, fr1.tape, fr1.output, fr1.size, fr1.block⟩; have fr1 : Frame (fun k => F k ∨ k = f) w w1 := fr0.mono fun k hk => .inl hk; have b1 := HF.out.1.frame fr0 HF.out.2; have J1 := KX.out w1 fr1; have J2 := KX.out _ (fr1.setAt ⟨f, 0, none⟩ (.int .i64 T.2) (.inr rfl)); have c1 := b1.cell (k := 0) rfl; have z1 := b1.frozen 0; have b1 := Lib.hid b1)))
  | fail
  go_end0
  refine ⟨F1, rfl, ?_, hF1, fr1.setAt _ _ (.inr rfl), b1.out.set_ 0 _⟩
  exact at_beside D h1 ((Frame.refl _ _).setAt _ _ rfl) fun x => (hF1 _ x).elim HF.out.2 fun y => by simp at y; omega
set_option maxRecDepth 100000 in
theorem stKeepL_no (w : World) (f : Nat) (v1 v2 : Value) (i x : Int) (hx : x ≠ 0) (hf : BlkR 39 w f [.int .i64 x]) :
    Calls Tryd.prog 52 #[.int .i64 i, .func (.func 51) #[] #[], .pointer (some ⟨f, 0, none⟩), v1, v2] w fun e w' => e = .returned (.tuple #[]) ∧ w = w' := by
  have f0 := hf.cell (k := 0) rfl
  have hne : (x == 0) = false := by simpa using hx
  clear hf hx
  go_enter Tryd.func52, Tryd.ntmps52
  go_wp2
  go_end0
  exact ⟨rfl, rfl⟩
end
end Go.Proofs.YtlchpolheciadaaDoor
/-
  The program's write, Put. Conditions: a disk's methods do what the document says; at most so many changes; the table of crc lies as the program's text lays it, beside the disk.
-/
namespace Go.Proofs.YtlchpolheciadaaDoor
open Go.RowKit Fix

def wrR (S : DS) (p : Int) (e : Ent) : DS × Int := if (Jn.write S p e).2 = 0 then St.lay (Jn.write S p e).1 p e else Jn.write S p e
def WrPost (At : World → Nat → (Nat → Prop) → DS → Prop) (b g : Nat) (F : Nat → Prop) (R : DS × Int) (s' : StM) (w : World) (en : Ending) (w' : World) : Prop :=
  ∃ F', en = .returned (.int .i64 R.2) ∧ At w' b F' R.1 ∧ (∀ k, F' k → F k ∨ w.heap.size ≤ k) ∧ Frame (fun k => F k ∨ k = g) w w' ∧ BlkR 27 w' g (stL g b s')
/-- what both calls of the closure find -/
structure WrAt (At : World → Nat → (Nat → Prop) → DS → Prop) (w : World) (b g f p q : Nat) (F : Nat → Prop) (S : DS) (s : StM) (e : Ent) (A : Option Addr) (c : Nat) : Prop where
  at_ : At w b F S
  tab : TabAt w
  kp : KpAt w g b f p q s e A c
  nul : BlkR 39 w f [.int .i64 0]
  data : Aside (fun k => (F k ∨ k = f) ∨ k = g) w A e.d
  gF : ¬ F g
  pF : ¬ F p
  qF : ¬ F q
  fF : ¬ F f
  tF : ¬ F 0
  gf : g ≠ f
  pf : p ≠ f
  qf : q ≠ f
  tf : 0 ≠ f
  pg : p ≠ g
  qg : q ≠ g
section
variable {At : World → Nat → (Nat → Prop) → DS → Prop} (D : Disks Tryd.prog At)
include D
variable {w w' : World} {b g f p q : Nat} {F F' : Nat → Prop} {S T : DS} {s : StM} {e : Ent} {A : Option Addr} {c : Nat}
theorem WrAt.step (h : WrAt At w b g f p q F S s e A c) (B : Below w.heap.size w w') : WrAt At w' b g f p q F S s e A c :=
  { h with at_ := At_step D h.at_ B, tab := h.tab.below B (Nat.le_refl _), kp := h.kp.step B, nul := h.nul.step B, data := h.data.keep (Keep.of_below B) }
omit D in
/-- behind a call of the closure that told no error -/
theorem WrAt.next (h : WrAt At w b g f p q F S s e A c) (h1 : At w' b F' T) (hF : ∀ k, F' k → F k ∨ w.heap.size ≤ k) (fr : Frame (fun k => F k ∨ k = f) w w') (hn : BlkR 39 w' f [.int .i64 0]) : WrAt At w' b g f p q F' T s e A c := by
  have out : ∀ k, k < w.heap.size → ¬ F k → ¬ F' k := fun k hk hn x => (hF k x).elim hn fun y => by omega
  have hgl := h.kp.st.lt
  have hpl := h.kp.ps.lt
  have hql := h.kp.en.lt
  have hfl := h.nul.lt
  exact ⟨h1, h.tab.frame fr (fun x => x.elim h.tF h.tf), h.kp.frame fr (fun x => x.elim h.gF h.gf) (fun x => x.elim h.pF h.pf) (fun x => x.elim h.qF h.qf), hn,
    h.data.keep ⟨fr.mono fun k hk => .inl hk, fun k hk => hk.elim (fun y => y.elim (fun x => (hF k x).imp (fun z => .inl (.inl z)) id) fun x => .inl (.inl (.inr x))) fun x => .inl (.inr x)⟩, out g hgl h.gF, out p hpl h.pF, out q hql h.qF, out f hfl h.fF, out _ (tab_lt h.tab) h.tF, h.gf, h.pf, h.qf, h.tf, h.pg, h.qg⟩
/-- the number goes up -/
theorem WrAt.num (h : WrAt At w b g f p q F S s e A c) (N : Nat) : WrAt At (w.setCell ⟨g, 4, none⟩ (.int .i64 (N : Int))) b g f p q F S { s with num := N } e A c := by
  have fr : Frame (fun k => k = g) w (w.setCell ⟨g, 4, none⟩ (.int .i64 (N : Int))) := (Frame.refl _ _).setAt _ _ rfl
  have htg := st_notab h.tab h.kp.st
  exact ⟨at_beside D h.at_ fr h.gF, h.tab.frame fr htg, ⟨h.kp.st.set_ 4 _, h.kp.ps.frame fr h.pg, h.kp.en.frame fr h.qg⟩, h.nul.frame fr (Ne.symm h.gf),
    h.data.keep ⟨fr.mono fun k hk => .inr hk, fun k hk => .inl hk⟩, h.gF, h.pF, h.qF, h.fF, h.tF, h.gf, h.pf, h.qf, h.tf, h.pg, h.qg⟩
theorem keepJ_at (h : WrAt At w b g f p q F S s e A c) (i : Int) (ho : S.ops ≤ 990000) : Calls Tryd.prog 52 #[.int .i64 i, .func (.func 53) #[] #[], .pointer (some ⟨f, 0, none⟩), .pointer (some ⟨p, 0, none⟩), .pointer (some ⟨q, 0, none⟩)] w (KpPost At b f F (Jn.write S i e) w) :=
  stKeepJ_yes w b g f p q F (Jn.write S i e) s i e A c D h.kp h.nul h.fF h.gF h.pF h.qF h.gf h.pf h.qf (journalWrite_any D w.drew b F S i e A c h.tab (At_step D h.at_ (Below.refl _ _).drew) ho h.data.1)
theorem keepL_at (h : WrAt At w b g f p q F S s e A c) (i : Int) (ho : S.ops ≤ 990000) : Calls Tryd.prog 52 #[.int .i64 i, .func (.func 51) #[] #[], .pointer (some ⟨f, 0, none⟩), .pointer (some ⟨p, 0, none⟩), .pointer (some ⟨q, 0, none⟩)] w (KpPost At b f F (Slot.put1 S i (Blk.bytesB e.b e.n e.d)) w) :=
  stKeepL_yes w b g f p q F (Slot.put1 S i (Blk.bytesB e.b e.n e.d)) s i e A c D h.kp h.nul h.fF h.gF h.pF h.qF h.gf h.pf h.qf (stLay_any D w.drew b F S i e A c h.tab (At_step D h.at_ (Below.refl _ _).drew) ho h.data.1)
end
section
variable {At : World → Nat → (Nat → Prop) → DS → Prop} (D : Disks Tryd.prog At)
include D
/-- the variables of write: the store's pointer, the entry, the first error -/
def wr3 (w : World) (g : Nat) (k N : Nat) (A : Option Addr) (m c : Nat) : World := ((w.alloc (.cells #[.pointer (some ⟨g, 0, none⟩)] 24)).alloc (.cells #[.int .i64 (k : Int), .int .i64 (N : Int), .slice A m c] 79)).alloc (.cells #[.int .i64 0] 39)
theorem wr3_at {w : World} {b g : Nat} {F : Nat → Prop} {S : DS} {s : StM} (k N : Nat) (d : List UInt8) (A : Option Addr) (c : Nat) (ht : TabAt w) (h : At w b F S) (hT : ¬ F 0) (hb : BlkR 27 w g (stL g b s)) (hgF : ¬ F g) (hr : Aside (fun k => F k ∨ k = g) w A d) :
    WrAt At (wr3 w g k N A d.length c) b g (w.heap.size + 1 + 1) w.heap.size (w.heap.size + 1) F S s ⟨(k : Int), (N : Int), d⟩ A c ∧ Below w.heap.size w (wr3 w g k N A d.length c) := by
  obtain ⟨w1, hw1⟩ : ∃ w1, w1 = w.alloc (.cells #[.pointer (some ⟨g, 0, none⟩)] 24) := ⟨_, rfl⟩
  obtain ⟨w2, hw2⟩ : ∃ w2, w2 = w1.alloc (.cells #[.int .i64 (k : Int), .int .i64 (N : Int), .slice A d.length c] 79) := ⟨_, rfl⟩
  have hw3 : wr3 w g k N A d.length c = w2.alloc (.cells #[.int .i64 0] 39) := by rw [hw2, hw1]; rfl
  have s1 : w1.heap.size = w.heap.size + 1 := by rw [hw1]; simp
  have s2 : w2.heap.size = w.heap.size + 1 + 1 := by rw [hw2]; simp [s1]
  have B1 : Below w.heap.size w w1 := by rw [hw1]; exact (Below.refl _ _).alloc (Nat.le_refl _) _
  have B2 : Below w1.heap.size w1 w2 := by rw [hw2]; exact (Below.refl _ _).alloc (Nat.le_refl _) _
  have B3 : Below w2.heap.size w2 (wr3 w g k N A d.length c) := by rw [hw3]; exact (Below.refl _ _).alloc (Nat.le_refl _) _
  have b1 : BlkR 24 w1 w.heap.size [.pointer (some ⟨g, 0, none⟩)] := by rw [hw1]; exact BlkR.new w _ _
  have b2 : BlkR 79 w2 w1.heap.size (entL ⟨(k : Int), (N : Int), d⟩ A c) := by rw [hw2]; exact BlkR.new w1 _ _
  have b3 : BlkR 39 (wr3 w g k N A d.length c) w2.heap.size [.int .i64 0] := by rw [hw3]; exact BlkR.new w2 _ _
  have B := step_trans B1 (step_trans B2 B3)
  rw [s1] at b2
  rw [s2] at b3
  have hF := D.lt w b F S h
  have htl := tab_lt ht
  have hgl := hb.lt
  refine ⟨⟨At_step D h B, ht.below B (Nat.le_refl _), ⟨hb.step B, (b1.step B2).step B3, b2.step B3⟩, b3, ⟨hr.1.step B, fun hl ad e => ?_⟩, hgF, fun x => ?_, fun x => ?_, fun x => ?_, hT, ?_, ?_, ?_, ?_, ?_, ?_⟩, B⟩
  · obtain ⟨z1, z2⟩ := hr.2 hl ad e
    exact ⟨Nat.lt_of_lt_of_le z1 B.size, fun x => x.elim (fun y => y.elim (fun v => z2 (.inl v)) fun v => by omega) fun y => z2 (.inr y)⟩
  · have := hF _ x; omega
  · have := hF _ x; omega
  · have := hF _ x; omega
  · omega
  · omega
  · omega
  · omega
  · omega
  · omega
set_option maxRecDepth 100000 in
set_option maxHeartbeats 2000000 in
theorem stWrite_any (w : World) (b : Nat) (F : Nat → Prop) (S : DS) (g : Nat) (s : StM) (k N : Nat) (d : List UInt8) (A : Option Addr) (c : Nat) (ht : TabAt w) (h : At w b F S) (hT : ¬ F 0) (hb : BlkR 27 w g (stL g b s)) (hgF : ¬ F g) (ho : S.ops ≤ 900000) (hr : Aside (fun k => F k ∨ k = g) w A d) (hk : k < 64) (hs : s.at_ < 1024) :
    Calls Tryd.prog 33 #[.pointer (some ⟨g, 0, none⟩), .agg (entL ⟨(k : Int), (N : Int), d⟩ A c).toArray] w (WrPost At b g F (wrR S s.at_ ⟨(k : Int), (N : Int), d⟩) { s with num := if (Jn.write S s.at_ ⟨(k : Int), (N : Int), d⟩).2 = 0 then N else s.num } w) := by
  have hmf : ∀ (fn : Fn) (first cap : Array Value) (w : World), (Instr.makeFunc fn first cap).run Tryd.prog w = .ok (.func fn first cap) w := fun _ _ _ _ => rfl
  obtain ⟨hW0, hWB⟩ := wr3_at D k N d A c ht h hT hb hgF hr
  have hF := D.lt w b F S h
  have hgl := hb.lt
  obtain ⟨m, hm⟩ : ∃ m, m = d.length := ⟨_, rfl⟩
  rw [show entL ⟨(k : Int), (N : Int), d⟩ A c = [.int .i64 (k : Int), .int .i64 (N : Int), .slice A m c] by rw [hm]; rfl]
  rw [← hm] at hW0 hWB
  obtain ⟨e, he⟩ : ∃ e : Ent, e = ⟨(k : Int), (N : Int), d⟩ := ⟨_, rfl⟩
  have hops := jn_ops S s.at_ e
  rw [← he] at hW0 ⊢
  obtain ⟨W, hW⟩ : ∃ W, W = wr3 w g k N A m c := ⟨_, rfl⟩
  rw [← hW] at hW0 hWB
  have x2 := (st_rd hW0.kp.st).2.2.1
  have zJ := keepJ_at D hW0 s.at_ (by omega)
  unfold wr3 at hW
  have HL := Lib.hid (And.intro hF hgl)
  clear hF hgl ht h hT hb hgF hr
  by_cases hj : (Jn.write S s.at_ e).2 = 0
  · rw [if_pos hj]
    have hR : wrR S s.at_ e = St.lay (Jn.write S s.at_ e).1 s.at_ e := by unfold wrR; rw [if_pos hj]
    rw [hR]
    unfold KpPost at zJ
    rw [hj] at zJ
    obtain ⟨T, hTT⟩ : ∃ x, x = (Jn.write S s.at_ e).1 := ⟨_, rfl⟩
    have hopT : T.ops ≤ 990000 := by rw [hTT]; omega
    rw [← hTT] at zJ ⊢
    have hRR : St.lay T s.at_ e = Slot.put1 T ((s.at_ : Int) + 1 + (k : Int)) (Blk.bytesB e.b e.n e.d) := by rw [he]; rfl
    rw [hRR]
    have zs := fun w => sectorOf_any s.at_ k w (by omega) (by omega)
    obtain ⟨i, hi⟩ : ∃ i, i = (s.at_ : Int) + 1 + (k : Int) := ⟨_, rfl⟩
    rw [← hi] at zs ⊢
    have zL := fun {w2 F2 s2} (h2 : WrAt At w2 b g (w.heap.size + 1 + 1) w.heap.size (w.heap.size + 1) F2 T s2 e A c) => keepL_at D (h2.step D (Below.refl _ _).drew) i hopT
    unfold KpPost at zL
    obtain ⟨R, hRq⟩ : ∃ x, x = Slot.put1 T i (Blk.bytesB e.b e.n e.d) := ⟨_, rfl⟩
    rw [← hRq] at zL ⊢
    unfold WrPost
    have KX : Hid (∀ w' s', KpAt w' g b (w.heap.size + 1 + 1) w.heap.size (w.heap.size + 1) s' e A c → w'.cell? ⟨w.heap.size, 0, none⟩ = some (.pointer (some ⟨g, 0, none⟩)) ∧ w'.cell? ⟨g, 2, none⟩ = some (.int .i64 (s'.at_ : Int)) ∧ w'.cell? ⟨w.heap.size + 1, 0, none⟩ = some (.int .i64 (k : Int)) ∧ w'.cell? ⟨w.heap.size + 1, 1, none⟩ = some (.int .i64 (N : Int))) := Lib.hid fun w' s' hk' => by
      obtain ⟨_, _, y2, _⟩ := st_rd hk'.st
      obtain ⟨e0, e1, _⟩ := ent_cells hk'.en
      rw [he] at e0 e1
      exact ⟨hk'.ps.cell (k := 0) rfl, y2, e0, e1⟩
    have HK := Lib.hid hW0
    have HB := Lib.hid hWB
    rw [hW] at x2
    clear hR hRR hRq hTT hops hW0 hj he hm hi hopT hWB
    go_enter Tryd.func33, Tryd.ntmps33
    go_wp2_with (first
      | (go_at_call 52; rw [← hW]; refine zJ.mono ?_; (rintro en w1 ⟨F1, rfl, h1, hF1, fr1, b1⟩; clear hW; have c1 := b1.cell (k := 0) rfl; have n1 := HK.out.next h1 hF1 fr1 b1; obtain ⟨y0, y2, y3, y4⟩ := KX.out w1 s n1.kp; have z4 := n1.kp.st.frozen 4; have v4 := (st_rd n1.kp.st).2.2.2.2.1; have m1 := n1.num D N; have f1 := m1.nul.cell (k := 0) rfl; obtain ⟨u0, u2, u3, u4⟩ := KX.out _ _ m1.kp; have zk := zL m1; have n1 := Lib.hid n1; have m1 := Lib.hid m1; have fr1 := Lib.hid fr1; have b1 := Lib.hid b1)))
    first
    | go_region_held3 (fun w' => w'.cell? ⟨w.heap.size, 0, none⟩ = some (.pointer (some ⟨g, 0, none⟩)) ∧ w'.cell? ⟨g, 2, none⟩ = some (.int .i64 (s.at_ : Int)) ∧ w'.cell? ⟨w.heap.size + 1, 0, none⟩ = some (.int .i64 (k : Int))) (first | assumption | exact ⟨u0, u2, u3⟩ | exact J1) (first
      | (go_at_call 38; refine (zs _).mono ?_; (rintro e w' ⟨rfl, rfl⟩))
      | (go_at_call 52; refine zk.mono ?_; (rintro en w2 ⟨F2, rfl, h2, hF2, fr2, b2⟩; have M := m1.out.step D (Below.refl _ _).drew; have k2 := M.kp.frame fr2 (fun x => x.elim M.gF M.gf) (fun x => x.elim M.pF M.pf) (fun x => x.elim M.qF M.qf); obtain ⟨r0, r2, r3, r4⟩ := KX.out w2 _ k2; have J1 := And.intro r0 (And.intro r2 r3); have q2 := b2.cell (k := 0) rfl; have b2 := Lib.hid b2; have k2 := Lib.hid k2)))
    | fail
    go_wp2
    go_ret
    obtain ⟨hF, hgl⟩ := HL.out
    have hs0 := HB.out.size
    have hs1 := fr1.out.size
    refine ⟨F2, rfl, h2, fun j hj => ?_, ?_, k2.out.st⟩
    · rcases hF2 j hj with y | y
      · exact (hF1 j y).imp id fun z => by omega
      · have y : w1.heap.size ≤ j := (by simpa using y)
        exact .inr (by omega)
    · have g1 : Frame (fun k => F k ∨ k = g) w w1 := (Frame.of_below HB.out).trans fr1.out fun j hj => hj.elim (fun x => .inl (.inl x)) fun x => .inr (by omega)
      have g2 := g1.setAt ⟨g, 4, none⟩ (.int .i64 (N : Int)) (.inr rfl)
      have g3 : Frame (fun k => F k ∨ k = g) w (w1.setCell ⟨g, 4, none⟩ (.int .i64 (N : Int))).drew := ⟨g2.os, g2.tape, g2.output, g2.size, g2.block⟩
      refine g3.trans fr2 fun j hj => hj.elim (fun x => (hF1 j x).imp .inl fun z => by omega) fun x => .inr (by omega)
  · rw [if_neg hj]
    have hR : wrR S s.at_ e = Jn.write S s.at_ e := by unfold wrR; rw [if_neg hj]
    rw [hR]
    obtain ⟨x, hx⟩ : ∃ x, x = (Jn.write S s.at_ e).2 := ⟨_, rfl⟩
    obtain ⟨T, hTT⟩ : ∃ x, x = (Jn.write S s.at_ e).1 := ⟨_, rfl⟩
    unfold KpPost at zJ
    unfold WrPost
    rw [← hx] at hj zJ ⊢
    rw [← hTT] at zJ ⊢
    have hne : (x == 0) = false := by simpa using hj
    have zs := fun w => sectorOf_any s.at_ k w (by omega) (by omega)
    have zn := fun w1 i (v1 v2 : Value) h1 => stKeepL_no w1 (w.heap.size + 1 + 1) v1 v2 i x hj h1
    have KX : Hid (∀ w', Frame (fun k => F k ∨ k = w.heap.size + 1 + 1) W w' → w'.cell? ⟨w.heap.size, 0, none⟩ = some (.pointer (some ⟨g, 0, none⟩)) ∧ w'.cell? ⟨g, 2, none⟩ = some (.int .i64 (s.at_ : Int)) ∧ w'.cell? ⟨w.heap.size + 1, 0, none⟩ = some (.int .i64 (k : Int))) := Lib.hid fun w' fr => by
      have hk' := hW0.kp.frame fr (fun x => x.elim hW0.gF hW0.gf) (fun x => x.elim hW0.pF hW0.pf) (fun x => x.elim hW0.qF hW0.qf)
      obtain ⟨_, _, y2, _⟩ := st_rd hk'.st
      obtain ⟨e0, _, _⟩ := ent_cells hk'.en
      rw [he] at e0
      exact ⟨hk'.ps.cell (k := 0) rfl, y2, e0⟩
    have HK := Lib.hid hW0
    have HB := Lib.hid hWB
    rw [hW] at x2
    clear hR hx hTT hops hW0 hj he hm hWB
    go_enter Tryd.func33, Tryd.ntmps33
    go_wp2_with (first
      | (go_at_call 52; rw [← hW]; refine zJ.mono ?_; (rintro en w1 ⟨F1, rfl, h1, hF1, fr1, b1⟩; clear hW; have c1 := b1.cell (k := 0) rfl; obtain ⟨y0, y2, y3⟩ := KX.out w1 fr1; have zk := fun i v1 v2 => zn w1.drew i v1 v2 b1; have fr1 := Lib.hid fr1; have b1 := Lib.hid b1)))
    first
    | go_region_held3 (fun w' => w'.cell? ⟨w.heap.size, 0, none⟩ = some (.pointer (some ⟨g, 0, none⟩)) ∧ w'.cell? ⟨g, 2, none⟩ = some (.int .i64 (s.at_ : Int)) ∧ w'.cell? ⟨w.heap.size + 1, 0, none⟩ = some (.int .i64 (k : Int))) (first | assumption | exact ⟨y0, y2, y3⟩) (first
      | (go_at_call 38; refine (zs _).mono ?_; (rintro e w' ⟨rfl, rfl⟩))
      | (go_at_call 52; refine (zk _ _ _).mono ?_; (rintro en w2 ⟨rfl, rfl⟩)))
    | fail
    go_wp2
    go_ret
    obtain ⟨hF, hgl⟩ := HL.out
    have hs0 := HB.out.size
    have h0 := HK.out
    have k1 := h0.kp.frame fr1.out (fun x => x.elim h0.gF h0.gf) (fun x => x.elim h0.pF h0.pf) (fun x => x.elim h0.qF h0.qf)
    refine ⟨F1, rfl, At_step D h1 (Below.refl _ _).drew, fun j hj => (hF1 j hj).imp id fun z => by omega, ?_, k1.st⟩
    have g1 : Frame (fun k => F k ∨ k = g) w w1 := (Frame.of_below HB.out).trans fr1.out fun j hj => hj.elim (fun x => .inl (.inl x)) fun x => .inr (by omega)
    exact ⟨g1.os, g1.tape, g1.output, g1.size, g1.block⟩
end
end Go.Proofs.YtlchpolheciadaaDoor
/-
  The program's Put. Conditions: a disk's methods do what the document says; at most so many changes; the table of crc lies as the program's text lays it, beside the disk.
-/
namespace Go.Proofs.YtlchpolheciadaaDoor
open Go.RowKit Fix

theorem getS_same {S : DS} {s : StM} {i : Int} (h : chkE S s i = 0) : St.getS S s = s := by
  have h1 := (chk_zero h).1
  unfold St.getS
  rw [if_neg (by rw [h1]; decide)]
theorem put_no {S : DS} {s : StM} {i : Int} (d : List UInt8) (h : chkE S s i ≠ 0) : St.putD S s i d = (S, chkE S s i) ∧ St.putS S s i d = St.getS S s := by
  unfold chkE at h ⊢
  unfold St.putD St.putS St.getS
  split
  · exact ⟨rfl, rfl⟩
  · rename_i ho
    rw [if_neg ho] at h
    split
    · exact ⟨rfl, rfl⟩
    · rename_i hi
      rw [if_neg hi] at h
      exact absurd rfl h
theorem put_len {S : DS} {s : StM} {i : Int} {d : List UInt8} (h : chkE S s i = 0) (hd : d.length ≠ 32) : St.putD S s i d = (S, 2) ∧ St.putS S s i d = s := by
  obtain ⟨h1, h2⟩ := chk_zero h
  unfold St.putD St.putS
  rw [if_neg (by rw [h1]; decide), if_neg h2, if_pos hd, if_neg (by rw [h1]; decide), if_neg h2, if_pos hd]
  exact ⟨rfl, rfl⟩
theorem put_full {S : DS} {s : StM} {i : Int} {d : List UInt8} (h : chkE S s i = 0) (hd : d.length = 32) (hn : 1099511627776 ≤ s.num) : St.putD S s i d = (S, 8) ∧ St.putS S s i d = s := by
  obtain ⟨h1, h2⟩ := chk_zero h
  unfold St.putD St.putS
  rw [if_neg (by rw [h1]; decide), if_neg h2, if_neg (by rw [hd]; decide), if_pos hn, if_neg (by rw [h1]; decide), if_neg h2, if_neg (by rw [hd]; decide), if_pos hn]
  exact ⟨rfl, rfl⟩
theorem put_go {S : DS} {s : StM} {i : Int} {d : List UInt8} (h : chkE S s i = 0) (hd : d.length = 32) (hn : ¬ 1099511627776 ≤ s.num) : St.putD S s i d = wrR S s.at_ ⟨i, ((s.num + 1 : Nat) : Int), d⟩ ∧
    St.putS S s i d = { s with num := if (Jn.write S s.at_ ⟨i, ((s.num + 1 : Nat) : Int), d⟩).2 = 0 then s.num + 1 else s.num, broken := (wrR S s.at_ ⟨i, ((s.num + 1 : Nat) : Int), d⟩).2 == 10 } := by
  obtain ⟨h1, h2⟩ := chk_zero h
  have e : St.putD S s i d = wrR S s.at_ ⟨i, ((s.num + 1 : Nat) : Int), d⟩ := by
    unfold St.putD wrR
    rw [if_neg (by rw [h1]; decide), if_neg h2, if_neg (by rw [hd]; decide), if_neg hn]
  refine ⟨e, ?_⟩
  unfold St.putS
  rw [e, if_neg (by rw [h1]; decide), if_neg h2, if_neg (by rw [hd]; decide), if_neg hn]
  rfl
section
variable {At : World → Nat → (Nat → Prop) → DS → Prop} (D : Disks Tryd.prog At) (TI : Tight At)
include D TI
set_option maxRecDepth 100000 in
set_option maxHeartbeats 2000000 in
theorem stPut_any (w : World) (b : Nat) (F : Nat → Prop) (S : DS) (g : Nat) (G : Nat → Prop) (s : StM) (i : Int) (A : Option Addr) (d : List UInt8) (c : Nat) (ht : TabAt w) (h : At w b F S) (hs : StAt w g G b s) (hFG : ∀ k, ¬ (F k ∧ G k)) (ho : S.ops ≤ 900000) (hr : Aside (fun k => F k ∨ G k) w A d) :
    Calls Tryd.prog 11 #[.pointer (some ⟨g, 0, none⟩), .int .i64 i, .slice A d.length c] w (StPut At StAt b F S g G s i d w) := by
  obtain ⟨F0, h0, hF0, hT⟩ := TI w b F S ht h
  obtain ⟨hb, hG, hf⟩ := hs
  have hG' : G g := (hG g).2 rfl
  have hgF : ¬ F0 g := fun x => hFG g ⟨hF0 g x, hG'⟩
  have hgt := st_notab ht hb
  have hgl := hb.lt
  have zc := stCheck_any D w b F0 S g s i h0 hb
  unfold ChkPost at zc
  unfold StPut
  have HB : Hid (∀ w', Frame (fun k => F0 k ∨ k = g) w w' → Frame (fun k => F k ∨ G k) w w') := Lib.hid fun w' fr => fr.mono fun k (hk : F0 k ∨ k = g) => hk.elim (fun x => .inl (hF0 k x)) fun e => .inr (by rw [e]; exact hG')
  have HN := Lib.hid (show ∀ k, G k → ¬ F0 k from fun k hk x => hFG k ⟨hF0 k x, hk⟩)
  by_cases hc : chkE S s i = 0
  · rw [getS_same hc, hc] at zc
    have HH := Lib.hid (And.intro h0 (And.intro hgF (And.intro ht (And.intro hgt (And.intro hG (And.intro hf (And.intro hT (And.intro hF0 (And.intro hgl (D.lt w b F0 S h0))))))))))
    have HA : Hid (∀ w1, Frame (fun k => k = g) w w1 → BlkR 27 w1 g (stL g b s) → TabAt w1 ∧ At w1 b F0 S ∧ Aside (fun k => F0 k ∨ k = g) w1 A d ∧ w1.cell? ⟨g, 4, none⟩ = some (.int .i64 (s.num : Int)) ∧ w1.frozen? ⟨g, 5, none⟩ = false) := Lib.hid fun w1 fr b1 => by
      have ha : Aside (fun k => F0 k ∨ k = g) w A d := ⟨hr.1, fun hl ad e => ⟨(hr.2 hl ad e).1, fun x => (hr.2 hl ad e).2 (x.imp (hF0 _) fun e => (hG _).2 e)⟩⟩
      exact ⟨ht.frame fr hgt, at_beside D h0 fr hgF, ha.keep ⟨fr.mono fun k hk => .inr hk, fun k hk => .inl hk⟩, (st_rd b1).2.2.2.2.1, b1.frozen 5⟩
    have hrange := (chk_zero hc).2
    obtain ⟨k, rfl⟩ : ∃ k : Nat, i = (k : Int) := ⟨i.toNat, by omega⟩
    have hk64 : k < 64 := by have := hf.n64; omega
    have hat : s.at_ < 1024 := by have := hf.far; omega
    by_cases hd : d.length = 32
    · by_cases hn : 1099511627776 ≤ s.num
      · rw [(put_full hc hd hn).1, (put_full hc hd hn).2]
        have he : s.num = 1099511627776 := by have := hf.num; omega
        rw [hd]
        have HE := Lib.hid he
        clear h0 hgF ht hgt hG hf hT hF0 hb h hFG ho hr hG' hc hrange hk64 hat hd hn he hgl
        go_enter Tryd.func11, Tryd.ntmps11
        go_wp2_with (go_at_call 28; refine zc.mono ?_; (rintro e w1 ⟨rfl, b1, fr1⟩; obtain ⟨t1, h1, a1, x4, z5⟩ := HA.out w1 fr1 b1; rw [HE.out] at x4; have x4 : w1.cell? ⟨g, 4, none⟩ = some (.int .i64 1099511627776) := x4; have b1 := Lib.hid b1))
        go_ret
        obtain ⟨h0, hgF, ht, hgt, hG, hf, hT, hF0, hgl, hlt⟩ := HH.out
        exact ⟨F0, G, rfl, h1, ⟨b1.out, hG, hf⟩, fun k x => HN.out k x.2 x.1, fun k x => .inl (hF0 k x), fun k x => .inl x, HB.out w1 (fr1.mono fun k e => .inr e)⟩
      · rw [(put_go hc hd hn).1, (put_go hc hd hn).2]
        have hw1 : IntKind.i64.wrap ((s.num : Int) + 1) = (s.num : Int) + 1 := IntWalk.i64_in _ (by omega)
        have hne : ((s.num : Int) == 1099511627776) = false := by simp; omega
        have zw := fun w1 t a e r => stWrite_any D w1 b F0 S g s k (s.num + 1) d A c t a hT e hgF ho r hk64 hat
        rw [show ((s.num + 1 : Nat) : Int) = (s.num : Int) + 1 by omega] at zw ⊢
        unfold entL at zw
        rw [show (({ b := (k : Int), n := (s.num : Int) + 1, d := d } : Ent).b) = (k : Int) from rfl, show (({ b := (k : Int), n := (s.num : Int) + 1, d := d } : Ent).n) = (s.num : Int) + 1 from rfl, show (({ b := (k : Int), n := (s.num : Int) + 1, d := d } : Ent).d) = d from rfl] at zw
        have hfit : ∀ (n : Nat) y, n ≤ s.num + 1 → StFit { s with num := n, broken := y } := fun n y hny => ⟨hf.n1, hf.n64, hf.far, by show n ≤ _; omega⟩
        obtain ⟨R, hR⟩ : ∃ R, R = wrR S (s.at_ : Int) ⟨(k : Int), (s.num : Int) + 1, d⟩ := ⟨_, rfl⟩
        obtain ⟨n', hn'⟩ : ∃ n', n' = if (Jn.write S (s.at_ : Int) ⟨(k : Int), (s.num : Int) + 1, d⟩).2 = 0 then s.num + 1 else s.num := ⟨_, rfl⟩
        have hnl : n' ≤ s.num + 1 := by rw [hn']; split <;> omega
        rw [← hR, ← hn'] at zw ⊢
        have HF := Lib.hid (hfit n' (R.2 == 10) hnl)
        unfold WrPost at zw
        rw [hd] at zw ⊢
        obtain ⟨x, hx⟩ : ∃ x, x = (s.num : Int) := ⟨_, rfl⟩
        rw [← hx] at zw hw1 hne HA
        obtain ⟨y, hy⟩ : ∃ y, y = (R.2 == 10) := ⟨_, rfl⟩
        rw [← hy] at HF ⊢
        replace hy := hy.symm
        clear h0 hgF ht hgt hG hf hT hF0 hb h hFG ho hr hG' hc hrange hk64 hat hd hn hgl hfit hR hn' hnl hx
        go_enter Tryd.func11, Tryd.ntmps11
        go_wp2_with (first
          | (go_at_call 28; refine zc.mono ?_; (rintro e w1 ⟨rfl, b1, fr1⟩; obtain ⟨t1, h1, a1, x4, z5⟩ := HA.out w1 fr1 b1; have zv := zw w1 t1 h1 b1 a1; have b1 := Lib.hid b1))
          | (go_at_call 33; refine zv.mono ?_; (rintro e w2 ⟨F2, rfl, h2, hF2, fr2, b2⟩; have z5 := b2.frozen 5; have v5 := (st_rd b2).2.2.2.2.2; have b2 := Lib.hid b2)))
        go_ret
        obtain ⟨h0, hgF, ht, hgt, hG, hf, hT, hF0, hgl, hlt⟩ := HH.out
        have hgl1 := b1.out.lt
        have hs1 := fr1.size
        have nF2 : ¬ F2 g := fun x => (hF2 g x).elim hgF fun z => by omega
        have fr : Frame (fun k => F0 k ∨ k = g) w w2 := (fr1.mono fun k e => .inr e).trans fr2 fun k x => .inl x
        refine ⟨F2, G, rfl, at_beside D h2 ((Frame.refl _ _).setAt _ _ rfl) nF2, ⟨b2.out.set_ 5 (.bool y), hG, HF.out⟩, fun k x => nF2 ((hG k).1 x.2 ▸ x.1), fun k x => (hF2 k x).elim (fun z => .inl (hF0 k z)) fun z => .inr (by omega), fun k x => .inl x, HB.out _ (fr.setAt _ _ (.inr rfl))⟩
    · rw [(put_len hc hd).1, (put_len hc hd).2]
      have hne : ((d.length : Int) != 32) = true := by simp; omega
      obtain ⟨m, hm⟩ : ∃ m, m = d.length := ⟨_, rfl⟩
      rw [← hm] at hne ⊢
      clear h0 hgF ht hgt hG hf hT hF0 hb h hFG ho hr hG' hc hrange hk64 hat hd hgl hm
      go_enter Tryd.func11, Tryd.ntmps11
      go_wp2_with (go_at_call 28; refine zc.mono ?_; (rintro e w1 ⟨rfl, b1, fr1⟩; obtain ⟨t1, h1, a1, x4, z5⟩ := HA.out w1 fr1 b1; have b1 := Lib.hid b1))
      go_ret
      obtain ⟨h0, hgF, ht, hgt, hG, hf, hT, hF0, hgl, hlt⟩ := HH.out
      exact ⟨F0, G, rfl, h1, ⟨b1.out, hG, hf⟩, fun k x => HN.out k x.2 x.1, fun k x => .inl (hF0 k x), fun k x => .inl x, HB.out w1 (fr1.mono fun k e => .inr e)⟩
  · rw [(put_no d hc).1, (put_no d hc).2]
    have hf' := getS_fit (S := S) hf
    obtain ⟨s', hs'⟩ : ∃ s', s' = St.getS S s := ⟨_, rfl⟩
    rw [← hs'] at zc hf' ⊢
    obtain ⟨E, hE⟩ : ∃ E, E = chkE S s i := ⟨_, rfl⟩
    rw [← hE] at zc hc ⊢
    have hne : (E != 0) = true := by simpa using hc
    have HH := Lib.hid (And.intro h0 (And.intro hgF (And.intro hG (And.intro hf' hF0))))
    obtain ⟨m, hm⟩ : ∃ m, m = d.length := ⟨_, rfl⟩
    rw [← hm]
    clear h0 hgF ht hgt hG hf hT hF0 hb h hFG ho hr hG' hc hgl hm hf' hE hs'
    go_enter Tryd.func11, Tryd.ntmps11
    go_wp2_with (go_at_call 28; refine zc.mono ?_; (rintro e w1 ⟨rfl, b1, fr1⟩; have b1 := Lib.hid b1))
    go_ret
    obtain ⟨h0, hgF, hG, hf', hF0⟩ := HH.out
    exact ⟨F0, G, rfl, at_beside D h0 fr1 hgF, ⟨b1.out, hG, hf'⟩, fun k x => HN.out k x.2 x.1, fun k x => .inl (hF0 k x), fun k x => .inl x, HB.out w1 (fr1.mono fun k e => .inr e)⟩
end
end Go.Proofs.YtlchpolheciadaaDoor
