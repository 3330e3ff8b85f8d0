/-
  block.Read: what it tells. Conditions: the table of crc lies as the program's text lays it; the bytes can be read.
-/
import Derived.Test.YtmbloclkinghnaaDoorBkBytes
namespace Go.Proofs.YtmbloclkinghnaaDoor
open Go.RowKit Fix

theorem bkNum (l : List UInt8) (h : l.length = 64) : getN l 0 8 = Blk.num l := by
  unfold getN inN inR Blk.num
  rw [h]
  rfl
def BrPost (a : Int) (l : List UInt8) (w : World) (e : Ending) (w' : World) : Prop :=
  ∃ A c, e = .returned (.tuple #[.int .i64 (Blk.readN a l : Int), .slice A (Blk.readB a l).length c, .int .i64 (Blk.readE a l)]) ∧ c ≤ 9223372036854775807 ∧ Whole w' w.heap.size A c (Blk.readB a l) ∧ Below w.heap.size w w'
theorem BrPost.none_ {a : Int} {l : List UInt8} {x : Int} {w w' : World} (h : Blk.right a l = false) (hx : Blk.readE a l = x) (hB : Below w.heap.size w w') : BrPost a l w (.returned (.tuple #[.int .i64 0, .slice none 0 0, .int .i64 x])) w' :=
  ⟨none, 0, by rw [hx]; simp [Blk.readN, Blk.readB, h], by decide, by simp only [Blk.readB, h]; exact Whole.none_, hB⟩
theorem cut32 (ad : Addr) (c : Nat) (hc : 42 ≤ c) (W : World) : (Instr.slice 22 (.slice (some ad) 64 c) (some (.int .i64 10)) (some (.int .i64 42)) none).run Tryd.prog W = .ok (.slice (some (ad.add 10)) 32 (c - 10)) W := by
  have := cut_both (some ad) 64 c 10 32 (by omega) W
  rwa [show cutA (some ad) 10 c = some (ad.add 10) by unfold cutA; rw [if_neg (by omega)]; rfl, show ((10 : Nat) : Int) = 10 from rfl, show (10 : Int) + ((32 : Nat) : Int) = 42 from rfl] at this
theorem bk_cut {w : World} {ad : Addr} {c : Nat} {l : List UInt8} (hl : l.length ≤ c) (hc : 42 ≤ c) (h : BytesAt w w.heap.size (some ad) l) : BytesAt w w.heap.size (some (ad.add 10)) (Blk.dat l) := by
  have := (h.drop 10 c (by omega)).take 32
  rwa [show cutA (some ad) 10 c = some (ad.add 10) by unfold cutA; rw [if_neg (by omega)]; rfl] at this
set_option maxRecDepth 100000 in
set_option maxHeartbeats 2000000 in
theorem blockRead_any (a : Int) (A : Option Addr) (l : List UInt8) (m c : Nat) (hm : l.length = m) (hmc : m ≤ c) (w : World) (ht : TabAt w) (hr : BytesAt w w.heap.size A l) : Calls Tryd.prog 12 #[.slice A m c, .int .i64 a] w (BrPost a l w) := by
  by_cases h64 : m = 64
  · subst h64
    have hA : ∃ ad, A = some ad := by
      obtain ⟨ad, e, _⟩ := hr (by rintro rfl; simp at hm)
      exact ⟨ad, e⟩
    obtain ⟨ad, rfl⟩ := hA
    have e64 := Lib.hid hm
    have q10 := fun W => cut32 ad c (by omega) W
    have zg : ∀ w1, BytesAt w1 w1.heap.size (some ad) l → _ := fun w1 h => getLong_any (some ad) l c 0 w1 (by rw [e64.out]; exact hmc) (by rw [e64.out]; decide) h
    simp only [bkNum l hm] at zg
    rw [hm] at zg
    simp only [flt, show getE 64 0 8 = 0 from rfl, show getA 64 0 8 = 0 from rfl] at zg
    have hdl := Blk.dat_length hm
    have hcut : ∀ w1, BytesAt w1 w1.heap.size (some ad) l → BytesAt w1 w1.heap.size (some (ad.add 10)) (Blk.dat l) := fun w1 h => bk_cut (c := c) (by omega) (by omega) h
    have zc : ∀ w1, BytesAt w1 w1.heap.size (some (ad.add 10)) (Blk.dat l) → _ := fun w1 h => clone_any (Blk.dat l) (ad.add 10) 32 (c - 10) hdl (by decide) w1 h
    obtain ⟨nn, hnn⟩ : ∃ x, IntKind.i64.wrap (Blk.num l : Int) = x := ⟨_, rfl⟩
    have zb := fun w1 A1 c1 t h => blockBytes_any a nn A1 (Blk.dat l) 32 c1 hdl w1 t h
    unfold BbPost at zb
    have N1 := fun h => Blk.not_right a l nn hnn h
    have N2 := fun h => Blk.num_wrap a l nn hm hnn h
    replace hcut := Lib.hid hcut
    by_cases hz : Blk.bytesE a nn (Blk.dat l) = 0
    · have en := N2 hz
      have ez : Blk.bytesE a (Blk.num l) (Blk.dat l) = 0 := by rw [← en]; exact hz
      obtain ⟨ha0, _⟩ := (Blk.bytesE_zero _ _ _).1 hz
      obtain ⟨b, rfl⟩ : ∃ b : Nat, a = (b : Int) := ⟨a.toNat, by omega⟩
      have e2 : Blk.bytesB (b : Int) nn (Blk.dat l) = Blk.sect b (Blk.num l) (Blk.dat l) := by rw [en]; exact Blk.bytesB_good b (Blk.num l) (Blk.dat l) ez
      have hsl := Blk.sect_length b (Blk.num l) (Blk.dat l) hdl
      rw [hz, e2, hsl] at zb
      have HS := Lib.hid hsl
      rw [en] at zb hnn
      by_cases hs : Blk.sect b (Blk.num l) (Blk.dat l) = l
      · have hright : Blk.right (b : Int) l = true := by
          rw [Blk.right_iff, Int.toNat_natCast]
          exact ⟨hm, ez, hs⟩
        have hp : ∀ A' c' w', c' ≤ 9223372036854775807 → Whole w' w.heap.size A' c' (Blk.dat l) → Below w.heap.size w w' → BrPost (b : Int) l w (.returned (.tuple #[.int .i64 (Blk.num l : Int), .slice A' 32 c', .int .i64 0])) w' := fun A' c' w' h1 h2 h3 =>
          ⟨A', c', by rw [(Blk.readE_zero _ _).2 hright]; simp only [Blk.readN, Blk.readB, hright, if_true]; rw [hdl], h1, by simp only [Blk.readB, hright, if_true]; exact h2, h3⟩
        have zq2 : ∀ w1 A1 c1, BytesAt w1 w1.heap.size (some ad) l → BytesAt w1 w1.heap.size A1 (Blk.sect b (Blk.num l) (Blk.dat l)) → _ := fun w1 A1 c1 h1 h2 => equal_any (some ad) l 64 c e64.out A1 (Blk.sect b (Blk.num l) (Blk.dat l)) 64 c1 HS.out w1 h1 h2 true (by simpa using hs.symm)
        replace hp := Lib.hid hp
        obtain ⟨n, hn⟩ : ∃ n, n = Blk.num l := ⟨_, rfl⟩
        obtain ⟨d, hd⟩ : ∃ x, x = Blk.dat l := ⟨_, rfl⟩
        rw [← hn, ← hd] at zb zq2 hp
        rw [← hn] at hnn zg
        rw [← hd] at zc hcut
        obtain ⟨s, hsx⟩ : ∃ x, x = Blk.sect b n d := ⟨_, rfl⟩
        rw [← hsx] at zb zq2
        clear hm hmc hn hd hs hright hsl hdl hz ez en e2 ha0 N1 N2 hsx
        go_enter Tryd.func12, Tryd.ntmps12
        go_wp2_with (first
          | (go_at_call 27; ((with_reducible refine (zq2 w6 A6 c6 r6 s6).mono ?_); (rintro e w7 ⟨rfl, rfl⟩)))
          | (go_at_call 25; refine (zg _ hr).mono ?_; (rintro e w3 ⟨rfl, B3⟩; have B4' := step_trans B3 (fltBelow w3 0 0); have rr4 := (hr.step B3).step (fltBelow w3 0 0); have r4 := hcut.out _ rr4))
          | (go_at_call 26; refine (zc _ r4).mono ?_; (rintro e w5 ⟨A5, c5, rfl, hc5, o5, B5⟩; have B5' := step_trans B4' B5; have t5 := ht.below B5' (Nat.le_refl _); have r5 := rr4.step B5; have o5 := o5.less B4'.size))
          | (go_at_call 10; (with_reducible refine (zb w5 A5 c5 t5 o5.bytes).mono ?_); (rintro e w6 ⟨A6, c6, rfl, hc6, o6, B6⟩; have r6 := r5.step B6; have s6 := o6.bytes; have HC := Lib.hid (And.intro hc5 (And.intro (o5.step B6) (step_trans B5' B6))); clear o5 o6)))
        go_ret3
        exact hp.out A5 c5 w6 HC.out.1 HC.out.2.1 HC.out.2.2
      · have hright : Blk.right (b : Int) l = false := by
          rw [← Bool.not_eq_true, Blk.right_iff, Int.toNat_natCast]
          exact fun x => hs x.2.2
        have hp : ∀ w', Below w.heap.size w w' → BrPost (b : Int) l w (.returned (.tuple #[.int .i64 0, .slice none 0 0, .int .i64 11])) w' := fun w' hB => BrPost.none_ hright (Blk.readE_bad hm hright) hB
        have zq2 : ∀ w1 A1 c1, BytesAt w1 w1.heap.size (some ad) l → BytesAt w1 w1.heap.size A1 (Blk.sect b (Blk.num l) (Blk.dat l)) → _ := fun w1 A1 c1 h1 h2 => equal_any (some ad) l 64 c e64.out A1 (Blk.sect b (Blk.num l) (Blk.dat l)) 64 c1 HS.out w1 h1 h2 false (by simpa using fun e => hs e.symm)
        replace hp := Lib.hid hp
        obtain ⟨n, hn⟩ : ∃ n, n = Blk.num l := ⟨_, rfl⟩
        obtain ⟨d, hd⟩ : ∃ x, x = Blk.dat l := ⟨_, rfl⟩
        rw [← hn, ← hd] at zb zq2
        rw [← hn] at hnn zg
        rw [← hd] at zc hcut
        obtain ⟨s, hsx⟩ : ∃ x, x = Blk.sect b n d := ⟨_, rfl⟩
        rw [← hsx] at zb zq2
        clear hm hmc hn hd hs hright hsl hdl hz ez en e2 ha0 N1 N2 hsx
        go_enter Tryd.func12, Tryd.ntmps12
        go_wp2_with (first
          | (go_at_call 27; ((with_reducible refine (zq2 w6 A6 c6 r6 s6).mono ?_); (rintro e w7 ⟨rfl, rfl⟩)))
          | (go_at_call 25; refine (zg _ hr).mono ?_; (rintro e w3 ⟨rfl, B3⟩; have B4' := step_trans B3 (fltBelow w3 0 0); have rr4 := (hr.step B3).step (fltBelow w3 0 0); have r4 := hcut.out _ rr4))
          | (go_at_call 26; refine (zc _ r4).mono ?_; (rintro e w5 ⟨A5, c5, rfl, hc5, o5, B5⟩; have B5' := step_trans B4' B5; have t5 := ht.below B5' (Nat.le_refl _); have r5 := rr4.step B5; have o5 := o5.less B4'.size))
          | (go_at_call 10; (with_reducible refine (zb w5 A5 c5 t5 o5.bytes).mono ?_); (rintro e w6 ⟨A6, c6, rfl, hc6, o6, B6⟩; have r6 := r5.step B6; have s6 := o6.bytes; have HC := Lib.hid (step_trans B5' B6); clear o5 o6)))
        go_ret3
        exact hp.out _ HC.out
    · have hright := N1 hz
      have hp : ∀ w', Below w.heap.size w w' → BrPost a l w (.returned (.tuple #[.int .i64 0, .slice none 0 0, .int .i64 11])) w' := fun w' hB => BrPost.none_ hright (Blk.readE_bad hm hright) hB
      replace hp := Lib.hid hp
      obtain ⟨be, hbe⟩ : ∃ n, n = Blk.bytesE a nn (Blk.dat l) := ⟨_, rfl⟩
      obtain ⟨bb, hbb⟩ : ∃ n, n = Blk.bytesB a nn (Blk.dat l) := ⟨_, rfl⟩
      rw [← hbe, ← hbb] at zb
      rw [← hbe] at hz
      have hne : (be != 0) = true := by simpa using hz
      obtain ⟨n, hn⟩ : ∃ n, n = Blk.num l := ⟨_, rfl⟩
      obtain ⟨d, hd⟩ : ∃ x, x = Blk.dat l := ⟨_, rfl⟩
      rw [← hn] at hnn zg
      rw [← hd] at zc hcut zb
      clear hm hmc hn hd hright hdl hz N1 N2 hbe hbb
      go_enter Tryd.func12, Tryd.ntmps12
      go_wp2_with (first
        | (go_at_call 25; refine (zg _ hr).mono ?_; (rintro e w3 ⟨rfl, B3⟩; have B4' := step_trans B3 (fltBelow w3 0 0); have rr4 := (hr.step B3).step (fltBelow w3 0 0); have r4 := hcut.out _ rr4))
        | (go_at_call 26; refine (zc _ r4).mono ?_; (rintro e w5 ⟨A5, c5, rfl, hc5, o5, B5⟩; have B5' := step_trans B4' B5; have t5 := ht.below B5' (Nat.le_refl _)))
        | (go_at_call 10; (with_reducible refine (zb w5 A5 c5 t5 o5.bytes).mono ?_); (rintro e w6 ⟨A6, c6, rfl, hc6, o6, B6⟩)))
      go_ret3
      exact hp.out _ (step_trans B5' B6)
  · have hne : ((m : Int) != 64) = true := by simp; omega
    have hp := Lib.hid (BrPost.none_ (a := a) (w := w) (w' := w) (Blk.right_len (b := l) (by rw [hm]; exact h64)) (Blk.readE_len (by rw [hm]; exact h64)) (Below.refl _ _))
    clear hr hm h64
    go_enter Tryd.func12, Tryd.ntmps12
    go_wp2
    go_ret3
    exact hp.out
end Go.Proofs.YtmbloclkinghnaaDoor
