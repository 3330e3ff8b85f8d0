/-
  Package frame beside the laws' own words: Put that tells, Get that tells or not, faulty, awake. Conditions: the table of crc lies as the program's text lays it; the bytes can be read.
-/
import Derived.Test.YtfopjilncfndnaaDoorFrProg
import Derived.Test.YtfopjilncfndnaaDoorBa
namespace Go.Proofs.YtfopjilncfndnaaDoor
open Go.RowKit Fix

/-- a payload that may be -/
theorem frput_yes (P : Option Addr) (p : List UInt8) (n c : Nat) (hn : p.length = n) (h : n ≤ 200) (w : World) (ht : TabAt w) (hr : BytesAt w w.heap.size P p) : Calls Tryd.prog 66 #[.slice P n c] w fun e w' =>
    ∃ A c', e = .returned (.tuple #[.slice A (n + 9) c', .int .i64 0]) ∧ n + 9 ≤ c' ∧ c' ≤ 9223372036854775807 ∧ OwnZ w' w.heap.size (.slice A (n + 9) c') (Frm.enc p) ∧ Below w.heap.size w w' := by
  have e1 : Frm.putB p = Frm.enc p := by unfold Frm.putB; rw [if_pos (by omega)]
  have e2 : Frm.putE p = 0 := by unfold Frm.putE; rw [if_pos (by omega)]
  have e3 : (Frm.enc p).length = n + 9 := by rw [Frm.enc_length, hn]
  refine (frput_any P p n c hn w ht hr).mono fun e w' ⟨A, c', he, hc, hW, hB⟩ => ?_
  rw [e1, e2, e3] at he
  rw [e1, e3] at hW
  obtain ⟨A2, c2, hv, hc2⟩ := hW.form
  injection hv with _ _ hv
  exact ⟨A, c', he, by omega, hc, hW, hB⟩
/-- the datagram of a payload -/
theorem frget_yes (A : Option Addr) (l p : List UInt8) (n m c : Nat) (hl : Frm.wrongE l = 0) (hp : Frm.pay l = p) (hn : l.length = n) (hm : p.length = m) (hc : n ≤ c) (h1 : n ≤ 1000) (w : World) (ht : TabAt w) (hr : BytesAt w w.heap.size A l) : Calls Tryd.prog 67 #[.slice A n c] w fun e w' =>
    ∃ A' c', e = .returned (.tuple #[.slice A' m c', .agg #[.int .i64 0, .int .i64 0]]) ∧ BytesAt w' w'.heap.size A' p ∧ Below w.heap.size w w' := by
  refine (frget_any A l n c hn hc h1 w ht hr).mono fun e w' ⟨A', c', he, _, hW, hB⟩ => ?_
  have e1 : Frm.getB l = p := by unfold Frm.getB; rw [if_pos hl, hp]
  rw [e1, hl, Frm.right_A hl, hm] at he
  rw [e1] at hW
  exact ⟨A', c', he, hW.bytes, hB⟩
/-- bytes that are none -/
theorem frget_no (A : Option Addr) (l : List UInt8) (x a : Int) (n c : Nat) (hl : Frm.wrongE l = x) (ha : Frm.wrongA l = a) (hx : x ≠ 0) (hn : l.length = n) (hc : n ≤ c) (h1 : n ≤ 1000) (w : World) (ht : TabAt w) (hr : BytesAt w w.heap.size A l) : Calls Tryd.prog 67 #[.slice A n c] w fun e w' =>
    ∃ A' c', e = .returned (.tuple #[.slice A' 0 c', .agg #[.int .i64 x, .int .i64 a]]) ∧ Below w.heap.size w w' := by
  refine (frget_any A l n c hn hc h1 w ht hr).mono fun e w' ⟨A', c', he, _, hW, hB⟩ => ?_
  have e1 : Frm.getB l = [] := by unfold Frm.getB; rw [if_neg (by rw [hl]; exact hx)]
  rw [e1, hl, ha] at he
  exact ⟨A', c', he, hB⟩
/-- a fault in a new block -/
theorem flt_at (w : World) (e a : Int) (w' : World) (B : Below (w.alloc (.cells #[.int .i64 e, .int .i64 a] 111)).heap.size (w.alloc (.cells #[.int .i64 e, .int .i64 a] 111)) w') :
    w'.cell? ⟨w.heap.size, 0, none⟩ = some (.int .i64 e) ∧ w'.cell? ⟨w.heap.size, 1, none⟩ = some (.int .i64 a) := by
  have g := (B.block w.heap.size (by simp)).trans (heap_alloc_new w _)
  exact ⟨by simp [World.cell?, g], by simp [World.cell?, g]⟩
def one23 : List UInt8 := [1, 2, 3]
/-- OverBytes over a block that is known whole -/
theorem over_blk (E : TypeId) (g n c base : Nat) (l0 : List UInt8) (hlen : l0.length = c) (hc : c ≤ 9223372036854775807) (w : World) (hk : BlkR E w g (cellsOfBytes l0)) (hg : base ≤ g) (h0 : c ≠ 0) :
    Calls Tryd.prog 24 #[.slice (some ⟨g, 0, none⟩) n c] w fun e w' => e = .returned (.tuple #[]) ∧ Below base w w' ∧ Frame (BlockOf (some ⟨g, 0, none⟩) c) w w' := by
  have q1 := cut_to (some ⟨g, 0, none⟩) n c c (Nat.le_refl _)
  have HBO := Lib.hid (show BlockOf (some ⟨g, 0, none⟩) c g from ⟨h0, _, rfl, rfl⟩)
  clear h0
  go_enter Tryd.func24, Tryd.ntmps24
  go_wp2
  clear q1
  go_loopw [3] (fun i wr => ∃ k : Nat, k ≤ c ∧ i = .int .i64 (k : Int) ∧ (∃ m : List UInt8, m.length = c ∧ BlkR E wr g (cellsOfBytes m)) ∧ Below base w wr ∧ Frame (BlockOf (some ⟨g, 0, none⟩) c) w wr) (fun i _ => c - (intOf i).toNat)
  case atStart => exact ⟨0, Nat.zero_le _, rfl, ⟨l0, hlen, hk⟩, Below.refl _ _, Frame.refl _ _⟩
  case round =>
    obtain ⟨k, hk, rfl, ⟨m, hml, hbm⟩, hbel, hfrm⟩ := hrel
    by_cases hkn : k < c
    · have hcell := hbm.cell (cellsOfBytes_get m k (by omega))
      have hfr := hbm.frozen k
      obtain ⟨x, hx⟩ : ∃ x, x = m.getD k 0 := ⟨_, rfl⟩
      rw [← hx] at hcell
      have hv : bits .xor .u8 (x.toNat : Int) 90 = ((x ^^^ 90).toNat : Int) := by
        rw [UInt8.toNat_xor]
        exact u8_xor_nat _ 90 x.toNat_lt (by decide)
      have HB := Lib.hid (And.intro hbm (And.intro hml hv))
      clear hbm hx hml hv
      go_wp2
      go_roundw
      case rel =>
        obtain ⟨hbm, hml, hv⟩ := HB.out
        refine ⟨k + 1, by omega, by go_num, ⟨m.set k (x ^^^ 90), by rw [List.length_set]; exact hml, ?_⟩, hbel.setCell hg _, hfrm.setAt ⟨g, k, none⟩ _ HBO.out⟩
        rw [hv]
        exact bytesR_set hbm k _
      case measure => simp [intOf]; omega
    · obtain rfl : k = c := by omega
      go_wp2
      go_end0
      exact ⟨rfl, hbel, hfrm⟩
theorem over_ownZ {w : World} {base : Nat} {A : Option Addr} {n c : Nat} {l : List UInt8} (h : OwnZ w base (.slice A n c) l) :
    Calls Tryd.prog 24 #[.slice A n c] w fun e w' => e = .returned (.tuple #[]) ∧ Below base w w' ∧ Frame (BlockOf A c) w w' := by
  rcases h with ⟨e, rfl⟩ | ⟨g, c', m, e, hg, hk, hm, ht, hl, hc⟩
  · injection e with e1 e2 e3
    subst e1; subst e2; subst e3
    exact (over_nilZ w).mono fun e w' ⟨h1, h2⟩ => ⟨h1, h2 ▸ Below.refl _ _, h2 ▸ Frame.refl _ _⟩
  · injection e with e1 e2 e3
    subst e1; subst e2; subst e3
    by_cases h0 : c = 0
    · subst h0
      have hl0 : l = [] := List.eq_nil_of_length_eq_zero (by omega)
      subst hl0
      have := over_whole (some ⟨g, 0, none⟩) [] 0 0 base rfl (by decide) w Whole.none_ (by have := hk.lt; omega)
      exact this
    · exact over_blk 5 g l.length c base m hm hc w hk hg h0
theorem OwnZ.blt {w : World} {base n c : Nat} {A : Option Addr} {l : List UInt8} (h : OwnZ w base (.slice A n c) l) : ∀ k, BlockOf A c k → k < w.heap.size := fun k ⟨h0, ad, e, hk⟩ => by
  subst e
  rw [← hk]
  exact (h.lt ad.block rfl).2
end Go.Proofs.YtfopjilncfndnaaDoor
