/-
  Bytes that lie somewhere in a new block, with room behind them; tandemkit.OverBytes. Conditions: the sizes that are named.
-/
import Derived.Test.YtfopjilncfndnaaDoorWhole
import Derived.Test.YtfopjilncfndnaaDoorFrAwake
namespace Go.Proofs.YtfopjilncfndnaaDoor
open Go.RowKit Fix

/-- bytes that lie somewhere in a new block (of blocks from base on), known up to their capacity -/
def Mid (w : World) (base : Nat) (A : Option Addr) (c : Nat) (l : List UInt8) : Prop :=
  (l = [] ∧ c = 0) ∨ ∃ g p E m, A = some ⟨g, p, none⟩ ∧ base ≤ g ∧ BlkR E w g (cellsOfBytes m) ∧ p + c ≤ m.length ∧ l.length ≤ c ∧ l = (m.drop p).take l.length
section
variable {w w' : World} {base c : Nat} {A : Option Addr} {l : List UInt8}
theorem Mid.none_ : Mid w base A 0 [] := .inl ⟨rfl, rfl⟩
theorem Mid.cap (h : Mid w base A c l) : l.length ≤ c := by
  rcases h with ⟨rfl, rfl⟩ | ⟨g, p, E, m, rfl, _, hb, e, e2, _⟩
  · exact Nat.le_refl _
  · exact e2
theorem Mid.bytes (h : Mid w base A c l) : BytesAt w w.heap.size A l := fun hl => by
  rcases h with ⟨rfl, _⟩ | ⟨g, p, E, m, rfl, _, hb, e, e2, el⟩
  · exact absurd rfl hl
  · refine ⟨_, rfl, hb.lt, fun k hk => ?_⟩
    rw [Addr.add_mid, hb.cell (cellsOfBytes_get m (p + k) (by omega))]
    congr 3
    rw [el, List.getD_eq_getElem?_getD, List.getD_eq_getElem?_getD, List.getElem?_take, if_pos hk, List.getElem?_drop]
theorem Mid.step (h : Mid w base A c l) (hb : Below w.heap.size w w') : Mid w' base A c l := by
  rcases h with h | ⟨g, p, E, m, rfl, hg, hk, e⟩
  · exact .inl h
  · exact .inr ⟨g, p, E, m, rfl, hg, hk.below hb hk.lt, e⟩
theorem Mid.less (h : Mid w base A c l) {b : Nat} (hb : b ≤ base) : Mid w b A c l := by
  rcases h with h | ⟨g, p, E, m, rfl, hg, hk, e⟩
  · exact .inl h
  · exact .inr ⟨g, p, E, m, rfl, Nat.le_trans hb hg, hk, e⟩
theorem Mid.frame {F : Nat → Prop} (h : Mid w base A c l) (hF : Frame F w w') (hf : ∀ k, F k → k < base) : Mid w' base A c l := by
  rcases h with h | ⟨g, p, E, m, rfl, hg, hk, e⟩
  · exact .inl h
  · exact .inr ⟨g, p, E, m, rfl, hg, (hF.block g hk.lt (fun x => by have := hf g x; omega)).trans hk, e⟩
theorem Mid.lt (h : Mid w base A c l) : ∀ k, BlockOf A c k → k < w.heap.size ∧ base ≤ k := fun k ⟨h0, ad, e, hk⟩ => by
  obtain ⟨g, p, E, m, rfl, hg, hb, _⟩ := h.resolve_left fun x => h0 x.2
  cases e
  rw [← hk]
  exact ⟨hb.lt, hg⟩
theorem Mid.new (h : Mid w base A c l) : ∀ ad, A = some ad → l ≠ [] → base ≤ ad.block := fun ad e hne => by
  rcases h with ⟨rfl, _⟩ | ⟨g, p, E, m, rfl, hg, _, _⟩
  · exact absurd rfl hne
  · cases e; exact hg
/-- what is cut off a slice of its own -/
theorem Whole.cut (h : Whole w base A c l) (k : Nat) (hk : k ≤ l.length) : Mid w base (cutA A k c) (c - k) (l.drop k) := by
  rcases h with ⟨rfl, e⟩ | ⟨g, t, E, rfl, hg, hb, e⟩
  · exact .inl ⟨by simp, by omega⟩
  · by_cases h0 : c = k
    · exact .inl ⟨List.drop_eq_nil_of_le (by omega), by omega⟩
    · refine .inr ⟨g, k, E, l ++ List.replicate t 0, by unfold cutA; rw [if_neg h0]; simp [addr_zero_add], hg, hb, by rw [List.length_append, List.length_replicate]; omega, by rw [List.length_drop]; omega, ?_⟩
      rw [List.length_drop, List.drop_append_of_le_length hk, List.take_append_of_le_length (by rw [List.length_drop]; omega), List.take_of_length_le (by rw [List.length_drop]; omega)]
end
set_option maxRecDepth 100000 in
theorem over_mid (A : Option Addr) (l : List UInt8) (n c base : Nat) (hn : l.length = n) (hc : c ≤ 9223372036854775807) (w : World) (h : Mid w base A c l) (hb : base ≤ w.heap.size) :
    Calls Tryd.prog 24 #[.slice A n c] w fun e w' => e = .returned (.tuple #[]) ∧ Below base w w' ∧ Frame (BlockOf A c) w w' := by
  have hnc := h.cap
  have q1 := cut_to A n c c (Nat.le_refl _)
  by_cases h0 : c = 0
  · subst h0
    obtain rfl : n = 0 := by omega
    clear hn hnc h
    go_enter Tryd.func24, Tryd.ntmps24
    go_wp2
    clear q1
    go_loopw [3] (fun i wr => i = .int .i64 0 ∧ wr = w) (fun _ _ => 0)
    case atStart => exact ⟨rfl, rfl⟩
    case round =>
      obtain ⟨rfl, rfl⟩ := hrel
      go_wp2
      go_end0
      exact ⟨rfl, Below.refl _ _, Frame.refl _ _⟩
  · obtain ⟨g, p, E, l0, rfl, hg, hk, e, el⟩ := h.resolve_left fun x => h0 x.2
    have HBO := Lib.hid (show BlockOf (some ⟨g, p, none⟩) c g from ⟨h0, _, rfl, rfl⟩)
    have hlen : p + c ≤ l0.length := e
    obtain ⟨q, hq⟩ : ∃ x, x = l0.length := ⟨_, rfl⟩
    clear h0 h e el hn hnc
    go_enter Tryd.func24, Tryd.ntmps24
    go_wp2
    clear q1
    go_loopw [3] (fun i wr => ∃ k : Nat, k ≤ c ∧ i = .int .i64 (k : Int) ∧ (∃ m : List UInt8, m.length = q ∧ BlkR E wr g (cellsOfBytes m)) ∧ Below base w wr ∧ Frame (BlockOf (some ⟨g, p, none⟩) c) w wr) (fun i _ => c - (intOf i).toNat)
    case atStart => exact ⟨0, Nat.zero_le _, rfl, ⟨l0, hq.symm, hk⟩, Below.refl _ _, Frame.refl _ _⟩
    case round =>
      rw [← hq] at hlen
      obtain ⟨k, hk, rfl, ⟨m, hml, hbm⟩, hbel, hfrm⟩ := hrel
      by_cases hkn : k < c
      · have hcell := hbm.cell (cellsOfBytes_get m (p + k) (by omega))
        have hfr := hbm.frozen (p + k)
        obtain ⟨x, hx⟩ : ∃ x, x = m.getD (p + k) 0 := ⟨_, rfl⟩
        rw [← hx] at hcell
        have hv : bits .xor .u8 (x.toNat : Int) 90 = ((x ^^^ 90).toNat : Int) := by
          rw [UInt8.toNat_xor]
          exact u8_xor_nat _ 90 x.toNat_lt (by decide)
        have HB := Lib.hid (And.intro hbm (And.intro hml (And.intro hv hlen)))
        clear hbm hx hml hv hlen
        go_wp2
        go_roundw
        case rel =>
          obtain ⟨hbm, hml, hv, hlen⟩ := HB.out
          refine ⟨k + 1, by omega, by go_num, ⟨m.set (p + k) (x ^^^ 90), by rw [List.length_set]; exact hml, ?_⟩, hbel.setCell hg _, hfrm.setAt ⟨g, p + k, none⟩ _ HBO.out⟩
          rw [hv]
          exact bytesR_set hbm (p + k) _
        case measure => simp [intOf]; omega
      · obtain rfl : k = c := by omega
        go_wp2
        go_end0
        exact ⟨rfl, hbel, hfrm⟩
end Go.Proofs.YtfopjilncfndnaaDoor
