/-
  Bytes told as new memory, known whole; bytes.Equal, bytes.Clone, tandemkit.OverBytes; slot.Bytes. Conditions: the table of crc lies as the program's text lays it; the bytes can be read.
-/
import Derived.Test.YtgnfajmjhlnobaaDoorSlSec
import Derived.Test.YtgnfajmjhlnobaaDoorKitSame
import Derived.Test.YtgnfajmjhlnobaaDoorKitOwn
import Derived.Laws.Append
import Derived.Laws.BitsAllLaws
namespace Go.Proofs.YtgnfajmjhlnobaaDoor
open Go.RowKit Fix

/-- a slice that is new memory (of blocks from base on), known up to its capacity -/
def Whole (w : World) (base : Nat) (A : Option Addr) (c : Nat) (l : List UInt8) : Prop :=
  (l = [] ∧ c = 0) ∨ ∃ g t E, A = some ⟨g, 0, none⟩ ∧ base ≤ g ∧ BlkR E w g (cellsOfBytes (l ++ List.replicate t 0)) ∧ c = l.length + t
section
variable {w w' : World} {base c : Nat} {A : Option Addr} {l : List UInt8}
theorem Whole.none_ : Whole w base A 0 [] := .inl ⟨rfl, rfl⟩
theorem Whole.bytes (h : Whole w base A c l) : BytesAt w w.heap.size A l := fun hl => by
  rcases h with ⟨rfl, _⟩ | ⟨g, t, E, rfl, _, hb, _⟩
  · exact absurd rfl hl
  · refine ⟨_, rfl, hb.lt, fun k hk => ?_⟩
    rw [addr_zero_add, hb.cell (cellsOfBytes_get _ k (by rw [List.length_append]; omega))]
    simp [List.getElem?_append_left hk, hk]
theorem Whole.cap (h : Whole w base A c l) : l.length ≤ c := by
  rcases h with ⟨rfl, rfl⟩ | ⟨g, t, E, rfl, _, hb, rfl⟩
  · exact Nat.le_refl _
  · omega
theorem Whole.new (h : Whole w base A c l) : ∀ ad, A = some ad → l ≠ [] → base ≤ ad.block := fun ad e hne => by
  rcases h with ⟨rfl, _⟩ | ⟨g, t, E, rfl, hg, _, _⟩
  · exact absurd rfl hne
  · cases e; exact hg
theorem Whole.step (h : Whole w base A c l) (hb : Below w.heap.size w w') : Whole w' base A c l := by
  rcases h with h | ⟨g, t, E, rfl, hg, hk, e⟩
  · exact .inl h
  · exact .inr ⟨g, t, E, rfl, hg, hk.below hb hk.lt, e⟩
theorem Whole.less (h : Whole w base A c l) {b : Nat} (hb : b ≤ base) : Whole w b A c l := by
  rcases h with h | ⟨g, t, E, rfl, hg, hk, e⟩
  · exact .inl h
  · exact .inr ⟨g, t, E, rfl, Nat.le_trans hb hg, hk, e⟩
theorem Whole.keepBut {b g : Nat} (h : Whole w b A c l) (hk : ∀ k, k ≠ g → w'.heap[k]? = w.heap[k]?) (hg : g < base) (h2 : Whole w base A c l) : Whole w' b A c l := by
  rcases h with h | ⟨g1, t, E, e1, hg1, hk1, e⟩
  · exact .inl h
  · rcases h2 with h2 | ⟨g2, t2, E2, e2, hg2, hk2, e3⟩
    · exact .inl h2
    · rw [e1] at e2; cases e2
      exact .inr ⟨g1, t, E, e1, hg1, (hk g1 (by omega)).trans hk1, e⟩
theorem Whole.frame {F : Nat → Prop} (h : Whole w base A c l) (hF : Frame F w w') (hf : ∀ k, F k → k < base) : Whole w' base A c l := by
  rcases h with h | ⟨g, t, E, rfl, hg, hk, e⟩
  · exact .inl h
  · exact .inr ⟨g, t, E, rfl, hg, (hF.block g hk.lt (fun x => by have := hf g x; omega)).trans hk, e⟩
end
theorem Frame.setAt {F : Nat → Prop} {w w' : World} (h : Frame F w w') (a : Addr) (v : Value) (ha : F a.block) : Frame F w (w'.setCell a v) :=
  ⟨h.os, h.tape, h.output, by simpa [World.setCell] using h.size, fun k hk hf => (Below.heap_setCell w' a v k (fun e => hf (e ▸ ha))).trans (h.block k hk hf)⟩
/-- the block of a slice that has room -/
def BlockOf (A : Option Addr) (c : Nat) (k : Nat) : Prop := c ≠ 0 ∧ ∃ ad, A = some ad ∧ ad.block = k
theorem Whole.lt {w : World} {base c : Nat} {A : Option Addr} {l : List UInt8} (h : Whole w base A c l) : ∀ k, BlockOf A c k → k < w.heap.size := fun k ⟨h0, ad, e, hk⟩ => by
  obtain ⟨g, t, E, rfl, _, hb, _⟩ := h.resolve_left fun x => h0 x.2
  cases e
  rw [← hk]
  exact hb.lt
set_option maxRecDepth 100000 in
theorem over_whole (A : Option Addr) (l : List UInt8) (n c base : Nat) (hn : l.length = n) (hc : c ≤ 9223372036854775807) (w : World) (h : Whole w base A c l) (hb : base ≤ w.heap.size) :
    Calls Tryd.prog 17 #[.slice A n c] w fun e w' => e = .returned (.tuple #[]) ∧ Below base w w' ∧ Frame (BlockOf A c) w w' := by
  have hnc := h.cap
  have q1 := cut_to A n c c (Nat.le_refl _)
  by_cases h0 : c = 0
  · subst h0
    obtain rfl : n = 0 := by omega
    clear hn hnc h
    go_enter Tryd.func17, Tryd.ntmps17
    go_wp2
    clear q1
    go_loopw [3] (fun i wr => i = .int .i64 0 ∧ wr = w) (fun _ _ => 0)
    case atStart => exact ⟨rfl, rfl⟩
    case round =>
      obtain ⟨rfl, rfl⟩ := hrel
      go_wp2
      go_end0
      exact ⟨rfl, Below.refl _ _, Frame.refl _ _⟩
  · obtain ⟨g, t, E, rfl, hg, hk, e⟩ := h.resolve_left fun x => h0 x.2
    have HBO := Lib.hid (show BlockOf (some ⟨g, 0, none⟩) c g from ⟨h0, _, rfl, rfl⟩)
    clear h0 h
    have hlen : (l ++ List.replicate t (0 : UInt8)).length = c := by rw [List.length_append, List.length_replicate, e]
    obtain ⟨l0, hl0⟩ : ∃ x, x = l ++ List.replicate t (0 : UInt8) := ⟨_, rfl⟩
    rw [← hl0] at hk hlen
    clear hl0 e hn hnc
    go_enter Tryd.func17, Tryd.ntmps17
    go_wp2
    clear q1
    go_loopw [3] (fun i wr => ∃ k : Nat, k ≤ c ∧ i = .int .i64 (k : Int) ∧ (∃ m : List UInt8, m.length = c ∧ BlkR E wr g (cellsOfBytes m)) ∧ Below base w wr ∧ Frame (BlockOf (some ⟨g, 0, none⟩) c) w wr) (fun i _ => c - (intOf i).toNat)
    case atStart => exact ⟨0, Nat.zero_le _, rfl, ⟨l0, hlen, hk⟩, Below.refl _ _, Frame.refl _ _⟩
    case round =>
      obtain ⟨k, hk, rfl, ⟨m, hml, hbm⟩, hbel, hfrm⟩ := hrel
      by_cases hkn : k < c
      · have hcell := hbm.cell (cellsOfBytes_get m k (by omega))
        have hfr := hbm.frozen k
        obtain ⟨x, hx⟩ : ∃ x, x = m.getD k 0 := ⟨_, rfl⟩
        rw [← hx] at hcell
        have hv : bits .xor .u8 (x.toNat : Int) 90 = ((x ^^^ 90).toNat : Int) := by
          rw [UInt8.toNat_xor]
          exact u8_xor_nat _ 90 x.toNat_lt (by decide)
        have HB := Lib.hid (And.intro hbm (And.intro hml hv))
        clear hbm hx hml hv
        go_wp2
        go_roundw
        case rel =>
          obtain ⟨hbm, hml, hv⟩ := HB.out
          refine ⟨k + 1, by omega, by go_num, ⟨m.set k (x ^^^ 90), by rw [List.length_set]; exact hml, ?_⟩, hbel.setCell hg _, hfrm.setAt ⟨g, k, none⟩ _ HBO.out⟩
          rw [hv]
          exact bytesR_set hbm k _
        case measure => simp [intOf]; omega
      · obtain rfl : k = c := by omega
        go_wp2
        go_end0
        exact ⟨rfl, hbel, hfrm⟩
theorem equal_any (A : Option Addr) (l : List UInt8) (n c : Nat) (hn : l.length = n) (A' : Option Addr) (l' : List UInt8) (n' c' : Nat) (hn' : l'.length = n') (w : World) (hr : BytesAt w w.heap.size A l) (hr' : BytesAt w w.heap.size A' l') (x : Bool) (hx : (l == l') = x) :
    Calls Tryd.prog 35 #[.slice A n c, .slice A' n' c'] w fun e w' => e = .returned (.bool x) ∧ w = w' := by
  subst hn; subst hn'; subst hx
  have q1 := bytes_string hr c
  have q2 := bytes_string hr' c'
  go_enter Tryd.func35, Tryd.ntmps35
  go_wp2
  go_ret
  exact ⟨rfl, rfl⟩
def ClonePost (l : List UInt8) (n : Nat) (w : World) (e : Ending) (w' : World) : Prop := ∃ A c, e = .returned (.slice A n c) ∧ c ≤ 9223372036854775807 ∧ Whole w' w.heap.size A c l ∧ Below w.heap.size w w'
theorem run_clone (w : World) (ty : TypeId) (l : List UInt8) (ad : Addr) (n c : Nat) (hn : l.length = n) (h0 : 0 < n) (h100 : n ≤ 1000) (b : Addr) (hr : BytesAt w w.heap.size (some ad) l) :
    ∃ c' w', (Builtin.append_ #[22, 22] ty #[.slice (some b) 0 0, .slice (some ad) n c]).run Tryd.prog w = .ok (.slice (some ⟨w.heap.size, 0, none⟩) n c') w' ∧ c' ≤ 9223372036854775807 ∧ Whole w' w.heap.size (some ⟨w.heap.size, 0, none⟩) c' l ∧ Below w.heap.size w w' := by
  obtain ⟨i, h1, h2, h3, h4⟩ := infoU8
  obtain ⟨ad', e, _, hc⟩ := hr (by rintro rfl; simp at hn; omega)
  cases e
  have hrun := run_append_grow (P := Tryd.prog) w 22 ty 5 i (.int .u8 0) Tryd.underlying22 h1 h2 b 0 0 [] (by simp) (fun j v h => by cases h) ad n c (cellsOfBytes l) (by rw [cellsOfBytes_length, hn, h3, Nat.mul_one])
    (fun j v hv => by
      have hj : j < l.length := by
        have := (List.getElem?_eq_some_iff.1 hv).1
        rwa [cellsOfBytes_length] at this
      rw [cellsOfBytes_get l j hj] at hv
      rw [← Option.some.inj hv]
      exact hc j hj) (by omega) (by omega) (growslice_fits (by omega) (by rw [h4]; omega))
  rw [Nat.zero_add] at hrun
  have hge := grownCap_ge w n 0 5
  have hle := grownCap_le_maxLen w n 0 5 (by unfold maxLen; omega)
  obtain ⟨cc, hcc⟩ : ∃ x, x = grownCap w n 0 5 := ⟨_, rfl⟩
  rw [← hcc] at hrun hge hle
  refine ⟨cc, _, hrun, by unfold maxLen at hle; omega, .inr ⟨w.heap.size, cc - n, 5, rfl, Nat.le_refl _, ?_, by omega⟩, (Below.refl _ w).drew.alloc (Nat.le_refl _) _⟩
  have hz : (Builtin.zeroCells (Value.int .u8 0).cells (cc - n)) = (List.replicate (cc - n) (Value.int .u8 0)).toArray := by
    apply Array.toList_inj.1
    simp [Builtin.zeroCells, Value.cells, Nat.mod_one, List.map_const']
  have := heap_alloc_new w.drew (.cells ((#[] : Array Value) ++ (cellsOfBytes l).toArray ++ Builtin.zeroCells (Value.int .u8 0).cells (cc - n)) 5)
  rw [hz] at this
  unfold BlkR
  rw [hz]
  refine Eq.trans this ?_
  simp [cellsOfBytes]
theorem some_eql (ad : Addr) (n c : Nat) (w : World) : (binOp .eql 22 (.slice (some ad) n c) (.slice none 0 0)).run Tryd.prog w = .ok (.bool false) w := by kernel_rfl
theorem emptyB (w : World) : Below w.heap.size w (w.alloc (.cells #[] 5)) := (Below.refl _ _).alloc (Nat.le_refl _) _
set_option maxRecDepth 100000 in
theorem clone_any (l : List UInt8) (ad : Addr) (n c : Nat) (hn : l.length = n) (h100 : n ≤ 1000) (w : World) (hr : BytesAt w w.heap.size (some ad) l) : Calls Tryd.prog 38 #[.slice (some ad) n c] w (ClonePost l n w) := by
  rcases Nat.eq_zero_or_pos n with h0 | h0
  · subst h0
    obtain rfl : l = [] := List.eq_nil_of_length_eq_zero hn
    have hp : ∀ b w', Below w.heap.size w w' → ClonePost [] 0 w (.returned (.slice b 0 0)) w' := fun b w' hB => ⟨b, 0, rfl, by decide, Whole.none_, hB⟩
    replace hp := Lib.hid hp
    have q : ∀ W b, (Builtin.append_ #[22, 22] 22 #[.slice (some b) 0 0, .slice (some ad) 0 c]).run Tryd.prog W = .ok (.slice (some b) 0 0) W := fun W b => by
      obtain ⟨i, h1, h2, h3, h4⟩ := infoU8
      simp [Builtin.append_, run_underlying Tryd.underlying22, sizeOf, typeInfo, h1, Builtin.lenOf, Builtin.firstCells, loadCells, loadCellsFrom, storeCells]
    have qn := some_eql ad
    go_enter Tryd.func38, Tryd.ntmps38
    go_wp2
    go_ret
    exact hp.out _ _ (emptyB w)
  · have B1 := emptyB w
    obtain ⟨c', w', hrun, hc, hW, hB⟩ := run_clone (w.alloc (.cells #[] 5)) 22 l ad n c hn h0 h100 ⟨w.heap.size, 0, none⟩ (hr.step B1)
    have hp : ClonePost l n w (.returned (.slice (some ⟨w.heap.size + 1, 0, none⟩) n c')) w' := ⟨some ⟨w.heap.size + 1, 0, none⟩, c', rfl, hc, by have := hW.less B1.size; simpa using this, step_trans B1 hB⟩
    replace hp := Lib.hid hp
    rw [show (w.alloc (.cells #[] 5)).heap.size = w.heap.size + 1 by simp] at hrun
    clear hr B1 hc hW hB
    replace hrun := Lib.hid hrun
    have qn := some_eql ad
    go_enter Tryd.func38, Tryd.ntmps38
    go_wp2_with (at_builtin; refine wpList_append_runR rfl (.tmp 5) (.tmp 6) 22 rfl rfl rfl hrun.out ?_)
    go_ret
    exact hp.out
namespace Slot
theorem bytes_long' (n : Int) (r : List UInt8) (h : 40 < r.length) : bytesE n r = 3 ∧ bytesB n r = [] := by simp [bytesE, bytesB, h]
theorem bytes_range' (n : Int) (r : List UInt8) (h : ¬ 40 < r.length) (h2 : n < 1 ∨ 1099511627776 < n) : bytesE n r = 5 ∧ bytesB n r = [] := by simp [bytesE, bytesB, h, h2]
theorem bytes_good' (n : Nat) (r : List UInt8) (h : ¬ 40 < r.length) (h2 : ¬ ((n : Int) < 1 ∨ 1099511627776 < (n : Int))) : bytesE n r = 0 ∧ bytesB n r = sect n r := by simp [bytesE, bytesB, h, h2]
end Slot
def BsPost (n : Int) (r : List UInt8) (w : World) (e : Ending) (w' : World) : Prop :=
  ∃ A c, e = .returned (.tuple #[.slice A (Slot.bytesB n r).length c, .int .i64 (Slot.bytesE n r)]) ∧ c ≤ 9223372036854775807 ∧ Whole w' w.heap.size A c (Slot.bytesB n r) ∧ Below w.heap.size w w'
theorem BsPost.none_ {n : Int} {r : List UInt8} {x : Int} (h : Slot.bytesE n r = x ∧ Slot.bytesB n r = []) (w : World) : BsPost n r w (.returned (.tuple #[.slice none 0 0, .int .i64 x])) w :=
  ⟨none, 0, by rw [h.1, h.2]; rfl, by decide, by rw [h.2]; exact Whole.none_, Below.refl _ _⟩
set_option maxRecDepth 100000 in
theorem slotBytes_any (n : Int) (A : Option Addr) (r : List UInt8) (m c : Nat) (hm : r.length = m) (w : World) (ht : TabAt w) (hr : BytesAt w w.heap.size A r) : Calls Tryd.prog 12 #[.int .i64 n, .slice A m c] w (BsPost n r w) := by
  by_cases h40 : 40 < r.length
  · have hi : (40 : Int) < (m : Int) := by omega
    have hp := Lib.hid (BsPost.none_ (Slot.bytes_long' n r h40) w)
    clear h40 hm hr
    go_enter Tryd.func12, Tryd.ntmps12
    go_wp2
    go_ret2
    exact hp.out
  · have hi : ¬ (40 : Int) < (m : Int) := by omega
    by_cases hn : n < 1 ∨ 1099511627776 < n
    · have hp := Lib.hid (BsPost.none_ (Slot.bytes_range' n r h40 hn) w)
      by_cases h1 : n < 1
      · clear h40 hm hr hn
        go_enter Tryd.func12, Tryd.ntmps12
        go_wp2
        go_ret2
        exact hp.out
      · have h2 : 1099511627776 < n := by omega
        clear h40 hm hr hn
        go_enter Tryd.func12, Tryd.ntmps12
        go_wp2
        go_ret2
        exact hp.out
    · obtain ⟨k, rfl⟩ : ∃ k : Nat, n = (k : Int) := ⟨n.toNat, by omega⟩
      have h1 : ¬ (k : Int) < 1 := by omega
      have h2 : ¬ (1099511627776 : Int) < (k : Int) := by omega
      obtain ⟨e1, e2⟩ := Slot.bytes_good' k r h40 hn
      have hse := Slot.sect_length k r (by omega)
      unfold BsPost
      rw [e1, e2, hse]
      have z0 := sector_any k A r m c hm (by omega) (by omega) w ht hr
      unfold SecPost at z0
      have hz64 := Lib.hid hse
      have qa := fun g W => cutA_all g W
      clear e1 e2 hn h40 hm hr hse
      go_enter Tryd.func12, Tryd.ntmps12
      go_wp2_with (first
        | (go_at_call 31; refine z0.mono ?_; (rintro e w1 ⟨rfl, B1⟩))
        | ((with_reducible refine atW w1 ?_); refine wpList_allocA (w := w1) rfl rfl ?_; (intro w2 e2; have b2 : BlkR 66 w2 w1.heap.size (cellsOfBytes zs) := (by rw [e2]; exact BlkR.new w1 _ _); have B2 : Below w1.heap.size w1 w2 := (by rw [e2]; exact (Below.refl _ _).alloc (Nat.le_refl _) _); clear e2))
        | ((with_reducible refine atW w2 ?_); refine wpList_storeA (w := w2) rfl (.tmp 6) (.tmp 18) rfl w1.heap.size (Slot.sect k r) zs rfl rfl hz64.out (by simp) b2 ?_; (intro w3 b3 B3 s3 _)))
      go_ret2
      exact ⟨some ⟨w1.heap.size, 0, none⟩, 64, rfl, by decide, .inr ⟨w1.heap.size, 0, _, rfl, B1.size, by rw [List.replicate_zero, List.append_nil]; exact b3, by rw [hz64.out]⟩, B1.trans ((B2.trans B3).mono B1.size)⟩
end Go.Proofs.YtgnfajmjhlnobaaDoor
