/-
  Bytes told as new memory, known whole; tandemkit.OverBytes; what append makes of such bytes. Conditions: the sizes that are named.
-/
import Derived.Test.YtfopjilncfndnaaDoorBa
import Derived.Test.YtfopjilncfndnaaDoorFrame
import Derived.Laws.Append
import Derived.Laws.BitsAllLaws
namespace Go.Proofs.YtfopjilncfndnaaDoor
open Go.RowKit

theorem bytesR_set {E : TypeId} {w : World} {g : Nat} {l : List UInt8} (h : BlkR E w g (cellsOfBytes l)) (k : Nat) (x : UInt8) : BlkR E (w.setCell ⟨g, k, none⟩ (.int .u8 (x.toNat : Int))) g (cellsOfBytes (l.set k x)) := by
  have e : cellsOfBytes (l.set k x) = (cellsOfBytes l).set k (.int .u8 (x.toNat : Int)) := by simp [cellsOfBytes, List.map_set]
  rw [e]
  exact h.set_ k _
/-- a slice that is new memory (of blocks from base on), known up to its capacity -/
def Whole (w : World) (base : Nat) (A : Option Addr) (c : Nat) (l : List UInt8) : Prop :=
  (l = [] ∧ c = 0) ∨ ∃ g t E, A = some ⟨g, 0, none⟩ ∧ base ≤ g ∧ BlkR E w g (cellsOfBytes (l ++ List.replicate t 0)) ∧ c = l.length + t
section
variable {w w' : World} {base c : Nat} {A : Option Addr} {l : List UInt8}
theorem Whole.none_ : Whole w base A 0 [] := .inl ⟨rfl, rfl⟩
theorem Whole.bytes (h : Whole w base A c l) : BytesAt w w.heap.size A l := fun hl => by
  rcases h with ⟨rfl, _⟩ | ⟨g, t, E, rfl, _, hb, _⟩
  · exact absurd rfl hl
  · refine ⟨_, rfl, hb.lt, fun k hk => ?_⟩
    rw [addr_zero_add, hb.cell (cellsOfBytes_get _ k (by rw [List.length_append]; omega))]
    simp [List.getElem?_append_left hk, hk]
theorem Whole.cap (h : Whole w base A c l) : l.length ≤ c := by
  rcases h with ⟨rfl, rfl⟩ | ⟨g, t, E, rfl, _, hb, rfl⟩
  · exact Nat.le_refl _
  · omega
theorem Whole.new (h : Whole w base A c l) : ∀ ad, A = some ad → l ≠ [] → base ≤ ad.block := fun ad e hne => by
  rcases h with ⟨rfl, _⟩ | ⟨g, t, E, rfl, hg, _, _⟩
  · exact absurd rfl hne
  · cases e; exact hg
theorem Whole.step (h : Whole w base A c l) (hb : Below w.heap.size w w') : Whole w' base A c l := by
  rcases h with h | ⟨g, t, E, rfl, hg, hk, e⟩
  · exact .inl h
  · exact .inr ⟨g, t, E, rfl, hg, hk.below hb hk.lt, e⟩
theorem Whole.less (h : Whole w base A c l) {b : Nat} (hb : b ≤ base) : Whole w b A c l := by
  rcases h with h | ⟨g, t, E, rfl, hg, hk, e⟩
  · exact .inl h
  · exact .inr ⟨g, t, E, rfl, Nat.le_trans hb hg, hk, e⟩
theorem Whole.keepBut {b g : Nat} (h : Whole w b A c l) (hk : ∀ k, k ≠ g → w'.heap[k]? = w.heap[k]?) (hg : g < base) (h2 : Whole w base A c l) : Whole w' b A c l := by
  rcases h with h | ⟨g1, t, E, e1, hg1, hk1, e⟩
  · exact .inl h
  · rcases h2 with h2 | ⟨g2, t2, E2, e2, hg2, hk2, e3⟩
    · exact .inl h2
    · rw [e1] at e2; cases e2
      exact .inr ⟨g1, t, E, e1, hg1, (hk g1 (by omega)).trans hk1, e⟩
theorem Whole.frame {F : Nat → Prop} (h : Whole w base A c l) (hF : Frame F w w') (hf : ∀ k, F k → k < base) : Whole w' base A c l := by
  rcases h with h | ⟨g, t, E, rfl, hg, hk, e⟩
  · exact .inl h
  · exact .inr ⟨g, t, E, rfl, hg, (hF.block g hk.lt (fun x => by have := hf g x; omega)).trans hk, e⟩
end
theorem Frame.setAt {F : Nat → Prop} {w w' : World} (h : Frame F w w') (a : Addr) (v : Value) (ha : F a.block) : Frame F w (w'.setCell a v) :=
  ⟨h.os, h.tape, h.output, by simpa [World.setCell] using h.size, fun k hk hf => (Below.heap_setCell w' a v k (fun e => hf (e ▸ ha))).trans (h.block k hk hf)⟩
/-- the block of a slice that has room -/
def BlockOf (A : Option Addr) (c : Nat) (k : Nat) : Prop := c ≠ 0 ∧ ∃ ad, A = some ad ∧ ad.block = k
theorem Whole.lt {w : World} {base c : Nat} {A : Option Addr} {l : List UInt8} (h : Whole w base A c l) : ∀ k, BlockOf A c k → k < w.heap.size := fun k ⟨h0, ad, e, hk⟩ => by
  obtain ⟨g, t, E, rfl, _, hb, _⟩ := h.resolve_left fun x => h0 x.2
  cases e
  rw [← hk]
  exact hb.lt
set_option maxRecDepth 100000 in
theorem over_whole (A : Option Addr) (l : List UInt8) (n c base : Nat) (hn : l.length = n) (hc : c ≤ 9223372036854775807) (w : World) (h : Whole w base A c l) (hb : base ≤ w.heap.size) :
    Calls Tryd.prog 24 #[.slice A n c] w fun e w' => e = .returned (.tuple #[]) ∧ Below base w w' ∧ Frame (BlockOf A c) w w' := by
  have hnc := h.cap
  have q1 := cut_to A n c c (Nat.le_refl _)
  by_cases h0 : c = 0
  · subst h0
    obtain rfl : n = 0 := by omega
    clear hn hnc h
    go_enter Tryd.func24, Tryd.ntmps24
    go_wp2
    clear q1
    go_loopw [3] (fun i wr => i = .int .i64 0 ∧ wr = w) (fun _ _ => 0)
    case atStart => exact ⟨rfl, rfl⟩
    case round =>
      obtain ⟨rfl, rfl⟩ := hrel
      go_wp2
      go_end0
      exact ⟨rfl, Below.refl _ _, Frame.refl _ _⟩
  · obtain ⟨g, t, E, rfl, hg, hk, e⟩ := h.resolve_left fun x => h0 x.2
    have HBO := Lib.hid (show BlockOf (some ⟨g, 0, none⟩) c g from ⟨h0, _, rfl, rfl⟩)
    clear h0 h
    have hlen : (l ++ List.replicate t (0 : UInt8)).length = c := by rw [List.length_append, List.length_replicate, e]
    obtain ⟨l0, hl0⟩ : ∃ x, x = l ++ List.replicate t (0 : UInt8) := ⟨_, rfl⟩
    rw [← hl0] at hk hlen
    clear hl0 e hn hnc
    go_enter Tryd.func24, Tryd.ntmps24
    go_wp2
    clear q1
    go_loopw [3] (fun i wr => ∃ k : Nat, k ≤ c ∧ i = .int .i64 (k : Int) ∧ (∃ m : List UInt8, m.length = c ∧ BlkR E wr g (cellsOfBytes m)) ∧ Below base w wr ∧ Frame (BlockOf (some ⟨g, 0, none⟩) c) w wr) (fun i _ => c - (intOf i).toNat)
    case atStart => exact ⟨0, Nat.zero_le _, rfl, ⟨l0, hlen, hk⟩, Below.refl _ _, Frame.refl _ _⟩
    case round =>
      obtain ⟨k, hk, rfl, ⟨m, hml, hbm⟩, hbel, hfrm⟩ := hrel
      by_cases hkn : k < c
      · have hcell := hbm.cell (cellsOfBytes_get m k (by omega))
        have hfr := hbm.frozen k
        obtain ⟨x, hx⟩ : ∃ x, x = m.getD k 0 := ⟨_, rfl⟩
        rw [← hx] at hcell
        have hv : bits .xor .u8 (x.toNat : Int) 90 = ((x ^^^ 90).toNat : Int) := by
          rw [UInt8.toNat_xor]
          exact u8_xor_nat _ 90 x.toNat_lt (by decide)
        have HB := Lib.hid (And.intro hbm (And.intro hml hv))
        clear hbm hx hml hv
        go_wp2
        go_roundw
        case rel =>
          obtain ⟨hbm, hml, hv⟩ := HB.out
          refine ⟨k + 1, by omega, by go_num, ⟨m.set k (x ^^^ 90), by rw [List.length_set]; exact hml, ?_⟩, hbel.setCell hg _, hfrm.setAt ⟨g, k, none⟩ _ HBO.out⟩
          rw [hv]
          exact bytesR_set hbm k _
        case measure => simp [intOf]; omega
      · obtain rfl : k = c := by omega
        go_wp2
        go_end0
        exact ⟨rfl, hbel, hfrm⟩
def ClonePost (l : List UInt8) (n : Nat) (w : World) (e : Ending) (w' : World) : Prop := ∃ A c, e = .returned (.slice A n c) ∧ c ≤ 9223372036854775807 ∧ Whole w' w.heap.size A c l ∧ Below w.heap.size w w'
theorem run_clone (w : World) (ty : TypeId) (l : List UInt8) (ad : Addr) (n c : Nat) (hn : l.length = n) (h0 : 0 < n) (h100 : n ≤ 1000) (b : Addr) (hr : BytesAt w w.heap.size (some ad) l) :
    ∃ c' w', (Builtin.append_ #[39, 39] ty #[.slice (some b) 0 0, .slice (some ad) n c]).run Tryd.prog w = .ok (.slice (some ⟨w.heap.size, 0, none⟩) n c') w' ∧ c' ≤ 9223372036854775807 ∧ Whole w' w.heap.size (some ⟨w.heap.size, 0, none⟩) c' l ∧ Below w.heap.size w w' := by
  obtain ⟨i, h1, h2, h3, h4⟩ := infoU8
  obtain ⟨ad', e, _, hc⟩ := hr (by rintro rfl; simp at hn; omega)
  cases e
  have hrun := run_append_grow (P := Tryd.prog) w 39 ty 5 i (.int .u8 0) Tryd.underlying39 h1 h2 b 0 0 [] (by simp) (fun j v h => by cases h) ad n c (cellsOfBytes l) (by rw [cellsOfBytes_length, hn, h3, Nat.mul_one])
    (fun j v hv => by
      have hj : j < l.length := by
        have := (List.getElem?_eq_some_iff.1 hv).1
        rwa [cellsOfBytes_length] at this
      rw [cellsOfBytes_get l j hj] at hv
      rw [← Option.some.inj hv]
      exact hc j hj) (by omega) (by omega) (growslice_fits (by omega) (by rw [h4]; omega))
  rw [Nat.zero_add] at hrun
  have hge := grownCap_ge w n 0 5
  have hle := grownCap_le_maxLen w n 0 5 (by unfold maxLen; omega)
  obtain ⟨cc, hcc⟩ : ∃ x, x = grownCap w n 0 5 := ⟨_, rfl⟩
  rw [← hcc] at hrun hge hle
  refine ⟨cc, _, hrun, by unfold maxLen at hle; omega, .inr ⟨w.heap.size, cc - n, 5, rfl, Nat.le_refl _, ?_, by omega⟩, (Below.refl _ w).drew.alloc (Nat.le_refl _) _⟩
  have hz : (Builtin.zeroCells (Value.int .u8 0).cells (cc - n)) = (List.replicate (cc - n) (Value.int .u8 0)).toArray := by
    apply Array.toList_inj.1
    simp [Builtin.zeroCells, Value.cells, Nat.mod_one, List.map_const']
  have := heap_alloc_new w.drew (.cells ((#[] : Array Value) ++ (cellsOfBytes l).toArray ++ Builtin.zeroCells (Value.int .u8 0).cells (cc - n)) 5)
  rw [hz] at this
  unfold BlkR
  rw [hz]
  refine Eq.trans this ?_
  simp [cellsOfBytes]
theorem some_eql (ad : Addr) (n c : Nat) (w : World) : (binOp .eql 39 (.slice (some ad) n c) (.slice none 0 0)).run Tryd.prog w = .ok (.bool false) w := by kernel_rfl
theorem emptyB (w : World) : Below w.heap.size w (w.alloc (.cells #[] 5)) := (Below.refl _ _).alloc (Nat.le_refl _) _
/-- append of bytes to bytes that are known whole -/
def GrowPost (w : World) (g : Nat) (l k : List UInt8) (v : Value) (w' : World) : Prop :=
  ∃ g' c', v = .slice (some ⟨g', 0, none⟩) (l.length + k.length) c' ∧ c' ≤ 9223372036854775807 ∧ BlkR 5 w' g' (cellsOfBytes (l ++ k ++ List.replicate (c' - (l.length + k.length)) 0)) ∧ l.length + k.length ≤ c' ∧ (g' = g ∨ w.heap.size ≤ g') ∧ Frame (fun x => x = g) w w'
set_option maxRecDepth 100000 in
theorem run_append_whole (w : World) (ty : TypeId) (g c : Nat) (l k : List UInt8) (hb : BlkR 5 w g (cellsOfBytes (l ++ List.replicate (c - l.length) 0))) (hlc : l.length ≤ c) (hc : c ≤ 9223372036854775807) (hlk : l.length + k.length ≤ 100000000)
    (A : Option Addr) (m ck : Nat) (hm : k.length = m) (hne : k ≠ []) (hr : BytesAt w w.heap.size A k) :
    ∃ v w', (Builtin.append_ #[39, 39] ty #[.slice (some ⟨g, 0, none⟩) l.length c, .slice A m ck]).run Tryd.prog w = .ok v w' ∧ GrowPost w g l k v w' := by
  subst hm
  obtain ⟨i, h1, h2, h3, h4⟩ := infoU8
  obtain ⟨ad, rfl, _, hcell⟩ := hr hne
  have hnews : ∀ j u, (cellsOfBytes k)[j]? = some u → w.cell? (ad.add j) = some u := fun j u hu => by
    have hj : j < k.length := by
      have := (List.getElem?_eq_some_iff.1 hu).1
      rwa [cellsOfBytes_length] at this
    rw [cellsOfBytes_get k j hj] at hu
    rw [← Option.some.inj hu]
    exact hcell j hj
  by_cases hroom : l.length + k.length ≤ c
  · have hrun := run_append_room (P := Tryd.prog) w 39 ty 5 i Tryd.underlying39 h1 g l.length c _ hb ad k.length ck (cellsOfBytes k) (by rw [cellsOfBytes_length, h3, Nat.mul_one]) hnews (oneCell_bytes k) hroom
      (by rw [h3, List.size_toArray, cellsOfBytes_length, cellsOfBytes_length, List.length_append, List.length_replicate]; omega)
    refine ⟨_, _, hrun, g, c, rfl, hc, ?_, hroom, .inl rfl, ⟨rfl, rfl, rfl, by simp, fun x _ hx => setRow_other w g x _ hx⟩⟩
    have e := setRow_heap w g _ (((cellsOfBytes (l ++ List.replicate (c - l.length) 0)).toArray.toList.take (l.length * i.size) ++ cellsOfBytes k ++ (cellsOfBytes (l ++ List.replicate (c - l.length) 0)).toArray.toList.drop (l.length * i.size + (cellsOfBytes k).length)).toArray) 5 _ hb
    refine Eq.trans e ?_
    congr 3
    rw [h3, Nat.mul_one, List.toList_toArray, cellsOfBytes_length]
    have e1 : (cellsOfBytes (l ++ List.replicate (c - l.length) 0)).take l.length = cellsOfBytes l := by simp [cellsOfBytes]
    have e2 : (cellsOfBytes (l ++ List.replicate (c - l.length) 0)).drop (l.length + k.length) = cellsOfBytes (List.replicate (c - (l.length + k.length)) 0) := by
      rw [cellsOfBytes_append, List.drop_append, List.drop_eq_nil_of_le (by rw [cellsOfBytes_length]; omega), List.nil_append, cellsOfBytes_length]
      simp only [cellsOfBytes, List.map_replicate, List.drop_replicate]
      congr 1
      omega
    rw [e1, e2, cellsOfBytes_append, cellsOfBytes_append]
  · have holds : ∀ j u, (cellsOfBytes l)[j]? = some u → w.cell? ((⟨g, 0, none⟩ : Addr).add j) = some u := fun j u hu => by
      rw [addr_zero_add]
      refine hb.cell ?_
      rw [cellsOfBytes_append, List.getElem?_append_left (List.getElem?_eq_some_iff.1 hu).1]
      exact hu
    have hrun := run_append_grow (P := Tryd.prog) w 39 ty 5 i (.int .u8 0) Tryd.underlying39 h1 h2 ⟨g, 0, none⟩ l.length c (cellsOfBytes l) (by rw [cellsOfBytes_length, h3, Nat.mul_one]) holds ad k.length ck (cellsOfBytes k) (by rw [cellsOfBytes_length, h3, Nat.mul_one])
      hnews (by omega) (by omega) (growslice_fits (by omega) (by rw [h4]; omega))
    have hge := grownCap_ge w (l.length + k.length) c 5
    have hle := grownCap_le_maxLen w (l.length + k.length) c 5 (by unfold maxLen; omega)
    obtain ⟨cc, hcc⟩ : ∃ x, x = grownCap w (l.length + k.length) c 5 := ⟨_, rfl⟩
    rw [← hcc] at hrun hge hle
    refine ⟨_, _, hrun, w.heap.size, cc, rfl, by unfold maxLen at hle; omega, ?_, hge, .inr (Nat.le_refl _), Frame.of_below ((Below.refl _ w).drew.alloc (Nat.le_refl _) _)⟩
    have hz : ∀ n, (Builtin.zeroCells (Value.int .u8 0).cells n) = (List.replicate n (Value.int .u8 0)).toArray := fun n => by
      apply Array.toList_inj.1
      simp [Builtin.zeroCells, Value.cells, Nat.mod_one, List.map_const']
    unfold BlkR
    rw [hz]
    refine Eq.trans (heap_alloc_new w.drew _) ?_
    simp [cellsOfBytes]
end Go.Proofs.YtfopjilncfndnaaDoor
