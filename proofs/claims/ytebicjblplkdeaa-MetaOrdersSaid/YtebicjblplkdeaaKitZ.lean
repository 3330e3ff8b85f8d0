/-
  Bytes in a slice of the call's own whose whole block is bytes; append of bytes to it; tandemkit.OverBytes over it. Conditions: the sizes that are named.
-/
import Derived.Test.YtebicjblplkdeaaKitOwn
import Derived.Test.YtebicjblplkdeaaRow
import Derived.Laws.BitsAllLaws
namespace Go.Proofs.Ytebicjblplkdeaa
open Go.RowKit

/-- v is a slice of the call's own (of blocks from base on) that holds just the bytes l, in a block of bytes alone -/
def OwnZ (w : World) (base : Nat) (v : Value) (l : List UInt8) : Prop :=
  (v = .slice none 0 0 ∧ l = []) ∨ ∃ (g c : Nat) (m : List UInt8), v = .slice (some ⟨g, 0, none⟩) l.length c ∧ base ≤ g ∧ BlkB w g m ∧ m.length = c ∧ m.take l.length = l ∧ l.length ≤ c ∧ c ≤ maxLen
theorem cellsOfBytes_app (a b : List UInt8) : cellsOfBytes (a ++ b) = cellsOfBytes a ++ cellsOfBytes b := by simp [cellsOfBytes]
theorem cellsOfBytes_len (a : List UInt8) : (cellsOfBytes a).length = a.length := by simp [cellsOfBytes]
theorem zeroCells_u8 (n : Nat) : Builtin.zeroCells #[Value.int .u8 0] n = (cellsOfBytes (List.replicate n 0)).toArray := by
  apply Array.ext
  · simp [Builtin.zeroCells, cellsOfBytes]
  · intro i h1 h2
    simp only [Builtin.zeroCells, cellsOfBytes, Array.getElem_map, List.getElem_toArray, List.getElem_map, List.getElem_replicate]
    simp [Nat.mod_one]
section
variable {w w' : World} {base B : Nat} {v : Value} {l : List UInt8}
theorem OwnZ.nil_ : OwnZ w base (.slice none 0 0) [] := .inl ⟨rfl, rfl⟩
theorem OwnZ.own (h : OwnZ w base v l) : OwnB w base v l := by
  rcases h with ⟨rfl, rfl⟩ | ⟨g, c, m, rfl, hb, hk, hm, ht, hl, hc⟩
  · exact OwnB.nil_
  · refine ⟨by rw [cellsOfBytes_len, Nat.mul_one], .inr ⟨g, c, _, rfl, hb, hk, hl, hc, by rw [List.size_toArray, cellsOfBytes_len, hm, Nat.mul_one], ?_⟩⟩
    rw [Nat.mul_one, List.toList_toArray]
    unfold cellsOfBytes
    rw [← List.map_take, ht]
theorem OwnZ.below (h : OwnZ w base v l) (hb : Below w.heap.size w w') : OwnZ w' base v l := by
  rcases h with h | ⟨g, c, m, e, hg, hk, r⟩
  · exact .inl h
  · exact .inr ⟨g, c, m, e, hg, hk.below hb hk.lt, r⟩
theorem OwnZ.alloc (h : OwnZ w base v l) (o : Obj) : OwnZ (w.alloc o) base v l := h.below ((Below.refl _ _).alloc (Nat.le_refl _) o)
theorem OwnZ.less {b : Nat} (h : OwnZ w base v l) (hb : b ≤ base) : OwnZ w b v l := by
  rcases h with h | ⟨g, c, m, e, hg, r⟩
  · exact .inl h
  · exact .inr ⟨g, c, m, e, Nat.le_trans hb hg, r⟩
set_option maxRecDepth 100000 in
theorem run_appendZ (hown : OwnZ w base v l) {A : Option Addr} {k : List UInt8} {m c : Nat} (hm : k.length = m) (hr : BytesAt w B A k) (hsz : l.length + k.length ≤ 100000000) (hbase : base ≤ w.heap.size) (ty t : TypeId) (ht : t = 26) :
    ∃ v' w', (Builtin.append_ #[t, t] ty #[v, .slice A m c]).run Try.prog w = .ok v' w' ∧ OwnZ w' base v' (l ++ k) ∧ w.grownBy w' v.ownBlock := by
  subst hm
  subst ht
  have hown' := hown.own
  obtain ⟨i, h1, h2, h3, h4⟩ := infoU8
  rcases A with _ | ad
  · have hk : k = [] := by
      rcases List.eq_nil_or_concat k with h | ⟨a, b, h⟩
      · exact h
      · obtain ⟨ad, e, _⟩ := hr (by rw [h]; simp)
        cases e
    subst hk
    exact ⟨v, w, run_append_nilsrc _ ty _ i Try.underlying26 h1 hown' c, by simpa using hown, World.grownBy.refl w _⟩
  · have hcells : ∀ j u, (cellsOfBytes k)[j]? = some u → w.cell? (ad.add j) = some u := by
      intro j u hu
      have hj : j < k.length := by
        rw [← cellsOfBytes_len k]
        exact (List.getElem?_eq_some_iff.1 hu).1
      obtain ⟨ad', e, _, hc⟩ := hr (by rintro rfl; simp at hj)
      injection e with e
      subst e
      rw [cellsOfBytes_get k j hj] at hu
      rw [← Option.some.inj hu]
      exact hc j hj
    have hz : ∀ (xs : List UInt8) (n : Nat), (cellsOfBytes xs).toArray ++ (cellsOfBytes k).toArray ++ Builtin.zeroCells (Value.int IntKind.u8 0).cells n = (cellsOfBytes (xs ++ k ++ List.replicate n 0)).toArray := fun xs n => by
      rw [show (Value.int IntKind.u8 0).cells = #[Value.int .u8 0] from rfl, zeroCells_u8, cellsOfBytes_app, cellsOfBytes_app]
      simp
    have grown : ∀ (old : Nat) (row : Option Nat), old < l.length + k.length →
        OwnZ (w.drew.alloc (.cells ((cellsOfBytes l).toArray ++ (cellsOfBytes k).toArray ++ Builtin.zeroCells (Value.int IntKind.u8 0).cells (grownCap w (l.length + k.length) old 5 - (l.length + k.length))) 5)) base
          (.slice (some ⟨w.heap.size, 0, none⟩) (l.length + k.length) (grownCap w (l.length + k.length) old 5)) (l ++ k) ∧
        w.grownBy (w.drew.alloc (.cells ((cellsOfBytes l).toArray ++ (cellsOfBytes k).toArray ++ Builtin.zeroCells (Value.int IntKind.u8 0).cells (grownCap w (l.length + k.length) old 5 - (l.length + k.length))) 5)) row := by
      intro old row ho
      have hge := grownCap_ge w (l.length + k.length) old 5
      have hcm : grownCap w (l.length + k.length) old 5 ≤ maxLen := grownCap_le_maxLen w (l.length + k.length) old 5 (by unfold maxLen; omega)
      refine ⟨.inr ⟨w.heap.size, _, l ++ k ++ List.replicate (grownCap w (l.length + k.length) old 5 - (l.length + k.length)) 0, by rw [List.length_append], hbase, ?_, by simp; omega, List.take_left, by rw [List.length_append]; exact hge, hcm⟩, ⟨rfl, rfl, rfl, by simp, fun k hk _ => heap_alloc_old w.drew _ hk⟩⟩
      rw [hz]
      exact heap_alloc_new w.drew _
    rcases hown with ⟨rfl, rfl⟩ | ⟨g, cap, mm, rfl, hbg, hk, hml, htk, hle, hcm⟩
    · by_cases hk0 : k = []
      · subst hk0
        refine ⟨.slice none 0 0, w, ?_, OwnZ.nil_, World.grownBy.refl w _⟩
        simp [Builtin.append_, run_underlying Try.underlying26, sizeOf, typeInfo, h1, Builtin.lenOf, Builtin.firstCells, loadCells, loadCellsFrom]
      · have hpos : 0 < k.length := List.length_pos_iff.2 hk0
        have hrun := run_append_nil (P := Try.prog) w 26 ty 5 i (.int .u8 0) Try.underlying26 h1 h2 ad k.length c (cellsOfBytes k) (by rw [cellsOfBytes_len, h3, Nat.mul_one]) hcells hpos (by simp at hsz; omega) (by rw [h4]; simp at hsz; omega)
        have hgr := grown 0 (Value.ownBlock (.slice none 0 0)) (by simpa using hpos)
        simp only [List.length_nil, Nat.zero_add, List.nil_append, show (cellsOfBytes ([] : List UInt8)).toArray = #[] from rfl, Array.empty_append] at hgr ⊢
        exact ⟨_, _, hrun, hgr.1, hgr.2⟩
    · by_cases hroom : l.length + k.length ≤ cap
      · have hrun := run_append_room (P := Try.prog) w 26 ty 5 i Try.underlying26 h1 g l.length cap (cellsOfBytes mm).toArray hk ad k.length c (cellsOfBytes k) (by rw [cellsOfBytes_len, h3, Nat.mul_one]) hcells (oneCell_bytes k) hroom (by rw [h3, Nat.mul_one, cellsOfBytes_len, List.size_toArray, cellsOfBytes_len, hml]; exact hroom)
        refine ⟨_, _, hrun, ?_, ⟨rfl, rfl, rfl, by simp, fun j _ hj => setRow_other w g j _ (fun e => hj (by simp [Value.ownBlock, e]))⟩⟩
        refine .inr ⟨g, cap, l ++ k ++ mm.drop (l.length + k.length), by rw [List.length_append], hbg, ?_, by simp; omega, List.take_left, by rw [List.length_append]; exact hroom, hcm⟩
        have hrow := setRow_heap w g (cellsOfBytes mm).toArray ((List.take (l.length * i.size) (cellsOfBytes mm).toArray.toList ++ cellsOfBytes k ++ List.drop (l.length * i.size + (cellsOfBytes k).length) (cellsOfBytes mm).toArray.toList).toArray) 5 (0, 0) hk
        unfold BlkB
        rw [hrow, h3, Nat.mul_one, cellsOfBytes_len, List.toList_toArray]
        congr 3
        rw [cellsOfBytes_app, cellsOfBytes_app]
        congr 1
        · congr 1
          conv => rhs; rw [← htk]
          unfold cellsOfBytes
          rw [List.map_take]
        · unfold cellsOfBytes
          rw [List.map_drop]
      · have holds : ∀ j u, (cellsOfBytes l)[j]? = some u → w.cell? ((⟨g, 0, none⟩ : Addr).add j) = some u := World.ownsRow.cells hown' (g := g) rfl
        have hrun := run_append_grow (P := Try.prog) w 26 ty 5 i (.int .u8 0) Try.underlying26 h1 h2 ⟨g, 0, none⟩ l.length cap (cellsOfBytes l) (by rw [cellsOfBytes_len, h3, Nat.mul_one]) holds ad k.length c (cellsOfBytes k) (by rw [cellsOfBytes_len, h3, Nat.mul_one]) hcells (by omega) (by omega) (growslice_fits (by omega) (by rw [h4]; omega))
        have hgr := grown cap (Value.ownBlock (.slice (some ⟨g, 0, none⟩) l.length cap)) (by omega)
        exact ⟨_, _, hrun, hgr.1, hgr.2⟩
theorem wpList_appendZ {ops : Array Oper} {rest : List Oper} {o : Oper} {a : Act} {Q : Exit → Act → World → Prop} (hgd : o.guard = none) (s x : Operand) (t : TypeId) (ht : t = 26)
    (ho : o.op = .call { callee := .builtin .append, args := #[s, x], argTypes := #[t, t] })
    (base : Nat) (v : Value) (l : List UInt8) (hs : a.eval s = v) (hown : OwnZ w base v l) (A : Option Addr) (k : List UInt8) (m c B : Nat) (hx : a.eval x = .slice A m c) (hm : k.length = m) (hr : BytesAt w B A k)
    (hsz : l.length + k.length ≤ 100000000) (hbase : base ≤ w.heap.size)
    (h : ∀ v' w', OwnZ w' base v' (l ++ k) → w.grownBy w' v.ownBlock → wpList Try.prog ops Q rest (a.put o.dst v') w') : wpList Try.prog ops Q (o :: rest) a w := by
  obtain ⟨v', w', hrun, h2, h3⟩ := run_appendZ hown hm hr hsz hbase o.type t ht
  exact wpList_append_run hgd s x t ho hs hx hrun (h v' w' h2 h3)
theorem OwnZ.lt (h : OwnZ w base v l) : ∀ k, v.ownBlock = some k → base ≤ k ∧ k < w.heap.size := h.own.lt
theorem OwnZ.form (h : OwnZ w base v l) : ∃ A c, v = .slice A l.length c ∧ l.length ≤ c := h.own.form
end
theorem overB_gen (g : Nat) (l : List UInt8) (n c : Nat) (hn : l.length = c) (hm : c ≤ 9223372036854775807) (hnc : n ≤ c) (w : World) (hb : BlkB w g l) :
    Calls Try.prog 18 #[.slice (some ⟨g, 0, none⟩) n c] w fun e w' => e = .returned (.tuple #[]) ∧ Below g w w' := by
  have q1 := cut_to (some ⟨g, 0, none⟩) n c c (Nat.le_refl _)
  go_enter Try.func18, Try.ntmps18
  go_wp2
  clear q1
  go_loopw [3] (fun i wr => ∃ k : Nat, k ≤ c ∧ i = .int .i64 (k : Int) ∧ (∃ m : List UInt8, m.length = c ∧ BlkB wr g m) ∧ Below g w wr) (fun i _ => c - (intOf i).toNat)
  case atStart => exact ⟨0, Nat.zero_le _, rfl, ⟨l, hn, hb⟩, Below.refl _ _⟩
  case round =>
    obtain ⟨k, hk, rfl, ⟨m, hml, hbm⟩, hbel⟩ := hrel
    by_cases hkn : k < c
    · have hcell := hbm.cell k (by omega)
      have hfr := hbm.frozen k
      obtain ⟨x, hx⟩ : ∃ x, x = m.getD k 0 := ⟨_, rfl⟩
      rw [← hx] at hcell
      have hv : bits .xor .u8 (x.toNat : Int) 90 = ((x ^^^ 90).toNat : Int) := by
        rw [UInt8.toNat_xor]
        exact u8_xor_nat _ 90 x.toNat_lt (by decide)
      have HB := Lib.hid (And.intro hbm (And.intro hml hv))
      clear hbm hx hml hv
      go_wp2
      go_roundw
      case rel =>
        obtain ⟨hbm, hml, hv⟩ := HB.out
        refine ⟨k + 1, by omega, by go_num, ⟨m.set k (x ^^^ 90), by rw [List.length_set]; exact hml, ?_⟩, hbel.setCell (Nat.le_refl _) _⟩
        rw [hv]
        exact hbm.set_ _ _
      case measure => simp [intOf]; omega
    · obtain rfl : k = c := by omega
      go_wp2
      go_end0
      exact ⟨rfl, hbel⟩
theorem over_nilZ (w : World) : Calls Try.prog 18 #[.slice none 0 0] w fun e w' => e = .returned (.tuple #[]) ∧ w = w' := by
  have q1 := cut_to none 0 0 0 (Nat.le_refl _)
  go_enter Try.func18, Try.ntmps18
  go_wp2
  clear q1
  go_loopw [3] (fun i wr => i = .int .i64 0 ∧ wr = w) (fun i _ => 0)
  case atStart => exact ⟨rfl, rfl⟩
  case round =>
    obtain ⟨rfl, rfl⟩ := hrel
    go_wp2
    go_end0
    exact ⟨rfl, rfl⟩
theorem overZ {w : World} {base : Nat} {A : Option Addr} {n c : Nat} {l : List UInt8} (h : OwnZ w base (.slice A n c) l) :
    Calls Try.prog 18 #[.slice A n c] w fun e w' => e = .returned (.tuple #[]) ∧ Below base w w' := by
  rcases h with ⟨e, rfl⟩ | ⟨g, c', m, e, hg, hk, hm, ht, hl, hc⟩
  · injection e with e1 e2 e3
    subst e1; subst e2; subst e3
    exact (over_nilZ w).mono fun e w' ⟨h1, h2⟩ => ⟨h1, h2 ▸ Below.refl _ _⟩
  · injection e with e1 e2 e3
    subst e1; subst e2; subst e3
    exact (overB_gen g m l.length c hm hc hl w hk).mono fun e w' ⟨h1, h2⟩ => ⟨h1, h2.mono hg⟩
end Go.Proofs.Ytebicjblplkdeaa
