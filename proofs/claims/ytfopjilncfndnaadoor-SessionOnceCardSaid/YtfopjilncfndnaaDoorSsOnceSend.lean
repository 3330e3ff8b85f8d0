/-
  SessionOnce: sends. Conditions: none.
-/
import Derived.Test.YtfopjilncfndnaaDoorSsOnceQ
import Derived.Test.YtfopjilncfndnaaDoorStepK
import Derived.Deep.CutRange
import Derived.Shelf.RegionOpen
namespace Go.Proofs.YtfopjilncfndnaaDoor
open Go.RowKit Fix

theorem u8_ofNat (n : Nat) : IntKind.u8.wrap (n : Int) = ((UInt8.ofNat n).toNat : Int) := by
  show (n : Int) % 256 = _
  rw [UInt8.toNat_ofNat']
  omega
/-- an append of one cell within a region that draws its order -/
theorem step_app1 {P : Program} {T E : TypeId} {z : Value} {bytes : Nat} {w : World} {ops : Array Oper} {o : Oper} {a : Act} {K : Act → World → Prop} {Q : Exit → Act → World → Prop} {X : Prop} (hgd : o.guard = none) (s x : Operand) (el : Elem P T E z bytes)
    (ho : o.op = .call { callee := .builtin .append, args := #[s, x], argTypes := #[T, T] })
    (base : Nat) (v : Value) (xs : List Value) (hs : a.eval s = v) (hown : OwnR E w base v xs) (A : Option Addr) (ys : List Value) (m c B : Nat) (hx : a.eval x = .slice A m c) (hm : ys.length = m) (hr : RowAt w B A ys)
    (h1 : ∀ u ∈ ys, u.oneCell' = true) (hmax : xs.length + ys.length ≤ maxLen) (hsz : (xs.length + ys.length) * bytes ≤ 140737488355328) (hbase : base ≤ w.heap.size)
    (h : ∀ v' w', OwnR E w' base v' (xs ++ ys) → w.grownBy w' v.ownBlock → (v'.ownBlock = v.ownBlock ∨ v'.ownBlock = some w.heap.size) → K (a.put o.dst v') w') :
    if Region.wanted o (yielded ops a.tmps) = true then Oper.wp P o a w K Q else X := by
  obtain ⟨v', w', hrun, h2, h3, h4⟩ := run_appendR el hown hm hr h1 hmax hsz hbase o.type
  exact step_append_run hgd s x T ho hs hx hrun (h _ _ h2 h3 h4)
theorem Pm.congr {w0 w : World} {q a b : Nat} {Pa Pb : Ss.S → Prop} {V : Nat → Value} {n n' : Nat → Nat} {xs xs' : Nat → List Value} (h : Pm w0 w q a b Pa Pb V n xs) (e : ∀ k, 2 ≤ k → k ≤ 6 → n k = n' k ∧ xs k = xs' k) : Pm w0 w q a b Pa Pb V n' xs' :=
  ⟨h.bt, h.blk, h.apart, h.offq, fun k h2 h6 => by obtain ⟨e1, e2⟩ := e k h2 h6; rw [← e1, ← e2]; exact h.rows k h2 h6⟩
theorem own_s {w : World} {base i N : Nat} {v : Value} {xs : List Value} (hi : i < 2) (h : OwnR 39 w base v xs) (hl : xs.length = N) : OwnK (eT (3 + i)) (eK (3 + i)) w base v N xs := by
  rcases (show i = 0 ∨ i = 1 by omega) with rfl | rfl <;> (subst hl; exact h)
theorem own_t {w : World} {base i N : Nat} {v : Value} {xs : List Value} (hi : i < 2) (h : OwnR 4 w base v xs) (hl : xs.length = N) : OwnK (eT (5 + i)) (eK (5 + i)) w base v N xs := by
  rcases (show i = 0 ∨ i = 1 by omega) with rfl | rfl <;> (subst hl; exact h)
theorem of_s {w : World} {base i N : Nat} {v : Value} {xs : List Value} (hi : i < 2) (h : OwnK (eT (3 + i)) (eK (3 + i)) w base v N xs) (hl : xs.length = N) : OwnR 39 w base v xs := by
  rcases (show i = 0 ∨ i = 1 by omega) with rfl | rfl <;> (subst hl; exact h)
theorem of_t {w : World} {base i N : Nat} {v : Value} {xs : List Value} (hi : i < 2) (h : OwnK (eT (5 + i)) (eK (5 + i)) w base v N xs) (hl : xs.length = N) : OwnR 4 w base v xs := by
  rcases (show i = 0 ∨ i = 1 by omega) with rfl | rfl <;> (subst hl; exact h)
section
variable {w0 w w' : World} {q a b : Nat} {V : Nat → Value} {T : Nat → List (List UInt8)} {D : Nat → Nat → Bool} {X : Nat → List Tx} {L : List Lt}
def SideI (T : Nat → List (List UInt8)) (D : Nat → Nat → Bool) (i : Nat) (s : Ss.S) : Prop := On.Side T D i (1 - i) s
theorem Pr.bti (h : Pr w0 w q a b V T D X L) {i : Nat} (hi : i < 2) : BtI w0 w a b i (SideI T D i) (SideI T D (1 - i)) (Wp q V) := bti_of (P := SideI T D) hi h.pm.bt
theorem Pr.xlen (h : Pr w0 w q a b V T D X L) {i : Nat} (hi : i < 2) : (X i).length = (T i).length := by rw [← (h.txs i hi).1, List.length_map]
theorem prN_s (T : Nat → List (List UInt8)) (X : Nat → List Tx) (L : List Lt) {i : Nat} (hi : i < 2) : prN T X L (3 + i) = (X i).length := by
  rcases (show i = 0 ∨ i = 1 by omega) with rfl | rfl <;> rfl
theorem prN_t (T : Nat → List (List UInt8)) (X : Nat → List Tx) (L : List Lt) {i : Nat} (hi : i < 2) : prN T X L (5 + i) = (T i).length := by
  rcases (show i = 0 ∨ i = 1 by omega) with rfl | rfl <;> rfl
theorem prX_s (T : Nat → List (List UInt8)) (D : Nat → Nat → Bool) (X : Nat → List Tx) (L : List Lt) {i : Nat} (hi : i < 2) : prX T D X L (3 + i) = (X i).map txC := by
  rcases (show i = 0 ∨ i = 1 by omega) with rfl | rfl <;> rfl
theorem prX_t (T : Nat → List (List UInt8)) (D : Nat → Nat → Bool) (X : Nat → List Tx) (L : List Lt) {i : Nat} (hi : i < 2) : prX T D X L (5 + i) = rdC (T i).length fun m => D i (m + 1) := by
  rcases (show i = 0 ∨ i = 1 by omega) with rfl | rfl <;> rfl
theorem eT_s {i : Nat} (hi : i < 2) : eT (3 + i) = 39 ∧ eK (3 + i) = 1 := by
  rcases (show i = 0 ∨ i = 1 by omega) with rfl | rfl <;> exact ⟨rfl, rfl⟩
theorem eT_t {i : Nat} (hi : i < 2) : eT (5 + i) = 4 ∧ eK (5 + i) = 1 := by
  rcases (show i = 0 ∨ i = 1 by omega) with rfl | rfl <;> exact ⟨rfl, rfl⟩
/-- the row of i's texts; of what of it was told; of the datagrams on their way -/
theorem Pr.snt (h : Pr w0 w q a b V T D X L) {i : Nat} (hi : i < 2) : OwnR 39 w w0.heap.size (V (3 + i)) ((X i).map txC) := by
  have := h.pm.rows (3 + i) (by omega) (by omega)
  rw [prN_s T X L hi, prX_s T D X L hi, (eT_s hi).1, (eT_s hi).2] at this
  unfold OwnR
  rw [List.length_map]
  exact this
theorem Pr.tld (h : Pr w0 w q a b V T D X L) {i : Nat} (hi : i < 2) : OwnR 4 w w0.heap.size (V (5 + i)) (rdC (T i).length fun m => D i (m + 1)) := by
  have := h.pm.rows (5 + i) (by omega) (by omega)
  rw [prN_t T X L hi, prX_t T D X L hi, (eT_t hi).1, (eT_t hi).2] at this
  unfold OwnR
  rw [show (rdC (T i).length fun m => D i (m + 1)).length = (T i).length by simp [rdC]]
  exact this
theorem Pr.way (h : Pr w0 w q a b V T D X L) : OwnK 86 2 w w0.heap.size (V 2) L.length (L.flatMap ltC) := h.pm.rows 2 (by decide) (by decide)
theorem Pr.step (h : Pr w0 w q a b V T D X L) (B : Below w.heap.size w w') : Pr w0 w' q a b V T D X L :=
  ⟨h.pm.step B, fun m hm => by obtain ⟨h1, h2, h3, h4, h5⟩ := h.lts m hm; exact ⟨h1, h2, h3, h4, h5.step B⟩, fun i hi => ⟨(h.txs i hi).1, fun t ht => by obtain ⟨h1, h2⟩ := (h.txs i hi).2 t ht; exact ⟨h1, h2.step B⟩⟩, h.shp⟩
theorem side_sent {i : Nat} (hi : i < 2) (p : List UInt8) (s : Ss.S) (h : SideI T D (1 - i) s) : SideI (On.upf T i (T i ++ [p])) D (1 - i) s := by
  rcases (show i = 0 ∨ i = 1 by omega) with rfl | rfl
  · exact On.Side.sent h (by decide) p
  · exact On.Side.sent h (by decide) p
/-- a call of i's session, by what it leaves -/
theorem pm_ses {Pa Pb : Ss.S → Prop} {Q : Nat → Ss.S → Prop} {n : Nat → Nat} {xs : Nat → List Value} (h : Pm w0 w q a b Pa Pb V n xs) {i : Nat} (hi : i < 2) (bt : BtI w0 w' a b i (Q i) (Q (1 - i)) (Wp q V)) (F : Frame (AB (ab a b i) (ab a b (1 - i))) w w') : Pm w0 w' q a b (Q 0) (Q 1) V n xs :=
  h.sess (of_bti (P := Q) hi bt) (abi_frame hi F)
/-- two bytes in a new block -/
theorem two_own (w : World) (N : Nat) (X0 : Int) (hX : X0 = ((UInt8.ofNat N).toNat : Int)) : OwnB (w.alloc (.cells #[.int .u8 X0, .int .u8 0] 5)) w.heap.size (.slice (some ⟨w.heap.size, 0, none⟩) 2 2) [UInt8.ofNat N, 0] := by
  subst hX
  exact ⟨rfl, .inr ⟨w.heap.size, 2, _, rfl, Nat.le_refl _, heap_alloc_new w _, Nat.le_refl _, by unfold maxLen; omega, rfl, rfl⟩⟩
/-- a text with its place ahead -/
def txt (n : Nat) (b : List UInt8) : List UInt8 := UInt8.ofNat n :: 0 :: b
/-- nothing beyond what was sent is told -/
theorem Pr.dle (h : Pr w0 w q a b V T D X L) {i : Nat} (hi : i < 2) {m : Nat} (hm : D i m = true) : 1 ≤ m ∧ m ≤ (T i).length := by
  obtain ⟨Fa, Fb, sa, sb, _, h1, h2, _⟩ := h.bti hi
  have k : On.Side T D (1 - i) i sb := by
    have : On.Side T D (1 - i) (1 - (1 - i)) sb := h2
    rwa [show 1 - (1 - i) = i by omega] at this
  exact k.hears.le m hm
theorem rdC_succ (n : Nat) (C : Nat → Bool) (h : C n = false) : rdC n C ++ [.bool false] = rdC (n + 1) C := by
  unfold rdC
  rw [List.range_succ, List.map_append, List.map_singleton, h]
theorem goes_sent {i : Nat} (hi : i < 2) (p : List UInt8) {m : Lt} (hm : m.dst < 2) (h : On.Goes T D (1 - m.dst) m.dst m.d) : On.Goes (On.upf T i (T i ++ [p])) D (1 - m.dst) m.dst m.d := by
  by_cases e : m.dst = i
  · rw [e] at h ⊢
    exact h.sentO (by omega) p
  · have e2 : 1 - m.dst = i := by omega
    rw [e2] at h ⊢
    exact h.sent (by omega) p
/-- all that a payload that was sent leaves -/
theorem pr_sent {wf : World} {V' : Nat → Value} (h : Pr w0 w q a b V T D X L) {i : Nat} (hi : i < 2) {N n n2 c2 c3 : Nat} (hN : N = (T i).length) (hn2 : n2 = n + 2) {bb : List UInt8} (hn : bb.length = n) (h150 : n ≤ 150) {A2 A3 : Option Addr} {d3 : Ss.D} {T2 : Nat → List (List UInt8)}
    (k5 : d3.Ok) (k6 : d3.pay = txt N bb) (k7 : On.Goes T2 D i (1 - i) d3) (h3c : n2 + 41 ≤ c3) (h2c : n2 ≤ c2) (hT2 : T2 = On.upf T i (T i ++ [txt N bb])) (far : ∀ A l, FarB a b q V w A l → FarB a b q V' wf A l) (x5 : FarB a b q V' wf A3 d3.enc) (x6 : FarB a b q V' wf A2 (txt N bb))
    (pm : Pm w0 wf q a b (SideI T2 D 0) (SideI T2 D 1) V' (On.upf (On.upf (On.upf (prN T X L) (3 + i) (N + 1)) (5 + i) (N + 1)) 2 (L.length + 1)) (On.upf (On.upf (On.upf (prX T D X L) (3 + i) ((X i).map txC ++ [.slice A2 n2 c2])) (5 + i) ((rdC N fun m => D i (m + 1)) ++ [.bool false])) 2 (L.flatMap ltC ++ [.int .i64 ((1 - i : Nat) : Int), .slice A3 (n2 + 41) c3]))) :
    ∃ V' X' L', Pr w0 wf q a b V' T2 D X' L' ∧ L'.length = L.length + 1 := by
  have hl : (txt N bb).length = n2 := by rw [hn2, ← hn]; rfl
  have hx := h.xlen hi
  have hdf : D i (N + 1) = false := by
    cases e : D i (N + 1)
    · rfl
    · have := (h.dle hi e).2; omega
  refine ⟨V', On.upf X i (X i ++ [⟨A2, c2, txt N bb⟩]), L ++ [⟨1 - i, A3, c3, d3⟩], ⟨?_, fun m hm => ?_, fun j hj => ?_, fun j hj k t ht => ?_⟩, by simp⟩
  · refine pm.congr fun k k2 k6' => ?_
    have eT : T2 i = T i ++ [txt N bb] := by rw [hT2, On.upf_at]
    have eX : On.upf X i (X i ++ [⟨A2, c2, txt N bb⟩]) i = X i ++ [⟨A2, c2, txt N bb⟩] := On.upf_at ..
    by_cases e2 : k = 2
    · subst e2
      rw [On.upf_at, On.upf_at]
      refine ⟨by show _ = (L ++ [_]).length; simp, ?_⟩
      show _ = (L ++ [_]).flatMap ltC
      rw [List.flatMap_append, List.flatMap_singleton]
      show _ = _ ++ [Value.int .i64 ((1 - i : Nat) : Int), .slice A3 (d3.pay.length + 41) c3]
      rw [k6, hl]
    · rw [On.upf_ne _ _ e2, On.upf_ne _ _ e2]
      by_cases e5 : k = 5 + i
      · subst e5
        rw [On.upf_at, On.upf_at, prN_t _ _ _ hi, prX_t _ _ _ _ hi, eT]
        have : (T i ++ [txt N bb]).length = N + 1 := by rw [List.length_append, ← hN]; rfl
        rw [this]
        exact ⟨rfl, rdC_succ N _ hdf⟩
      · rw [On.upf_ne _ _ e5, On.upf_ne _ _ e5]
        by_cases e3 : k = 3 + i
        · subst e3
          rw [On.upf_at, On.upf_at, prN_s _ _ _ hi, prX_s _ _ _ _ hi, eX]
          refine ⟨by rw [List.length_append, hx, hN]; rfl, ?_⟩
          rw [List.map_append, List.map_singleton]
          show _ = _ ++ [Value.slice A2 (txt N bb).length c2]
          rw [hl]
        · rw [On.upf_ne _ _ e3, On.upf_ne _ _ e3]
          have ho : 1 - i ≠ i := by omega
          have fX : On.upf X i (X i ++ [⟨A2, c2, txt N bb⟩]) (1 - i) = X (1 - i) := On.upf_ne _ _ ho
          have fT : T2 (1 - i) = T (1 - i) := by rw [hT2]; exact On.upf_ne _ _ ho
          rcases (show k = 3 + (1 - i) ∨ k = 5 + (1 - i) by omega) with rfl | rfl
          · rw [prN_s _ _ _ (by omega), prN_s _ _ _ (by omega), prX_s _ _ _ _ (by omega), prX_s _ _ _ _ (by omega), fX]
            exact ⟨rfl, rfl⟩
          · rw [prN_t _ _ _ (by omega), prN_t _ _ _ (by omega), prX_t _ _ _ _ (by omega), prX_t _ _ _ _ (by omega), fT]
            exact ⟨rfl, rfl⟩
  · rcases List.mem_append.1 hm with hm | hm
    · obtain ⟨g1, g2, g3, g4, g5⟩ := h.lts m hm
      exact ⟨g1, by rw [hT2]; exact goes_sent hi _ g1 g2, g3, g4, far _ _ g5⟩
    · rw [List.mem_singleton.1 hm]
      exact ⟨by show 1 - i < 2; omega, by show On.Goes T2 D (1 - (1 - i)) (1 - i) d3; rw [show 1 - (1 - i) = i by omega]; exact k7, k5, by show d3.pay.length + 41 ≤ c3; rw [k6, hl]; exact h3c, x5⟩
  · by_cases e : j = i
    · subst e
      rw [On.upf_at, hT2, On.upf_at]
      refine ⟨by rw [List.map_append, (h.txs j hj).1]; rfl, fun t ht => ?_⟩
      rcases List.mem_append.1 ht with ht | ht
      · obtain ⟨g1, g2⟩ := (h.txs j hj).2 t ht
        exact ⟨g1, far _ _ g2⟩
      · rw [List.mem_singleton.1 ht]
        exact ⟨by show (txt N bb).length ≤ c2; rw [hl]; exact h2c, x6⟩
    · rw [On.upf_ne _ _ e, hT2, On.upf_ne _ _ e]
      exact ⟨(h.txs j hj).1, fun t ht => by obtain ⟨g1, g2⟩ := (h.txs j hj).2 t ht; exact ⟨g1, far _ _ g2⟩⟩
  · by_cases e : j = i
    · subst e
      rw [hT2, On.upf_at] at ht
      by_cases hk : k < (T j).length
      · rw [List.getElem?_append_left hk] at ht
        exact h.shp j hj k t ht
      · rw [List.getElem?_append_right (by omega)] at ht
        obtain ⟨g1, g2⟩ := List.getElem?_eq_some_iff.1 ht
        simp at g1 g2
        have : k = N := by omega
        subst this
        exact ⟨bb, by rw [← g2]; rfl, by omega⟩
    · rw [hT2, On.upf_ne _ _ e] at ht
      exact h.shp j hj k t ht
set_option maxRecDepth 100000 in
set_option maxHeartbeats 4000000 in
theorem pr_sends (h : Pr w0 w q a b V T D X L) (i : Nat) (hi : i < 2) (P : Option Addr) (bb : List UInt8) (n c : Nat) (hn : bb.length = n) (h150 : n ≤ 150) (hP : BytesAt w0 w0.heap.size P bb) (hN : (T i).length < 100) (hL : L.length ≤ 4000) :
    Calls Tryd.prog 32 #[.pointer (some ⟨q, 0, none⟩), .int .i64 (i : Int), .slice P n c] w fun e w' => e = .returned (.bool true) ∧ ∃ V' X' L', Pr w0 w' q a b V' (On.upf T i (T i ++ [txt (T i).length bb])) D X' L' ∧ L'.length = L.length + 1 := by
  obtain ⟨N, hN0⟩ : ∃ N, N = (T i).length := ⟨_, rfl⟩
  obtain ⟨As, cs, hVs, hcs, hcm⟩ := (h.snt hi).form
  rw [List.length_map, h.xlen hi, ← hN0] at hVs hcs
  have K : ∀ w1, Below w.heap.size w w1 → w1.cell? ⟨q, 3 + i, none⟩ = some (.slice As N cs) ∧ w1.cell? ⟨q, i, none⟩ = some (.pointer (some ⟨ab a b i, 0, none⟩)) := fun w1 B => ⟨by rw [← hVs]; exact (h.pm.step B).row (by omega) (by omega), (h.pm.step B).ses hi⟩
  obtain ⟨y1, y2⟩ := K w (Below.refl _ w)
  have HK := Lib.hid K
  have HH := Lib.hid h
  obtain ⟨X0, hX0⟩ : ∃ X0 : Int, X0 = ((UInt8.ofNat N).toNat : Int) := ⟨_, rfl⟩
  have hu1 : IntKind.u8.wrap (N : Int) = X0 := by rw [hX0]; exact u8_ofNat N
  have hN1 : (N : Int) < 100 := by omega
  have hi2 : (i : Int) < 2 := by omega
  have HN := Lib.hid (And.intro hN0 (And.intro hX0 hN))
  have hd : (N : Int) / 256 = 0 := by omega
  obtain ⟨w1, hw1⟩ : ∃ w1, w1 = w.alloc (.cells #[.int .u8 X0, .int .u8 0] 5) := ⟨_, rfl⟩
  have B1 : Below w.heap.size w w1 := by rw [hw1]; exact step_alloc (Below.refl _ w) _
  have OW : Hid (OwnB w1 w.heap.size (.slice (some ⟨w.heap.size, 0, none⟩) 2 2) [UInt8.ofNat N, 0]) := Lib.hid (by rw [hw1]; exact two_own w N X0 hX0)
  have HP := Lib.hid (hP.below (h.pm.fr.trans (B1.mono h.pm.fr.size)))
  obtain ⟨n2, hn2⟩ : ∃ n2, n2 = n + 2 := ⟨_, rfl⟩
  have ht : (txt N bb).length = n2 := by rw [hn2, ← hn]; rfl
  have BB := Lib.hid B1
  -- Send, at whichever world behind
  have ZS := Lib.hid (fun (w2 : World) (A2 : Option Addr) (c2 : Nat) (B2 : Below w.heap.size w w2) (x2 : FarB a b q V w2 A2 (txt N bb)) =>
    bt_sendR (R := On.Goes (On.upf T i (T i ++ [txt N bb])) D i (1 - i)) ((h.step B2).bti hi) (Qa := SideI (On.upf T i (T i ++ [txt N bb])) D i) A2 (txt N bb) n2 c2 ht (by omega) (abi_txt hi x2.txt) fun s (k : On.Side T D i (1 - i) s) => ⟨by have := k.sends.sent; omega, k.send (by omega) _, k.datS (by omega) _⟩)
  have HT := Lib.hid (And.intro ht hn2)
  clear K h hX0 hN0 hVs B1 ht hP hn2
  go_enter Tryd.func32, Tryd.ntmps32
  go_upto_region 6 with (first
    | (at_builtin; rw [← hw1]; refine wpList_appendB rfl (.tmp 23) (.tmp 24) 39 rfl rfl w.heap.size _ [UInt8.ofNat N, 0] rfl OW.out P bb n c w0.heap.size rfl hn HP.out (by rw [hn]; show 2 + n ≤ _; omega) BB.out.size ?_; (intro v2 w2 o2 g2 a2; obtain ⟨A2, c2, e2, hc2⟩ := o2.form; have B2 := BB.out.grown g2 BB.out.size (fun j hj => (OW.out.lt j hj).1); have x2 : FarB a b q V w2 A2 (txt N bb) := HH.out.pm.far (by rw [e2] at o2; exact o2.bytes) (fun ad e => (o2.lt ad.block (by rw [e2, e]; rfl)).1); rw [show ([UInt8.ofNat N, 0] ++ bb).length = n2 from HT.out.1] at e2 hc2; subst e2; obtain ⟨z1, z2⟩ := HK.out w2 B2; have zs := ZS.out w2 A2 c2 B2 x2; have x2 := Lib.hid (And.intro x2 (And.intro hc2 B2)); clear o2 g2 a2 hw1 hc2 B2))
    | (go_at_call 16; (with_reducible refine zs.mono ?_); (rintro e w3 ⟨A3, c3, d3, rfl, k2, k3, k4, k5, k6, k7, k8, k9⟩; have S3 := Lib.hid (And.intro k2 (And.intro k3 (And.intro k4 (And.intro k5 (And.intro k6 (And.intro k7 (And.intro k8 k9))))))); clear k2 k3 k4 k5 k6 k7 k8 k9)))
  obtain ⟨h3c, k3, k4, k5, k6, k7, k8, k9⟩ := S3.out
  obtain ⟨x2f, hc2, B2⟩ := x2.out
  have hpm2 := (HH.out.step B2).pm
  obtain ⟨T2, hT2⟩ : ∃ T2, T2 = On.upf T i (T i ++ [txt N bb]) := ⟨_, rfl⟩
  rw [← hT2] at k3 k7
  have P3 : Pm w0 w3 q a b (SideI T2 D 0) (SideI T2 D 1) V (prN T X L) (prX T D X L) := pm_ses hpm2 hi (Q := SideI T2 D) (Bt.weak k3 (fun _ h => h) (by rw [hT2]; exact side_sent hi _)) k9
  have F3 : ∀ A l, FarB a b q V w A l → FarB a b q V w3 A l := fun A l hA => (hA.step B2).sess (abi_frame hi k9)
  have x3 : FarB a b q V w3 A3 d3.enc := hpm2.far k4 k8
  have x2' : FarB a b q V w3 A2 (txt N bb) := x2f.sess (abi_frame hi k9)
  have hVs := P3.row (k := 3 + i) (by omega) (by omega)
  have hV2 : V (3 + i) = .slice As N cs := by
    have := (HK.out w (Below.refl _ w)).1
    have e := HH.out.pm.row (k := 3 + i) (by omega) (by omega)
    rw [this] at e
    injection e with e
    exact e.symm
  rw [hV2] at hVs
  have hXl : ((X i).map txC).length = N := by rw [List.length_map, HH.out.xlen hi]; exact HN.out.1.symm
  have ROW : Hid (∀ w5, Below w3.heap.size w3 w5 → OwnR 39 w5 w0.heap.size (.slice As N cs) ((X i).map txC)) := Lib.hid fun w5 B => by
    have := (P3.step B).rows (3 + i) (by omega) (by omega)
    rw [prN_s T X L hi, prX_s T D X L hi, hV2, show (X i).length = N by rw [← hXl, List.length_map]] at this
    exact of_s hi this hXl
  have POST : Hid (∀ w5 w' v', Below w3.heap.size w3 w5 → OwnR 39 w' w0.heap.size v' ((X i).map txC ++ [.slice A2 n2 c2]) → w5.grownBy w' (Value.slice As N cs).ownBlock → (v'.ownBlock = (Value.slice As N cs).ownBlock ∨ v'.ownBlock = some w5.heap.size) →
      w'.frozen? ⟨q, 3 + i, none⟩ = false ∧ w'.cell? ⟨q, 3 + i, none⟩ = some (.slice As N cs) ∧ PutTo w0 w3 q a b (SideI T2 D 0) (SideI T2 D 1) V (prN T X L) (prX T D X L) (3 + i) (N + 1) ((X i).map txC ++ [.slice A2 n2 c2]) v' (w'.setCell ⟨q, 3 + i, none⟩ v')) := Lib.hid fun w5 w' v' B5 o1 o2 o3 => by
    rw [← hV2] at o2 o3 ⊢
    exact pm_app P3 (3 + i) (by omega) B5 (own_s hi o1 (by rw [List.length_append, hXl]; rfl)) o2 o3
  have C3 := Lib.hid (fun w5 (B : Below w3.heap.size w3 w5) => (P3.step B).row (k := 3 + i) (by omega) (by omega))
  have y5 : ∀ o, (w3.alloc o).cell? ⟨q, 3 + i, none⟩ = some (.slice As N cs) := fun o => by rw [← hV2]; exact C3.out _ (step_alloc (Below.refl _ w3) o)
  have HB := Lib.hid P3.fr.size
  have HXl := Lib.hid hXl
  have ALL := Lib.hid (And.intro P3 (And.intro F3 (And.intro x3 (And.intro x2' (And.intro hT2 hV2)))))
  clear k3 k4 k5 k6 k7 k8 k9 h3c P3 F3 x3 x2' x2f hc2 B2 hpm2 hT2 hV2 hXl z1 z2
  obtain ⟨xs, hxs⟩ : ∃ xs, xs = (X i).map txC := ⟨_, rfl⟩
  rw [← hxs] at ROW POST HXl
  have HXE := Lib.hid hxs
  clear hxs
  go_cut [] from 39 to 52 (fun wx => ∃ v', PutTo w0 w3 q a b (SideI T2 D 0) (SideI T2 D 1) V (prN T X L) (prX T D X L) (3 + i) (N + 1) (xs ++ [.slice A2 n2 c2]) v' wx)
  case first =>
    go_region_law (refine step_app1 rfl (.tmp 46) (.tmp 48) elDs rfl w0.heap.size (.slice As N cs) xs (by simp [Act.eval]) (ROW.out _ (step_alloc (Below.refl _ w3) _).drew) (some ⟨w3.heap.size, 0, none⟩) [.slice A2 n2 c2] 1 1 (w3.heap.size + 1) (by simp [Act.eval]) rfl ((BlkR.new w3 [.slice A2 n2 c2] 39).row (ys := [.slice A2 n2 c2]) ⟨[], rfl⟩ (Nat.lt_succ_self _)) (by intro u hu; simp only [List.mem_cons, List.not_mem_nil, or_false] at hu; subst hu; rfl) (by rw [HXl.out]; have := HN.out.2.2; unfold maxLen; simp; omega) (by rw [HXl.out]; have := HN.out.2.2; simp; omega) (by have := HB.out; simp; omega) ?_; (intro v9 w9 o9 gr9 k9; obtain ⟨f9, x9, T9⟩ := POST.out _ _ _ (step_alloc (Below.refl _ w3) _).drew o9 gr9 k9; obtain ⟨A9, c9, e9, _⟩ := o9.form; rw [show (xs ++ [Value.slice A2 n2 c2]).length = N + 1 by rw [List.length_append, HXl.out]; rfl] at e9; subst e9; have T9 := Lib.hid T9; clear o9 gr9 k9))
    all_goals (go_wp2_with fail; go_meet)
    all_goals exact ⟨_, T9.out⟩
  case rest =>
    obtain ⟨v1, hput1⟩ := hcut
    obtain ⟨V1, hV1⟩ : ∃ V1, V1 = On.upf V (3 + i) v1 := ⟨_, rfl⟩
    obtain ⟨n1, hn1⟩ : ∃ n1, n1 = On.upf (prN T X L) (3 + i) (N + 1) := ⟨_, rfl⟩
    obtain ⟨xs1, hxs1⟩ : ∃ xs1, xs1 = On.upf (prX T D X L) (3 + i) (xs ++ [.slice A2 n2 c2]) := ⟨_, rfl⟩
    have P4 : Pm w0 wc q a b (SideI T2 D 0) (SideI T2 D 1) V1 n1 xs1 := by rw [hV1, hn1, hxs1]; exact hput1.pm
    have F4 : ∀ A l, FarB a b q V w3 A l → FarB a b q V1 wc A l := by rw [hV1]; exact hput1.far
    have hv5 : V1 (5 + i) = V (5 + i) := by rw [hV1]; exact On.upf_ne _ _ (by omega)
    have hn5 : n1 (5 + i) = N ∧ xs1 (5 + i) = rdC N fun m => D i (m + 1) := by
      rw [hn1, hxs1, On.upf_ne _ _ (by omega), On.upf_ne _ _ (by omega), prN_t T X L hi, prX_t T D X L hi, ← HN.out.1]
      exact ⟨rfl, rfl⟩
    obtain ⟨At, ct, hVt, _⟩ := (HH.out.tld hi).form
    rw [show (rdC (T i).length fun m => D i (m + 1)).length = N by simp [rdC, HN.out.1]] at hVt
    rw [hVt] at hv5
    obtain ⟨ys, hys⟩ : ∃ ys, ys = rdC N fun m => D i (m + 1) := ⟨_, rfl⟩
    have hyl : ys.length = N := by rw [hys]; simp [rdC]
    rw [← hys] at hn5
    have ROW2 : Hid (∀ w5, Below wc.heap.size wc w5 → OwnR 4 w5 w0.heap.size (.slice At N ct) ys) := Lib.hid fun w5 B => by
      have := (P4.step B).rows (5 + i) (by omega) (by omega)
      rw [hn5.1, hn5.2, hv5] at this
      exact of_t hi this hyl
    have POST2 : Hid (∀ w5 w' v', Below wc.heap.size wc w5 → OwnR 4 w' w0.heap.size v' (ys ++ [.bool false]) → w5.grownBy w' (Value.slice At N ct).ownBlock → (v'.ownBlock = (Value.slice At N ct).ownBlock ∨ v'.ownBlock = some w5.heap.size) →
        w'.frozen? ⟨q, 5 + i, none⟩ = false ∧ w'.cell? ⟨q, 5 + i, none⟩ = some (.slice At N ct) ∧ PutTo w0 wc q a b (SideI T2 D 0) (SideI T2 D 1) V1 n1 xs1 (5 + i) (N + 1) (ys ++ [.bool false]) v' (w'.setCell ⟨q, 5 + i, none⟩ v')) := Lib.hid fun w5 w' v' B5 o1 o2 o3 => by
      rw [← hv5] at o2 o3 ⊢
      exact pm_app P4 (5 + i) (by omega) B5 (own_t hi o1 (by rw [List.length_append, hyl]; rfl)) o2 o3
    have z5 : wc.cell? ⟨q, 5 + i, none⟩ = some (.slice At N ct) := by rw [← hv5]; exact P4.row (by omega) (by omega)
    have z6 : ∀ o, (wc.alloc o).cell? ⟨q, 5 + i, none⟩ = some (.slice At N ct) := fun o => by rw [← hv5]; exact (P4.step (step_alloc (Below.refl _ wc) o)).row (by omega) (by omega)
    have HB2 := Lib.hid P4.fr.size
    have HYL := Lib.hid hyl
    have ALL2 := Lib.hid (And.intro P4 (And.intro F4 (And.intro hV1 (And.intro hn1 (And.intro hxs1 (And.intro hys hv5))))))
    clear P4 F4 hV1 hn1 hxs1 hys hv5 hn5 hVt hyl hput1 y5 hVs
    go_upto_region 7 with fail
    go_cut [] from 53 to 65 (fun wx => ∃ v', PutTo w0 wc q a b (SideI T2 D 0) (SideI T2 D 1) V1 n1 xs1 (5 + i) (N + 1) (ys ++ [.bool false]) v' wx)
    case first =>
      go_region_law (refine step_app1 rfl (.tmp 60) (.tmp 61) elBl rfl w0.heap.size (.slice At N ct) ys (by simp [Act.eval]) (ROW2.out _ (step_alloc (Below.refl _ wc) _).drew) (some ⟨wc.heap.size, 0, none⟩) [.bool false] 1 1 (wc.heap.size + 1) (by simp [Act.eval]) rfl ((BlkR.new wc [.bool false] 4).row (ys := [.bool false]) ⟨[], rfl⟩ (Nat.lt_succ_self _)) (by intro u hu; simp only [List.mem_cons, List.not_mem_nil, or_false] at hu; subst hu; rfl) (by rw [HYL.out]; have := HN.out.2.2; unfold maxLen; simp; omega) (by rw [HYL.out]; have := HN.out.2.2; simp; omega) (by have := HB2.out; simp; omega) ?_; (intro v9 w9 o9 gr9 k9; obtain ⟨f9, x9, T9⟩ := POST2.out _ _ _ (step_alloc (Below.refl _ wc) _).drew o9 gr9 k9; obtain ⟨A9, c9, e9, _⟩ := o9.form; rw [show (ys ++ [Value.bool false]).length = N + 1 by rw [List.length_append, HYL.out]; rfl] at e9; subst e9; have T9 := Lib.hid T9; clear o9 gr9 k9))
      all_goals (go_wp2_with fail; go_meet)
      all_goals exact ⟨_, T9.out⟩
    case rest =>
      obtain ⟨v2, hput2⟩ := hcut
      obtain ⟨P4, F4, hV1, hn1, hxs1, hys, hv5⟩ := ALL2.out
      obtain ⟨V2, hV2'⟩ : ∃ V2, V2 = On.upf V1 (5 + i) v2 := ⟨_, rfl⟩
      obtain ⟨m2, hm2⟩ : ∃ m2, m2 = On.upf n1 (5 + i) (N + 1) := ⟨_, rfl⟩
      obtain ⟨xs2, hxs2⟩ : ∃ xs2, xs2 = On.upf xs1 (5 + i) (ys ++ [.bool false]) := ⟨_, rfl⟩
      have P5 : Pm w0 wc q a b (SideI T2 D 0) (SideI T2 D 1) V2 m2 xs2 := by rw [hV2', hm2, hxs2]; exact hput2.pm
      have F5 : ∀ A l, FarB a b q V w A l → FarB a b q V2 wc A l := fun A l hA => by rw [hV2']; exact hput2.far _ _ (F4 _ _ (ALL.out.2.1 _ _ hA))
      have x5 : FarB a b q V2 wc A3 d3.enc := by rw [hV2']; exact hput2.far _ _ (F4 _ _ ALL.out.2.2.1)
      have x6 : FarB a b q V2 wc A2 (txt N bb) := by rw [hV2']; exact hput2.far _ _ (F4 _ _ ALL.out.2.2.2.1)
      have hv2 : V2 2 = V 2 := by rw [hV2', On.upf_ne _ _ (by omega), hV1, On.upf_ne _ _ (by omega)]
      have hmm : m2 2 = L.length ∧ xs2 2 = L.flatMap ltC := by
        rw [hm2, hxs2, On.upf_ne _ _ (by omega), On.upf_ne _ _ (by omega), hn1, hxs1, On.upf_ne _ _ (by omega), On.upf_ne _ _ (by omega)]
        exact ⟨rfl, rfl⟩
      obtain ⟨Aw, cw, hVw, _⟩ := HH.out.way.form
      rw [hVw] at hv2
      obtain ⟨M, hM⟩ : ∃ M, M = L.length := ⟨_, rfl⟩
      rw [← hM] at hv2 hmm
      obtain ⟨ws, hws⟩ : ∃ ws, ws = L.flatMap ltC := ⟨_, rfl⟩
      rw [← hws] at hmm
      have ROW3 : Hid (∀ w5, Below wc.heap.size wc w5 → OwnK 86 2 w5 w0.heap.size (.slice Aw M cw) M ws) := Lib.hid fun w5 B => by
        have := (P5.step B).rows 2 (by decide) (by decide)
        rw [hmm.1, hmm.2, hv2] at this
        exact this
      have POST3 : Hid (∀ w5 w' v', Below wc.heap.size wc w5 → OwnK 86 2 w' w0.heap.size v' (M + 1) (ws ++ [.int .i64 ((1 - i : Nat) : Int), .slice A3 (n2 + 41) c3]) → w5.grownBy w' (Value.slice Aw M cw).ownBlock → (v'.ownBlock = (Value.slice Aw M cw).ownBlock ∨ v'.ownBlock = some w5.heap.size) →
          w'.frozen? ⟨q, 2, none⟩ = false ∧ w'.cell? ⟨q, 2, none⟩ = some (.slice Aw M cw) ∧ PutTo w0 wc q a b (SideI T2 D 0) (SideI T2 D 1) V2 m2 xs2 2 (M + 1) (ws ++ [.int .i64 ((1 - i : Nat) : Int), .slice A3 (n2 + 41) c3]) v' (w'.setCell ⟨q, 2, none⟩ v')) := Lib.hid fun w5 w' v' B5 o1 o2 o3 => by
        rw [← hv2] at o2 o3 ⊢
        exact pm_app P5 2 (by decide) B5 o1 o2 o3
      have u2 : wc.cell? ⟨q, 2, none⟩ = some (.slice Aw M cw) := by rw [← hv2]; exact P5.row (by decide) (by decide)
      have hwj : IntKind.i64.wrap (1 - (i : Int)) = ((1 - i : Nat) : Int) := by rw [IntWalk.i64_in _ (by omega)]; omega
      have HB3 := Lib.hid P5.fr.size
      have HM := Lib.hid (show M ≤ 4000 by omega)
      have ALL3 := Lib.hid (And.intro P5 (And.intro F5 (And.intro x5 (And.intro x6 (And.intro hV2' (And.intro hm2 (And.intro hxs2 (And.intro hM hws))))))))
      obtain ⟨J, hJ⟩ : ∃ J, J = ((1 - i : Nat) : Int) := ⟨_, rfl⟩
      rw [← hJ] at hwj POST3
      have HJ := Lib.hid hJ
      clear P4 F4 hV1 hn1 hxs1 hys hv5 hV2' hm2 hxs2 P5 F5 x5 x6 hv2 hmm hVw hM hws hJ hput2 z5 z6
      go_wp2_with (at_builtin; refine wpList_appendK rfl (.tmp 70) (.tmp 75) elLt rfl (.slice Aw M cw) M ws [.int .i64 J, .slice A3 (n2 + 41) c3] 1 w0.heap.size rfl (ROW3.out _ (step_alloc (Below.refl _ wc) _)) ⟨wc.heap.size, 0, none⟩ 1 rfl rfl (fun j u hu => by rw [addr_zero_add]; exact (BlkR.new wc [.int .i64 J, .slice A3 (n2 + 41) c3] 86).cell hu) (by intro u hu; simp only [List.mem_cons, List.not_mem_nil, or_false] at hu; rcases hu with rfl | rfl <;> rfl) (by have := HM.out; unfold maxLen; omega) (by have := HM.out; omega) (by have := HB3.out; simp; omega) ?_; (intro v9 w9 o9 gr9 k9; obtain ⟨f9, x9, T9⟩ := POST3.out _ _ _ (step_alloc (Below.refl _ wc) _) o9 gr9 k9; obtain ⟨A9, c9, e9, _⟩ := o9.form; subst e9; have T9 := Lib.hid T9; clear o9 gr9 k9))
      go_ret
      refine ⟨rfl, ?_⟩
      obtain ⟨P5, F5, x5, x6, hV2', hm2, hxs2, hM, hws⟩ := ALL3.out
      obtain ⟨P4, F4, hV1, hn1, hxs1, hys, hv5⟩ := ALL2.out
      obtain ⟨P3, F3, x3, x2', hT2, hV2⟩ := ALL.out
      obtain ⟨h3c, k3, k4, k5, k6, k7, k8, k9⟩ := S3.out
      obtain ⟨pm9, far9⟩ := T9.out
      subst hV2' hm2 hxs2 hV1 hn1 hxs1 hM hws hys
      have hN := HN.out.1
      rw [HJ.out, HXE.out] at pm9
      rw [hT2] at pm9
      subst hN
      exact pr_sent HH.out hi rfl HT.out.2 hn h150 k5 k6 k7 h3c x2.out.2.1 rfl (fun A l hA => far9 _ _ (F5 _ _ hA)) (far9 _ _ x5) (far9 _ _ x6) pm9
end
end Go.Proofs.YtfopjilncfndnaaDoor
