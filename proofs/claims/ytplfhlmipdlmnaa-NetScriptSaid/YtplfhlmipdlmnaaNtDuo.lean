/-
  A net beside the document's own: each of their calls by one contract. Conditions: how many were lost is a number far from the greatest; the bytes can be read.
-/
import Derived.Test.YtplfhlmipdlmnaaNtRef5
import Derived.Test.YtplfhlmipdlmnaaBa
import Derived.Laws.BitsAllLaws
namespace Go.Proofs.Ytplfhlmipdlmnaa
open Go.RowKit Nt

def OverPostN (g : Nat) (w : World) (e : Ending) (w' : World) : Prop := e = .returned (.tuple #[]) ∧ Frame (fun k => k = g) w w'
theorem over_genN (E : TypeId) (g : Nat) (l : List UInt8) (n c : Nat) (hn : l.length = c) (hm : c ≤ 1000000) (w : World) (hb : BlkR E w g (cellsOfBytes l)) :
    Calls Try.prog 29 #[.slice (some ⟨g, 0, none⟩) n c] w (OverPostN g w) := by
  have q1 := cut_to (some ⟨g, 0, none⟩) n c c (Nat.le_refl _)
  have hsz := Lib.hid hb.lt
  go_enter Try.func29, Try.ntmps29
  go_wp2
  clear q1
  go_loopw [3] (fun i wr => ∃ k : Nat, k ≤ c ∧ i = .int .i64 (k : Int) ∧ (∃ m : List UInt8, m.length = c ∧ BlkR E wr g (cellsOfBytes m)) ∧ Frame (fun k => k = g) w wr) (fun i _ => c - (intOf i).toNat)
  case atStart => exact ⟨0, Nat.zero_le _, rfl, ⟨l, hn, hb⟩, Frame.refl _ _⟩
  case round =>
    obtain ⟨k, hk, rfl, ⟨m, hml, hbm⟩, hbel⟩ := hrel
    by_cases hkn : k < c
    · have hcell := hbm.cell (cellsOfBytes_get m k (by omega))
      have hfr := hbm.frozen k
      obtain ⟨x, hx⟩ : ∃ x, x = m.getD k 0 := ⟨_, rfl⟩
      rw [← hx] at hcell
      have hv : bits .xor .u8 (x.toNat : Int) 90 = ((x ^^^ 90).toNat : Int) := by
        rw [UInt8.toNat_xor]
        exact u8_xor_nat _ 90 x.toNat_lt (by decide)
      have HB := Lib.hid (And.intro hbm (And.intro hml hv))
      have HF := Lib.hid hbel
      clear hbm hx hml hv hbel
      go_wp2
      go_roundw
      case rel =>
        obtain ⟨hbm, hml, hv⟩ := HB.out
        refine ⟨k + 1, by omega, by go_num, ⟨m.set k (x ^^^ 90), by rw [List.length_set]; exact hml, ?_⟩, ?_⟩
        · rw [hv]
          have e : cellsOfBytes (m.set k (x ^^^ 90)) = (cellsOfBytes m).set k (.int .u8 ((x ^^^ 90).toNat : Int)) := by simp [cellsOfBytes, List.map_set]
          rw [e]
          exact hbm.set_ k _
        · have h1 : Frame (fun k => k = g) wr (wr.setCell ⟨g, k, none⟩ (.int .u8 (bits .xor .u8 (x.toNat : Int) 90))) := ⟨rfl, rfl, rfl, Nat.le_of_eq (by simp [World.setCell]), fun j _ hj => Below.heap_setCell wr ⟨g, k, none⟩ _ j hj⟩
          exact Frame.trans (F := fun k => k = g) (G := fun k => k = g) HF.out h1 (fun j hj => .inl hj)
      case measure => simp [intOf]; omega
    · obtain rfl : k = c := by omega
      have HF := Lib.hid hbel
      go_wp2
      go_end0
      exact ⟨rfl, HF.out⟩

/-- a net at b and the document's at c, both made behind w0; the blocks Ws, of neither, lie behind w0 too -/
def Du (w0 w : World) (b c : Nat) (s t : N) (Ws : Nat → Prop) : Prop :=
  ∃ G, RfAt w c G t ∧ w0.heap.size ≤ c ∧ (∀ j, G j → w0.heap.size ≤ j) ∧ Nz w0 w b s (fun j => j = c ∨ G j ∨ Ws j) ∧ ∀ j, Ws j → j ≠ c ∧ ¬ G j ∧ w0.heap.size ≤ j
def DuTo (w0 w : World) (b c : Nat) (s t : N) (Ws : Nat → Prop) (w' : World) : Prop := Du w0 w' b c s t Ws ∧ Frame (Xw w0 Ws) w w'
section
variable {w0 w w' : World} {b c : Nat} {s t s2 t2 : N} {Ws Wz : Nat → Prop}
theorem Du.fr (h : Du w0 w b c s t Ws) : Below w0.heap.size w0 w := by obtain ⟨_, _, _, _, h, _⟩ := h; exact h.fr
theorem Du.wlt (h : Du w0 w b c s t Ws) : ∀ j, Ws j → j < w.heap.size := by obtain ⟨_, _, _, _, h, _⟩ := h; exact fun j hj => h.wlt j (.inr (.inr hj))
/-- new blocks beside both -/
theorem Du.add (h : Du w0 w b c s t Ws) (B : Below w.heap.size w w') (hz : ∀ j, Wz j → Ws j ∨ (w.heap.size ≤ j ∧ j < w'.heap.size)) : Du w0 w' b c s t Wz := by
  obtain ⟨G, h1, h2, h3, h4, h5⟩ := h
  have hc := h1.blt
  have hs := h4.fr.size
  refine ⟨G, h1.step B, h2, h3, h4.wrote (Frame.of_below B) (fun j hj => ?_) (fun j hj => ?_), fun j hj => ?_⟩
  · rcases hj with e | e | e
    · omega
    · exact h3 j e
    · exact (h5 j e).2.2
  · rcases hj with e | e | e
    · exact .inl (.inl e)
    · exact .inl (.inr (.inl e))
    · exact (hz j e).imp (fun x => .inr (.inr x)) id
  · rcases hz j hj with x | x
    · exact h5 j x
    · exact ⟨by omega, fun e => by have := h1.lt j e; omega, by omega⟩
theorem Du.step (h : Du w0 w b c s t Ws) (B : Below w.heap.size w w') : Du w0 w' b c s t Ws := h.add B fun _ hj => .inl hj
theorem Du.less (h : Du w0 w b c s t Ws) (hz : ∀ j, Wz j → Ws j) : Du w0 w b c s t Wz := h.add (Below.refl _ _) fun j hj => .inl (hz j hj)
/-- blocks beside both are written -/
theorem Du.wrote (h : Du w0 w b c s t Ws) (fr : Frame Ws w w') : Du w0 w' b c s t Ws := by
  obtain ⟨G, h1, h2, h3, h4, h5⟩ := h
  refine ⟨G, h1.frame fr (fun e => (h5 _ e).1 rfl) (fun j hj e => (h5 j e).2.1 hj), h2, h3, h4.wrote (fr.mono fun j e => .inr (.inr e)) (fun j hj => ?_) (fun j hj => .inl hj), h5⟩
  rcases hj with e | e | e
  · omega
  · exact h3 j e
  · exact (h5 j e).2.2
theorem Du.net (h : Du w0 w b c s t Ws) : ∃ Wy, Nz w0 w b s Wy ∧ (∀ s2 w', Went w0 w b s2 Wy w' → DuTo w0 w b c s2 t Ws w') ∧
    ∀ s2 w' A k, Nz w0 w' b s2 (fun j => Wy j ∨ BlockOf A k j) → Frame (Xw w0 Wy) w w' → (∀ j, BlockOf A k j → w.heap.size ≤ j) → Du w0 w' b c s2 t (fun j => Ws j ∨ BlockOf A k j) ∧ Frame (Xw w0 Ws) w w' := by
  obtain ⟨G, h1, h2, h3, h4, h5⟩ := h
  have hc := h1.blt
  have hs := h4.fr.size
  have K : ∀ w', Frame (Xw w0 fun j => j = c ∨ G j ∨ Ws j) w w' → RfAt w' c G t ∧ Frame (Xw w0 Ws) w w' := fun w' fr => ⟨h1.frame fr (fun e => e.1 (.inl rfl)) (fun j hj e => e.1 (.inr (.inl hj))), fr.mono fun j e => ⟨fun x => e.1 (.inr (.inr x)), e.2⟩⟩
  refine ⟨_, h4, fun s2 w' T => ?_, fun s2 w' A k N fr hA => ?_⟩
  · obtain ⟨k1, k2⟩ := K w' T.2
    exact ⟨⟨G, k1, h2, h3, T.1, h5⟩, k2⟩
  · obtain ⟨k1, k2⟩ := K w' fr
    refine ⟨⟨G, k1, h2, h3, N.less fun j hj => ?_, fun j hj => ?_⟩, k2⟩
    · rcases hj with e | e | e | e
      · exact .inl (.inl e)
      · exact .inl (.inr (.inl e))
      · exact .inl (.inr (.inr e))
      · exact .inr e
    · rcases hj with e | e
      · exact h5 j e
      · have := hA j e
        exact ⟨by omega, fun x => by have := h1.lt j x; omega, by omega⟩
theorem Du.ref (h : Du w0 w b c s t Ws) : ∃ G, RfAt w c G t ∧ ∀ t2 w', RfTo w c G t2 w' → DuTo w0 w b c s t2 Ws w' ∧ ∀ j, G j → ¬ Ws j ∧ w0.heap.size ≤ j := by
  obtain ⟨G, h1, h2, h3, h4, h5⟩ := h
  have hs := h4.fr.size
  have hw : ∀ j, (j = c ∨ G j ∨ Ws j) → w0.heap.size ≤ j := fun j hj => by
    rcases hj with e | e | e
    · omega
    · exact h3 j e
    · exact (h5 j e).2.2
  have hl := h4.wlt
  refine ⟨G, h1, fun t2 w' ⟨G', a1, a2, a3⟩ => ⟨⟨⟨G', a1, h2, fun j hj => (a2 j hj).elim (h3 j) fun x => by omega, h4.wrote (a3.mono fun j e => e.imp id .inl) hw (fun j hj => ?_), fun j hj => ⟨(h5 j hj).1, fun e => (a2 j e).elim (h5 j hj).2.1 fun x => ?_, (h5 j hj).2.2⟩⟩, a3.mono fun j e => ?_⟩, fun j hj => ⟨fun e => (h5 j e).2.1 hj, h3 j hj⟩⟩⟩
  · rcases hj with e | e | e
    · exact .inl (.inl e)
    · exact (a2 j e).imp (fun x => .inr (.inl x)) fun x => ⟨x, a1.lt j e⟩
    · exact .inl (.inr (.inr e))
  · have := hl j (.inr (.inr hj)); omega
  · rcases e with e | e
    · exact ⟨fun x => (h5 j x).1 e, by omega⟩
    · exact ⟨fun x => (h5 j x).2.1 e, h3 j e⟩
theorem DuTo.blk {E : TypeId} {g : Nat} {xs : List Value} (h : DuTo w0 w b c s t Ws w') (hg : Ws g) (hb : BlkR E w g xs) : BlkR E w' g xs := (h.2.block g hb.lt fun e => e.1 hg).trans hb
theorem DuTo.blkB {g : Nat} {l : List UInt8} (h : DuTo w0 w b c s t Ws w') (hg : Ws g) (hb : BlkB w g l) : BlkB w' g l := h.2.blk hb fun e => e.1 hg
theorem du_send (h : Du w0 w b c s t Ws) (i j : Int) (P : Option Addr) (l : List UInt8) (n k : Nat) (hn : l.length = n) (hr : BytesAt w w.heap.size P l) (hl : s.lost ≤ 4611686018427387904) (E : Int) (s2 : N) (hE : N.sendE i j n = E) (hs : s.send i j l = s2) :
    Calls Try.prog 17 #[.pointer (some ⟨b, 0, none⟩), .int .i64 i, .int .i64 j, .slice P n k] w fun e w' => e = .returned (.int .i64 E) ∧ DuTo w0 w b c s2 t Ws w' := by
  obtain ⟨Wy, h1, h2, _⟩ := h.net
  exact (nz_send h1 i j P l n k hn hr hl E s2 hE hs).mono fun e w' ⟨k1, k2⟩ => ⟨k1, h2 _ _ k2⟩
theorem du_sendR (h : Du w0 w b c s t Ws) (i j : Int) (P : Option Addr) (l : List UInt8) (n k : Nat) (hn : l.length = n) (hr : BytesAt w w.heap.size P l) (hl : t.lost ≤ 4611686018427387904) (E : Int) (t2 : N) (hE : N.sendE i j n = E) (hs : t.send i j l = t2) :
    Calls Try.prog 27 #[.pointer (some ⟨c, 0, none⟩), .int .i64 i, .int .i64 j, .slice P n k] w fun e w' => e = .returned (.int .i64 E) ∧ DuTo w0 w b c s t2 Ws w' := by
  obtain ⟨G, h1, h2⟩ := h.ref
  exact (rfSend_any h1 i j P l n k hn hr hl E t2 hE hs).mono fun e w' ⟨k1, k2⟩ => ⟨k1, (h2 _ _ k2).1⟩
theorem du_cut (h : Du w0 w b c s t Ws) (i j : Int) (is : Bool) (E : Int) (s2 : N) (hE : N.cutE i j = E) (hs : s.cut i j is = s2) :
    Calls Try.prog 23 #[.pointer (some ⟨b, 0, none⟩), .int .i64 i, .int .i64 j, .bool is] w fun e w' => e = .returned (.int .i64 E) ∧ DuTo w0 w b c s2 t Ws w' := by
  obtain ⟨Wy, h1, h2, _⟩ := h.net
  exact (nz_cut h1 i j is E s2 hE hs).mono fun e w' ⟨k1, k2⟩ => ⟨k1, h2 _ _ k2⟩
theorem du_cutR (h : Du w0 w b c s t Ws) (i j : Int) (is : Bool) (E : Int) (t2 : N) (hE : N.cutE i j = E) (hs : t.cut i j is = t2) :
    Calls Try.prog 34 #[.pointer (some ⟨c, 0, none⟩), .int .i64 i, .int .i64 j, .bool is] w fun e w' => e = .returned (.int .i64 E) ∧ DuTo w0 w b c s t2 Ws w' := by
  obtain ⟨G, h1, h2⟩ := h.ref
  exact (rfCut_any h1 i j is E t2 hE hs).mono fun e w' ⟨k1, k2⟩ => ⟨k1, (h2 _ _ k2).1⟩
theorem du_drop (h : Du w0 w b c s t Ws) (i : Int) (hl : s.lost ≤ 4611686018427387904) (E : Int) (s2 : N) (hE : s.lookE i = E) (hs : s.dropI i = s2) :
    Calls Try.prog 22 #[.pointer (some ⟨b, 0, none⟩), .int .i64 i] w fun e w' => e = .returned (.int .i64 E) ∧ DuTo w0 w b c s2 t Ws w' := by
  obtain ⟨Wy, h1, h2, _⟩ := h.net
  exact (nz_drop h1 i hl E s2 hE hs).mono fun e w' ⟨k1, k2⟩ => ⟨k1, h2 _ _ k2⟩
theorem du_dropR (h : Du w0 w b c s t Ws) (i : Int) (hl : t.lost ≤ 4611686018427387904) (E : Int) (t2 : N) (hE : t.lookE i = E) (hs : t.dropI i = t2) :
    Calls Try.prog 32 #[.pointer (some ⟨c, 0, none⟩), .int .i64 i] w fun e w' => e = .returned (.int .i64 E) ∧ DuTo w0 w b c s t2 Ws w' := by
  obtain ⟨G, h1, h2⟩ := h.ref
  exact (rfDrop_any h1 i hl E t2 hE hs).mono fun e w' ⟨k1, k2⟩ => ⟨k1, (h2 _ _ k2).1⟩
theorem du_double (h : Du w0 w b c s t Ws) (i : Int) (E : Int) (s2 : N) (hE : s.doubleE i = E) (hs : s.double i = s2) :
    Calls Try.prog 18 #[.pointer (some ⟨b, 0, none⟩), .int .i64 i] w fun e w' => e = .returned (.int .i64 E) ∧ DuTo w0 w b c s2 t Ws w' := by
  obtain ⟨Wy, h1, h2, _⟩ := h.net
  exact (nz_double h1 i E s2 hE hs).mono fun e w' ⟨k1, k2⟩ => ⟨k1, h2 _ _ k2⟩
theorem du_doubleR (h : Du w0 w b c s t Ws) (i : Int) (E : Int) (t2 : N) (hE : t.doubleE i = E) (hs : t.double i = t2) :
    Calls Try.prog 33 #[.pointer (some ⟨c, 0, none⟩), .int .i64 i] w fun e w' => e = .returned (.int .i64 E) ∧ DuTo w0 w b c s t2 Ws w' := by
  obtain ⟨G, h1, h2⟩ := h.ref
  exact (rfDouble_any h1 i E t2 hE hs).mono fun e w' ⟨k1, k2⟩ => ⟨k1, (h2 _ _ k2).1⟩
theorem du_clear (h : Du w0 w b c s t Ws) (hl : s.lost ≤ 4611686018427387904) (s2 : N) (hs : s.clear = s2) : Calls Try.prog 24 #[.pointer (some ⟨b, 0, none⟩)] w fun e w' => e = .returned (.int .i64 0) ∧ DuTo w0 w b c s2 t Ws w' := by
  obtain ⟨Wy, h1, h2, _⟩ := h.net
  exact (nz_clear h1 hl s2 hs).mono fun e w' ⟨k1, k2⟩ => ⟨k1, h2 _ _ k2⟩
theorem du_clearR (h : Du w0 w b c s t Ws) (hl : t.lost ≤ 4611686018427387904) (t2 : N) (hs : t.clear = t2) : Calls Try.prog 35 #[.pointer (some ⟨c, 0, none⟩)] w fun e w' => e = .returned (.tuple #[]) ∧ DuTo w0 w b c s t2 Ws w' := by
  obtain ⟨G, h1, h2⟩ := h.ref
  exact (rfClear_any h1 hl t2 hs).mono fun e w' ⟨k1, k2⟩ => ⟨k1, (h2 _ _ k2).1⟩
/-- what the net's Look and Deliver tell -/
def DuTells (w0 w : World) (b c : Nat) (s t : N) (Ws : Nat → Prop) (p : Pk) (E : Int) (e : Ending) (w' : World) : Prop :=
  ∃ A k, e = .returned (.tuple #[.agg (pkCells ⟨p, A, k⟩).toArray, .int .i64 E]) ∧ k ≤ 9223372036854775807 ∧ Whole w' w.heap.size A k p.b ∧ Du w0 w' b c s t (fun j => Ws j ∨ BlockOf A k j) ∧ Frame (Xw w0 Ws) w w'
theorem du_tells (h : Du w0 w b c s t Ws) {p : Pk} {E : Int} {f : FuncId} {args : Array Value} (hc : ∀ Wy, Nz w0 w b s Wy → Calls Try.prog f args w (Tells w0 w b s2 Wy p E)) : Calls Try.prog f args w (DuTells w0 w b c s2 t Ws p E) := by
  obtain ⟨Wy, h1, _, h3⟩ := h.net
  refine (hc Wy h1).mono fun e w' ⟨A, k, k1, k2, k3, k4, k5⟩ => ?_
  obtain ⟨y1, y2⟩ := h3 s2 w' A k k4 k5 fun j hj => by
    obtain ⟨h0, ad, e1, hk⟩ := hj
    obtain ⟨g, t, E, e2, hg, _, _⟩ := k3.resolve_left fun x => h0 x.2
    rw [e1] at e2; cases e2
    rw [← hk]; exact hg
  exact ⟨A, k, k1, k2, k3, y1, y2⟩
theorem du_look (h : Du w0 w b c s t Ws) (i : Int) (p : Pk) (E : Int) (hp : s.at_ i = p) (hE : s.lookE i = E) : Calls Try.prog 19 #[.pointer (some ⟨b, 0, none⟩), .int .i64 i] w (DuTells w0 w b c s t Ws p E) := du_tells h fun _ h1 => nz_look h1 i p E hp hE
theorem du_deliver (h : Du w0 w b c s t Ws) (i : Int) (p : Pk) (E : Int) (s2 : N) (hp : s.at_ i = p) (hE : s.lookE i = E) (hs : s.del i = s2) : Calls Try.prog 20 #[.pointer (some ⟨b, 0, none⟩), .int .i64 i] w (DuTells w0 w b c s2 t Ws p E) := du_tells h fun _ h1 => nz_deliver h1 i p E s2 hp hE hs
/-- what the document's Look and Deliver tell -/
def DuTellR (w0 w : World) (b c : Nat) (s t : N) (Ws : Nat → Prop) (p : Pk) (E : Int) (e : Ending) (w' : World) : Prop :=
  ∃ A k, e = .returned (.tuple #[.agg (pkCells ⟨p, A, k⟩).toArray, .int .i64 E]) ∧ BytesAt w' w'.heap.size A p.b ∧ (∀ ad, A = some ad → p.b ≠ [] → ¬ Ws ad.block) ∧ DuTo w0 w b c s t Ws w'
theorem du_lookR (h : Du w0 w b c s t Ws) (i : Int) (p : Pk) (E : Int) (hp : t.at_ i = p) (hE : t.lookE i = E) : Calls Try.prog 30 #[.pointer (some ⟨c, 0, none⟩), .int .i64 i] w (DuTellR w0 w b c s t Ws p E) := by
  obtain ⟨G, h1, h2⟩ := h.ref
  exact (rfLook_any h1 i p E hp hE).mono fun e w' ⟨A, k, k1, k2, _, k4, k5⟩ => ⟨A, k, k1, k2, fun ad e hne => ((h2 _ _ k5).2 _ (k4 ad e hne)).1, (h2 _ _ k5).1⟩
theorem du_deliverR (h : Du w0 w b c s t Ws) (i : Int) (p : Pk) (E : Int) (t2 : N) (hp : t.at_ i = p) (hE : t.lookE i = E) (hs : t.del i = t2) : Calls Try.prog 31 #[.pointer (some ⟨c, 0, none⟩), .int .i64 i] w (DuTellR w0 w b c s t2 Ws p E) := by
  obtain ⟨G, h1, h2⟩ := h.ref
  exact (rfDeliver_any h1 i p E t2 hp hE hs).mono fun e w' ⟨A, k, k1, k2, _, k4, k5⟩ => ⟨A, k, k1, k2, fun ad e hne => ((h2 _ _ k5).2 _ (k4 ad e hne)).1, (h2 _ _ k5).1⟩
end
end Go.Proofs.Ytplfhlmipdlmnaa
