/-
  SessionOnce: what settling wants, of each side. Conditions: none.
-/
import Derived.Test.YtfopjilncfndnaaDoorSsOnceBeg
namespace Go.Proofs.YtfopjilncfndnaaDoor
open Go.RowKit Fix

theorem recv_keeps {t : Ss.S} {d : Ss.D} {x m : Nat} (hd : d.boot = x) (hb : t.o.boot = x) (h1 : 1 ≤ m) (hm : t.o.has m = true) : (t.recv d).o.has m = true := by
  have e : t.meet d = t.o := by unfold Ss.S.meet; rw [if_neg (by omega)]
  unfold Ss.S.recv
  rw [if_neg (by omega), e]
  split
  · exact hm
  · rename_i g
    have hno : t.o.has d.num = false := by
      cases hh : t.o.has d.num
      · rfl
      · exact absurd (.inr hh) g
    show (t.o.add d.num).has m = true
    rw [Ss.has_add _ (Nat.pos_of_ne_zero fun e => g (.inl e)) hno m h1, hm]
    simp
/-- i is s; the other one has the first k of what waits there -/
def EK (i : Nat) (s : Ss.S) (k : Nat) (j : Nat) (t : Ss.S) : Prop := (j = i → t = s) ∧ (j = 1 - i → ∀ c m, c < k → s.wait[c]? = some m → t.o.boot = On.bo i ∧ t.o.has m.1 = true)
section
variable {T : Nat → List (List UInt8)} {D : Nat → Nat → Bool} {i k : Nat} {s t u : Ss.S}
theorem side_o (hi : i < 2) (h : SideI T D (1 - i) t) : On.Side T D (1 - i) i t := by
  have e : 1 - (1 - i) = i := by omega
  unfold SideI at h
  rwa [e] at h
theorem ek_step (hi : i < 2) (hs : SideI T D (1 - i) t) (he : EK i s k (1 - i) t) {msg : Nat × List UInt8} (hm : s.wait[k]? = some msg) (hg : On.Goes T D i (1 - i) (s.dat msg)) (h1 : ∀ m ∈ s.wait, 1 ≤ m.1) : EK i s (k + 1) (1 - i) (t.recv (s.dat msg)) := by
  refine ⟨fun e => by omega, fun _ c m hc hcm => ?_⟩
  obtain ⟨_, _, r⟩ := On.Side.recv (side_o hi hs) (by omega) hg
  obtain ⟨r1, r2⟩ := r (h1 msg (List.mem_of_getElem? hm))
  refine ⟨r1, ?_⟩
  by_cases e : c = k
  · subst e
    rw [hm] at hcm
    cases hcm
    exact r2
  · obtain ⟨g1, g2⟩ := he.2 rfl c m (by omega) hcm
    exact recv_keeps hg.boot g1 (h1 m (List.mem_of_getElem? hcm)) g2
theorem ek_all (he : EK i s k (1 - i) u) (hk : k = s.wait.length) : ∀ m ∈ s.wait, u.o.boot = On.bo i ∧ u.o.has m.1 = true := fun m hm => by
  obtain ⟨c, hc, hcm⟩ := List.mem_iff_getElem.1 hm
  exact he.2 rfl c m (by omega) (by rw [List.getElem?_eq_getElem hc, hcm])
/-- an Ack behind it -/
theorem ek_ack (hi : i < 2) (hs : SideI T D i s) (hu : SideI T D (1 - i) u) (he : EK i s k (1 - i) u) (hk : k = s.wait.length) : s.news (u.dat (0, [])) = false ∧ SideI T D i (s.recv (u.dat (0, []))) ∧ (s.recv (u.dat (0, []))).wait = [] := by
  have hn : s.news (u.dat (0, [])) = false := by unfold Ss.S.news; simp [Ss.S.dat]
  obtain ⟨_, r, _⟩ := On.Side.recv (i := i) (j := 1 - i) hs (by omega) (On.Side.ack (side_o hi hu))
  have et : On.told D (1 - i) s (u.dat (0, [])) = D := by unfold On.told; rw [hn]; exact if_neg (by decide)
  rw [et] at r
  refine ⟨hn, r, ?_⟩
  have ew : (s.recv (u.dat (0, []))).wait = (s.told (u.dat (0, []))).wait := by
    unfold Ss.S.recv
    split
    · rfl
    · split <;> rfl
  rw [ew]
  refine On.Sends.none_ hs.sends ?_ fun m hm => (ek_all he hk m hm).2
  cases hw : s.wait with
  | nil => exact .inl rfl
  | cons m l => exact .inr (((ek_all he hk m (by rw [hw]; simp)).1).trans hs.boot.symm)
/-- those sent last were told -/
theorem ek_last (hi : i < 2) (hs : SideI T D i s) (hu : SideI T D (1 - i) u) (he : EK i s k (1 - i) u) (hk : k = s.wait.length) (c : Nat) (hc : c < (T i).length) (h16 : (T i).length ≤ c + 16) : D i (c + 1) = true := by
  rcases hs.sends.last (c + 1) (by omega) (by omega) with h | h | h
  · obtain ⟨m, hm, e⟩ := List.mem_map.1 h
    obtain ⟨g1, g2⟩ := ek_all he hk m hm
    rw [e] at g2
    exact On.last16 (side_o hi hu).hears (c + 1) (by omega) (by omega) g1 g2
  · exact h
  · omega
end
section
variable {w0 w w' : World} {q a b : Nat} {V : Nat → Value} {T : Nat → List (List UInt8)} {D : Nat → Nat → Bool} {X : Nat → List Tx} {L : List Lt} {E : Nat → Ss.S → Prop}
/-- nothing is on its way any more -/
theorem way_nil (h : PrE w0 w q a b V T D X L E) : w.frozen? ⟨q, 2, none⟩ = false ∧ w.cell? ⟨q, 2, none⟩ = some (V 2) ∧ PrE w0 (w.setCell ⟨q, 2, none⟩ (.slice none 0 0)) q a b (On.upf V 2 (.slice none 0 0)) T D X [] E := by
  have fr : Frame (fun g => (V 2).ownBlock = some g) w w := Frame.refl _ _
  have hat : ∀ g, (Value.slice none 0 0).ownBlock = some g → (V 2).ownBlock = some g ∨ (w.heap.size ≤ g ∧ g < w.heap.size) := fun g e => by cases e
  have P := h.pm.put 2 (by decide) (.slice none 0 0) 0 [] OwnK.nil_ fr hat
  refine ⟨h.pm.blk.frozen 2, h.pm.row (by decide) (by decide), P.congr fun k k2 k6 => ?_, (fun x hx => by cases hx), fun i hi => ⟨(h.txs i hi).1, fun t ht => ?_⟩, h.shp⟩
  · by_cases e : k = 2
    · subst e
      rw [On.upf_at, On.upf_at]
      exact ⟨rfl, rfl⟩
    · rw [On.upf_ne _ _ e, On.upf_ne _ _ e]
      unfold prN prX
      rw [if_neg e, if_neg e, if_neg e, if_neg e]
      exact ⟨rfl, rfl⟩
  · obtain ⟨g1, g2⟩ := (h.txs i hi).2 t ht
    exact ⟨g1, g2.put 2 (by decide) _ fr hat⟩
/-- i's session, known -/
theorem pr_pin (h : Pr w0 w q a b V T D X L) {i : Nat} (hi : i < 2) : ∃ s, SideI T D i s ∧ PrE w0 w q a b V T D X L (EK i s 0) := by
  obtain ⟨s, hs, bt⟩ := pin (h.e.bti hi)
  refine ⟨s, hs.1, ⟨h.pm.sess (of_bti (P := fun j t => SideI T D j t ∧ EK i s 0 j t) hi (show BtI w0 w a b i _ _ _ from Bt.weak bt (fun t e => by subst e; exact ⟨hs.1, fun _ => rfl, fun y => by omega⟩) fun t e => ⟨e.1, fun y => by omega, fun _ c m hc => by omega⟩)) (Frame.refl _ _), h.lts, h.txs, h.shp⟩⟩
/-- one more of those that were sent again arrives -/
theorem set_step {i k : Nat} {s : Ss.S} (hi : i < 2) (h : PrE w0 w q a b V T D X L (EK i s k)) (hT : ∀ i, i < 2 → (T i).length ≤ 100) (h1 : ∀ m ∈ s.wait, 1 ≤ m.1) (x : Lt) (hx : L[k]? = some x) (msg : Nat × List UInt8) (hm : s.wait[k]? = some msg) (e1 : x.dst = 1 - i) (e2 : x.d = s.dat msg) :
    Calls Tryd.prog 34 #[.pointer (some ⟨q, 0, none⟩), .agg #[.int .i64 (x.dst : Int), .slice x.A (x.d.pay.length + 41) x.c]] w (ArTo w0 q a b V T D X L (EK i s (k + 1))) := by
  have hlt := h.lts x (List.mem_of_getElem? hx)
  refine pr_arrives h x hlt hT (fun t ht he => ?_) (fun t he => ?_)
  · rw [e2]
    rw [e1] at ht he ⊢
    refine ek_step hi ht he hm ?_ h1
    have g := hlt.goes
    rw [e1, e2, show 1 - (1 - i) = i by omega] at g
    exact g
  · rw [e1, show 1 - (1 - i) = i by omega] at he ⊢
    exact ⟨he.1, fun y => by omega⟩
end
end Go.Proofs.YtfopjilncfndnaaDoor
