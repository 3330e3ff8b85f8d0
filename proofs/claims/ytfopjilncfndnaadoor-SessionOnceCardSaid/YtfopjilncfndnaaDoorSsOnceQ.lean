/-
  The pair of SessionOnce: what it holds between two moves; a row grows; calls of its sessions. Conditions: none.
-/
import Derived.Test.YtfopjilncfndnaaDoorSsOnceP
import Derived.Test.YtfopjilncfndnaaDoorSsResend
namespace Go.Proofs.YtfopjilncfndnaaDoor
open Go.RowKit Fix

/-- a text that was sent -/
structure Tx where
  A : Option Addr
  c : Nat
  l : List UInt8
def txC (t : Tx) : Value := .slice t.A t.l.length t.c
/-- a datagram on its way -/
structure Lt where
  dst : Nat
  A : Option Addr
  c : Nat
  d : Ss.D
def ltC (m : Lt) : List Value := [.int .i64 (m.dst : Int), .slice m.A (m.d.pay.length + 41) m.c]
theorem lt_len (m : Lt) : (ltC m).length = 2 := rfl
theorem lt_one (m : Lt) : ∀ v ∈ ltC m, v.oneCell' = true := by
  intro v hv
  simp only [ltC, List.mem_cons, List.not_mem_nil, or_false] at hv
  rcases hv with rfl | rfl <;> rfl
def prN (T : Nat → List (List UInt8)) (X : Nat → List Tx) (L : List Lt) (k : Nat) : Nat := if k = 2 then L.length else if k ≤ 4 then (X (k - 3)).length else (T (k - 5)).length
def prX (T : Nat → List (List UInt8)) (D : Nat → Nat → Bool) (X : Nat → List Tx) (L : List Lt) (k : Nat) : List Value :=
  if k = 2 then L.flatMap ltC else if k ≤ 4 then (X (k - 3)).map txC else rdC (T (k - 5)).length fun m => D (k - 5) (m + 1)
/-- a datagram of the pair's -/
structure LtOk (a b q : Nat) (V : Nat → Value) (w : World) (T : Nat → List (List UInt8)) (D : Nat → Nat → Bool) (m : Lt) : Prop where
  dst : m.dst < 2
  goes : On.Goes T D (1 - m.dst) m.dst m.d
  ok : m.d.Ok
  cap : m.d.pay.length + 41 ≤ m.c
  far : FarB a b q V w m.A m.d.enc
structure TxOk (a b q : Nat) (V : Nat → Value) (w : World) (t : Tx) : Prop where
  cap : t.l.length ≤ t.c
  far : FarB a b q V w t.A t.l
/-- text number n of those that are sent -/
def Shp (n : Nat) (t : List UInt8) : Prop := ∃ b, t = UInt8.ofNat n :: 0 :: b ∧ b.length ≤ 150
/-- the pair between two moves; m: how many there may be on their way -/
structure Pr (w0 w : World) (q a b : Nat) (V : Nat → Value) (T : Nat → List (List UInt8)) (D : Nat → Nat → Bool) (X : Nat → List Tx) (L : List Lt) : Prop where
  pm : Pm w0 w q a b (On.Side T D 0 1) (On.Side T D 1 0) V (prN T X L) (prX T D X L)
  lts : ∀ m ∈ L, LtOk a b q V w T D m
  txs : ∀ i, i < 2 → (X i).map (·.l) = T i ∧ ∀ t ∈ X i, TxOk a b q V w t
  shp : ∀ i, i < 2 → ∀ n t, (T i)[n]? = some t → Shp n t
/-- what a row's growth leaves -/
structure PutTo (w0 w : World) (q a b : Nat) (Pa Pb : Ss.S → Prop) (V : Nat → Value) (n : Nat → Nat) (xs : Nat → List Value) (k n' : Nat) (xs' : List Value) (v' : Value) (wx : World) : Prop where
  pm : Pm w0 wx q a b Pa Pb (On.upf V k v') (On.upf n k n') (On.upf xs k xs')
  far : ∀ A l, FarB a b q V w A l → FarB a b q (On.upf V k v') wx A l
section
variable {w0 w w' w5 : World} {q a b : Nat} {Pa Pb : Ss.S → Prop} {V : Nat → Value} {n : Nat → Nat} {xs : Nat → List Value}
theorem pr_cell (a b : Nat) (V : Nat → Value) {k : Nat} (h2 : 2 ≤ k) (h6 : k ≤ 6) : (prC a b V)[k]? = some (V k) := by
  rcases (show k = 2 ∨ k = 3 ∨ k = 4 ∨ k = 5 ∨ k = 6 by omega) with rfl | rfl | rfl | rfl | rfl <;> rfl
/-- row k, with more behind it, is put back -/
theorem pm_app (h : Pm w0 w q a b Pa Pb V n xs) (k : Nat) (hk : 2 ≤ k ∧ k ≤ 6) (B5 : Below w.heap.size w w5) {v' : Value} {n' : Nat} {xs' : List Value} (own : OwnK (eT k) (eK k) w' w0.heap.size v' n' xs') (hg : w5.grownBy w' (V k).ownBlock) (hat : v'.ownBlock = (V k).ownBlock ∨ v'.ownBlock = some w5.heap.size) :
    w'.frozen? ⟨q, k, none⟩ = false ∧ w'.cell? ⟨q, k, none⟩ = some (V k) ∧ PutTo w0 w q a b Pa Pb V n xs k n' xs' v' (w'.setCell ⟨q, k, none⟩ v') := by
  have fr : Frame (fun g => (V k).ownBlock = some g) w w' := (Frame.of_below B5).trans (Frame.of_grown hg) fun g e => .inl e
  have hl := fun g => own.lt g
  have ht : ∀ g, v'.ownBlock = some g → (V k).ownBlock = some g ∨ (w.heap.size ≤ g ∧ g < w'.heap.size) := fun g e => by
    rcases hat with y | y
    · exact .inl (by rw [← y]; exact e)
    · right
      have := (hl g e).2
      rw [y] at e
      injection e with e
      have := B5.size
      omega
  have hq := h.wp (g := q) (.inl rfl)
  have hbq : BlkR 83 w' q (prC a b V) := (fr.block q hq.1 (h.offq k hk.1 hk.2)).trans h.blk
  exact ⟨hbq.frozen k, hbq.cell (pr_cell a b V hk.1 hk.2), h.put k hk v' n' xs' own fr ht, fun A l hA => hA.put k hk v' fr ht⟩
/-- i's session; the other one's -/
def ab (a b i : Nat) : Nat := if i = 0 then a else b
theorem Pm.ses (h : Pm w0 w q a b Pa Pb V n xs) {i : Nat} (hi : i < 2) : w.cell? ⟨q, i, none⟩ = some (.pointer (some ⟨ab a b i, 0, none⟩)) := by
  rcases (show i = 0 ∨ i = 1 by omega) with rfl | rfl
  · exact h.blk.cell rfl
  · exact h.blk.cell rfl
theorem Pm.row (h : Pm w0 w q a b Pa Pb V n xs) {k : Nat} (h2 : 2 ≤ k) (h6 : k ≤ 6) : w.cell? ⟨q, k, none⟩ = some (V k) := h.blk.cell (pr_cell a b V h2 h6)
/-- both sessions, seen from i -/
def BtI (w0 w : World) (a b : Nat) (i : Nat) (P Q : Ss.S → Prop) (Wy : Nat → Prop) : Prop := Bt w0 w (ab a b i) (ab a b (1 - i)) P Q Wy
theorem bti_of {P : Nat → Ss.S → Prop} {Wy : Nat → Prop} {i : Nat} (hi : i < 2) (h : Bt w0 w a b (P 0) (P 1) Wy) : BtI w0 w a b i (P i) (P (1 - i)) Wy := by
  rcases (show i = 0 ∨ i = 1 by omega) with rfl | rfl
  · exact h
  · exact h.swap
theorem of_bti {P : Nat → Ss.S → Prop} {Wy : Nat → Prop} {i : Nat} (hi : i < 2) (h : BtI w0 w a b i (P i) (P (1 - i)) Wy) : Bt w0 w a b (P 0) (P 1) Wy := by
  rcases (show i = 0 ∨ i = 1 by omega) with rfl | rfl
  · exact h
  · exact Bt.swap h
theorem abi_frame {i : Nat} (hi : i < 2) (h : Frame (AB (ab a b i) (ab a b (1 - i))) w w') : Frame (AB a b) w w' := by
  rcases (show i = 0 ∨ i = 1 by omega) with rfl | rfl
  · exact h
  · exact AB.swap h
theorem abi_txt {i : Nat} (hi : i < 2) {A : Option Addr} {l : List UInt8} (h : Txt a b w A l) : Txt (ab a b i) (ab a b (1 - i)) w A l := by
  rcases (show i = 0 ∨ i = 1 by omega) with rfl | rfl
  · exact h
  · exact h.swap
/-- Send, of which the datagram is known -/
theorem bt_sendR {Wy : Nat → Prop} (h : Bt w0 w a b Pa Pb Wy) {Qa : Ss.S → Prop} {R : Ss.D → Prop} (P : Option Addr) (p : List UInt8) (m c : Nat) (hm : p.length = m) (h100 : m ≤ 160) (hP : Txt a b w P p) (hs : ∀ s, Pa s → s.sent < 1000 ∧ Qa (s.send p) ∧ R ((s.send p).dat (s.sent + 1, p))) :
    Calls Tryd.prog 16 #[.pointer (some ⟨a, 0, none⟩), .slice P m c] w fun e w' => ∃ A c' d, e = .returned (.tuple #[.slice A (m + 41) c', .int .i64 0]) ∧ m + 41 ≤ c' ∧ Bt w0 w' a b Qa Pb Wy ∧ BytesAt w' w'.heap.size A d.enc ∧ d.Ok ∧ d.pay = p ∧ R d ∧ (∀ ad, A = some ad → w.heap.size ≤ ad.block) ∧ Frame (AB a b) w w' := by
  obtain ⟨Fa, Fb, sa, sb, T, h1, h2, h3⟩ := h
  obtain ⟨q2, q4, q5⟩ := hs sa h1
  have he : sa.sendE p = 0 := by unfold Ss.S.sendE; rw [if_neg (by omega), if_neg (by omega)]
  have hok := T.a_.ok
  refine (send_ok a Fa sa w T.a_ T.tab (fun e => by have := T.low; omega) P p m c hm hP.at_ (fun hp ad e => (hP.far ad e hp).1) he).mono fun e w' ⟨F', A, c', k1, k2, k3, k4, k5, k6, k7, k8⟩ => ?_
  refine ⟨A, c', (sa.send p).dat (sa.sent + 1, p), k1, k2, ⟨F', Fb, _, sb, T.chg k4 k5 k8, q4, h2, fun j hj => ?_⟩, k6.own.bytes, Ss.dat_ok (Ss.send_ok hok p he) _ (.inr ⟨by simp, by show sa.sent + 1 ≤ sa.sent + 1; omega, by show p.length ≤ 160; omega⟩), rfl, q5, fun ad e => (k6.lt ad.block (by rw [e]; rfl)).1, chg_fr k8⟩
  obtain ⟨x1, x2, x3, x4, x5, x6⟩ := h3 j hj
  exact ⟨Nat.lt_of_lt_of_le x1 k8.size, x2, x3, x4, fun e => (k5 j e).elim x5 fun y => by omega, x6⟩
end
end Go.Proofs.YtfopjilncfndnaaDoor
