/-
  What a store's calls promise, whatever the package's own memory looks like; a store and its disk as one thing. Conditions: none.
-/
import Derived.Test.YtlchpolheciadaaDoorStGood
import Derived.Test.YtlchpolheciadaaDoorSlKeep
import Derived.Test.YtlchpolheciadaaDoorDiskKit
import Derived.Test.YtlchpolheciadaaDoorCr
namespace Go.Proofs.YtlchpolheciadaaDoor
open Go.RowKit Fix

def ChgIs (At : World → Nat → (Nat → Prop) → DS → Prop) (b : Nat) (F : Nat → Prop) (R : DS × Int) (w : World) (en : Ending) (w' : World) : Prop :=
  ∃ F', en = .returned (.int .i64 R.2) ∧ At w' b F' R.1 ∧ (∀ k, F' k → F k ∨ w.heap.size ≤ k) ∧ Frame F w w'
/-- what Open tells, and makes -/
def StOpened (At : World → Nat → (Nat → Prop) → DS → Prop) (SAt : World → Nat → (Nat → Prop) → Nat → StM → Prop) (b : Nat) (F : Nat → Prop) (S : DS) (p m : Int) (w : World) (en : Ending) (w' : World) : Prop :=
  (St.openE S p m = 0 → ∃ g G F' A c, en = .returned (.tuple #[.pointer (some ⟨g, 0, none⟩), .slice A (St.bads (St.openS S p m) p m.toNat).length c, .int .i64 0]) ∧ At w' b F' (St.openS S p m) ∧ SAt w' g G b (St.opened S p m) ∧
    (∀ k, ¬ (F' k ∧ G k)) ∧ (∀ k, F' k → F k ∨ w.heap.size ≤ k) ∧ (∀ k, G k → w.heap.size ≤ k) ∧ RowAt w' w'.heap.size A (iv (St.bads (St.openS S p m) p m.toNat)) ∧ (St.bads (St.openS S p m) p m.toNat).length ≤ c ∧
    (∀ ad, A = some ad → St.bads (St.openS S p m) p m.toNat ≠ [] → w.heap.size ≤ ad.block ∧ ¬ F' ad.block ∧ ¬ G ad.block) ∧ Frame F w w') ∧
  (St.openE S p m ≠ 0 → ∃ F', en = .returned (.tuple #[.pointer none, .slice none 0 0, .int .i64 (St.openE S p m)]) ∧ At w' b F' (St.openS S p m) ∧ (∀ k, F' k → F k ∨ w.heap.size ≤ k) ∧ Frame F w w')
def StPut (At : World → Nat → (Nat → Prop) → DS → Prop) (SAt : World → Nat → (Nat → Prop) → Nat → StM → Prop) (b : Nat) (F : Nat → Prop) (S : DS) (g : Nat) (G : Nat → Prop) (s : StM) (i : Int) (d : List UInt8) (w : World) (en : Ending) (w' : World) : Prop :=
  ∃ F' G', en = .returned (.int .i64 (St.putD S s i d).2) ∧ At w' b F' (St.putD S s i d).1 ∧ SAt w' g G' b (St.putS S s i d) ∧ (∀ k, ¬ (F' k ∧ G' k)) ∧ (∀ k, F' k → F k ∨ w.heap.size ≤ k) ∧ (∀ k, G' k → G k ∨ w.heap.size ≤ k) ∧ Frame (fun k => F k ∨ G k) w w'
def StGet (SAt : World → Nat → (Nat → Prop) → Nat → StM → Prop) (S : DS) (b g : Nat) (G : Nat → Prop) (s : StM) (i : Int) (w : World) (en : Ending) (w' : World) : Prop :=
  ∃ A c G', en = .returned (.tuple #[.slice A (St.getB S s i).length c, .int .i64 (St.getE S s i)]) ∧ c ≤ 9223372036854775807 ∧ Whole w' w.heap.size A c (St.getB S s i) ∧ SAt w' g G' b (St.getS S s) ∧ (∀ k, G' k → (G k ∨ w.heap.size ≤ k) ∧ ∀ ad, A = some ad → St.getB S s i ≠ [] → ad.block ≠ k) ∧ Frame G w w'
/-- WHAT A STORE's CALLS DO, whatever the package's own memory looks like: 'SAt w g G b s': at block g there is a store of state s, over the disk at block b; its own memory is the blocks G. -/
structure Stores (At : World → Nat → (Nat → Prop) → DS → Prop) (SAt : World → Nat → (Nat → Prop) → Nat → StM → Prop) : Prop where
  lt : ∀ w g G b s, SAt w g G b s → ∀ k, G k → k < w.heap.size
  keep : ∀ w w' g G b s, SAt w g G b s → w.heap.size ≤ w'.heap.size → (∀ k, G k → w'.heap[k]? = w.heap[k]?) → SAt w' g G b s
  make_ : ∀ w b F S p m, TabAt w → At w b F S → S.ops ≤ 900000 → Calls Tryd.prog 14 #[.pointer (some ⟨b, 0, none⟩), .int .i64 p, .int .i64 m] w (ChgIs At b F (St.make S p m) w)
  open_ : ∀ w b F S p m, TabAt w → At w b F S → S.ops ≤ 900000 → Calls Tryd.prog 10 #[.pointer (some ⟨b, 0, none⟩), .int .i64 p, .int .i64 m] w (StOpened At SAt b F S p m w)
  put : ∀ w b F S g G s i A d c, TabAt w → At w b F S → SAt w g G b s → (∀ k, ¬ (F k ∧ G k)) → S.ops ≤ 900000 → Aside (fun k => F k ∨ G k) w A d → Calls Tryd.prog 11 #[.pointer (some ⟨g, 0, none⟩), .int .i64 i, .slice A d.length c] w (StPut At SAt b F S g G s i d w)
  get : ∀ w b F S g G s i, TabAt w → At w b F S → SAt w g G b s → (∀ k, ¬ (F k ∧ G k)) → Calls Tryd.prog 9 #[.pointer (some ⟨g, 0, none⟩), .int .i64 i] w (StGet SAt S b g G s i w)
  blocks : ∀ w g G b s, SAt w g G b s → Calls Tryd.prog 12 #[.pointer (some ⟨g, 0, none⟩)] w fun e w' => e = .returned (.int .i64 (s.n : Int)) ∧ Below w.heap.size w w'
  number : ∀ w g G b s, SAt w g G b s → Calls Tryd.prog 13 #[.pointer (some ⟨g, 0, none⟩)] w fun e w' => e = .returned (.int .i64 (s.num : Int)) ∧ Below w.heap.size w w'
/-- a store and its disk: their memory is the blocks H -/
def Duo (At : World → Nat → (Nat → Prop) → DS → Prop) (SAt : World → Nat → (Nat → Prop) → Nat → StM → Prop) (w : World) (b g : Nat) (H : Nat → Prop) (S : DS) (s : StM) : Prop :=
  ∃ F G, At w b F S ∧ SAt w g G b s ∧ (∀ k, ¬ (F k ∧ G k)) ∧ ∀ k, H k ↔ F k ∨ G k
section
variable {At : World → Nat → (Nat → Prop) → DS → Prop} {SAt : World → Nat → (Nat → Prop) → Nat → StM → Prop} (D : Disks Tryd.prog At) (T : Stores At SAt)
include D T
variable {w w' : World} {b g : Nat} {H : Nat → Prop} {S : DS} {s : StM}
theorem Duo.lt (h : Duo At SAt w b g H S s) : ∀ k, H k → k < w.heap.size := fun k hk => by
  obtain ⟨F, G, h1, h2, _, h4⟩ := h
  exact ((h4 k).1 hk).elim (D.lt w b F S h1 k) (T.lt w g G b s h2 k)
theorem Duo.keep (h : Duo At SAt w b g H S s) (hs : w.heap.size ≤ w'.heap.size) (hk : ∀ k, H k → w'.heap[k]? = w.heap[k]?) : Duo At SAt w' b g H S s := by
  obtain ⟨F, G, h1, h2, h3, h4⟩ := h
  exact ⟨F, G, D.keep w w' b F S h1 hs fun k hf => hk k ((h4 k).2 (.inl hf)), T.keep w w' g G b s h2 hs fun k hf => hk k ((h4 k).2 (.inr hf)), h3, h4⟩
theorem Duo.step (h : Duo At SAt w b g H S s) (hb : Below w.heap.size w w') : Duo At SAt w' b g H S s :=
  Duo.keep D T h hb.size fun k hk => hb.block k (Duo.lt D T h k hk)
theorem Duo.frame {F : Nat → Prop} (h : Duo At SAt w b g H S s) (hF : Frame F w w') (hn : ∀ k, H k → ¬ F k) : Duo At SAt w' b g H S s :=
  Duo.keep D T h hF.size fun k hk => hF.block k (Duo.lt D T h k hk) (hn k hk)
omit T in
theorem at_ok (h : Duo At SAt w b g H S s) : S.Ok := by
  obtain ⟨F, G, h1, _⟩ := h
  exact D.ok w b F S h1
omit D in
/-- a change of the disk alone, beside its store -/
theorem Duo.chg {F G F' : Nat → Prop} {S' : DS} (h2 : SAt w g G b s) (h3 : ∀ k, ¬ (F k ∧ G k)) (h4 : ∀ k, H k ↔ F k ∨ G k) (a : At w' b F' S') (hF : ∀ k, F' k → F k ∨ w.heap.size ≤ k) (fr : Frame F w w') :
    ∃ H', Duo At SAt w' b g H' S' s ∧ Keep H w H' w' := by
  have hl := T.lt w g G b s h2
  refine ⟨fun k => F' k ∨ G k, ⟨F', G, a, T.keep w w' g G b s h2 fr.size fun k hk => fr.block k (hl k hk) fun x => h3 k ⟨x, hk⟩, fun k ⟨x, y⟩ => ?_, fun k => Iff.rfl⟩, fr.mono fun k hk => (h4 k).2 (.inl hk), fun k hk => ?_⟩
  · exact (hF k x).elim (fun z => h3 k ⟨z, y⟩) fun z => by have := hl k y; omega
  · rcases hk with hk | hk
    · exact (hF k hk).imp (fun x => (h4 k).2 (.inl x)) id
    · exact .inl ((h4 k).2 (.inr hk))
theorem duo_fuse (h : Duo At SAt w b g H S s) (n : Int) (h1 : -9223372036854775808 ≤ n) (h2 : n ≤ 9223372036854775807) : Calls Tryd.prog 18 #[.pointer (some ⟨b, 0, none⟩), .int .i64 n] w fun e w' =>
    ∃ H', e = .returned (.int .i64 (S.fuse n).2) ∧ Duo At SAt w' b g H' (S.fuse n).1 s ∧ Keep H w H' w' := by
  obtain ⟨F, G, a1, a2, a3, a4⟩ := h
  refine (D.fuse w b F S n a1 h1 h2).mono fun e w' ⟨F', e1, e2, e3, e4⟩ => ?_
  obtain ⟨H', k1, k2⟩ := Duo.chg T a2 a3 a4 e2 e3 e4
  exact ⟨H', e1, k1, k2⟩
theorem duo_crash (h : Duo At SAt w b g H S s) (A : Option Addr) (keeps : List Bool) (n c : Nat) (tear : Int) (hr : RowAt w w.heap.size A (keeps.map Value.bool)) (hn : keeps.length = n) (hc : n ≤ c) : Calls Tryd.prog 26 #[.pointer (some ⟨b, 0, none⟩), .slice A n c, .int .i64 tear] w fun e w' =>
    ∃ H', e = .returned (.int .i64 0) ∧ Duo At SAt w' b g H' (S.crash keeps tear) s ∧ Keep H w H' w' := by
  obtain ⟨F, G, a1, a2, a3, a4⟩ := h
  refine (D.crash w b F S A keeps n c tear a1 hr hn hc).mono fun e w' ⟨F', e1, e2, e3, e4⟩ => ?_
  obtain ⟨H', k1, k2⟩ := Duo.chg T a2 a3 a4 e2 e3 e4
  exact ⟨H', e1, k1, k2⟩
theorem duo_turn (h : Duo At SAt w b g H S s) (i at_ : Int) (m : UInt8) : Calls Tryd.prog 22 #[.pointer (some ⟨b, 0, none⟩), .int .i64 i, .int .i64 at_, .int .u8 (m.toNat : Int)] w fun e w' =>
    ∃ H', e = .returned (.int .i64 (S.turn i at_ m).2) ∧ Duo At SAt w' b g H' (S.turn i at_ m).1 s ∧ Keep H w H' w' := by
  obtain ⟨F, G, a1, a2, a3, a4⟩ := h
  refine (D.turn w b F S i at_ m a1).mono fun e w' ⟨F', e1, e2, e3, e4⟩ => ?_
  obtain ⟨H', k1, k2⟩ := Duo.chg T a2 a3 a4 e2 e3 e4
  exact ⟨H', e1, k1, k2⟩
omit T in
theorem duo_read (h : Duo At SAt w b g H S s) (i : Int) : Calls Tryd.prog 21 #[.pointer (some ⟨b, 0, none⟩), .int .i64 i] w fun e w' =>
    ∃ A c, e = .returned (.tuple #[.slice A (S.readB i).length c, .int .i64 (S.readE i)]) ∧ RdB w' w.heap.size A c (S.readB i) ∧ Below w.heap.size w w' := by
  obtain ⟨F, G, a1, _⟩ := h
  exact D.read w b F S i a1
omit T in
theorem duo_ops (h : Duo At SAt w b g H S s) (ho : S.ops ≤ 1000000) : Calls Tryd.prog 25 #[.pointer (some ⟨b, 0, none⟩)] w fun e w' => e = .returned (.int .i64 (S.ops : Int)) ∧ Below w.heap.size w w' := by
  obtain ⟨F, G, a1, _⟩ := h
  exact D.ops w b F S a1 ho
omit D in
theorem duo_put (h : Duo At SAt w b g H S s) (i : Int) (A : Option Addr) (d : List UInt8) (c : Nat) (ht : TabAt w) (ho : S.ops ≤ 900000) (hr : Aside H w A d) : Calls Tryd.prog 11 #[.pointer (some ⟨g, 0, none⟩), .int .i64 i, .slice A d.length c] w fun e w' =>
    ∃ H', e = .returned (.int .i64 (St.putD S s i d).2) ∧ Duo At SAt w' b g H' (St.putD S s i d).1 (St.putS S s i d) ∧ Keep H w H' w' := by
  obtain ⟨F, G, a1, a2, a3, a4⟩ := h
  refine (T.put w b F S g G s i A d c ht a1 a2 a3 ho ⟨hr.1, fun hl ad e => ⟨(hr.2 hl ad e).1, fun x => (hr.2 hl ad e).2 ((a4 _).2 x)⟩⟩).mono fun e w' ⟨F', G', e1, e2, e3, e4, e5, e6, e7⟩ => ?_
  refine ⟨fun k => F' k ∨ G' k, e1, ⟨F', G', e2, e3, e4, fun k => Iff.rfl⟩, e7.mono fun k hk => (a4 k).2 hk, fun k hk => ?_⟩
  rcases hk with hk | hk
  · exact (e5 k hk).imp (fun x => (a4 k).2 (.inl x)) id
  · exact (e6 k hk).imp (fun x => (a4 k).2 (.inr x)) id
theorem duo_get (h : Duo At SAt w b g H S s) (i : Int) (ht : TabAt w) : Calls Tryd.prog 9 #[.pointer (some ⟨g, 0, none⟩), .int .i64 i] w fun e w' =>
    ∃ A c H', e = .returned (.tuple #[.slice A (St.getB S s i).length c, .int .i64 (St.getE S s i)]) ∧ BytesAt w' w'.heap.size A (St.getB S s i) ∧ Duo At SAt w' b g H' S (St.getS S s) ∧ Keep H w H' w' := by
  obtain ⟨F, G, a1, a2, a3, a4⟩ := h
  have hl := D.lt w b F S a1
  refine (T.get w b F S g G s i ht a1 a2 a3).mono fun e w' ⟨A, c, G', e1, e2, e3, e4, e5, e6⟩ => ?_
  refine ⟨A, c, fun k => F k ∨ G' k, e1, e3.bytes, ⟨F, G', D.keep w w' b F S a1 e6.size fun k hk => e6.block k (hl k hk) fun x => a3 k ⟨hk, x⟩, e4, fun k ⟨x, y⟩ => ?_, fun k => Iff.rfl⟩, e6.mono fun k hk => (a4 k).2 (.inr hk), fun k hk => ?_⟩
  · exact (e5 k y).1.elim (fun z => a3 k ⟨x, z⟩) fun z => by have := hl k x; omega
  · rcases hk with hk | hk
    · exact .inl ((a4 k).2 (.inl hk))
    · exact (e5 k hk).1.imp (fun x => (a4 k).2 (.inr x)) id
omit D in
theorem duo_number (h : Duo At SAt w b g H S s) : Calls Tryd.prog 13 #[.pointer (some ⟨g, 0, none⟩)] w fun e w' => e = .returned (.int .i64 (s.num : Int)) ∧ Below w.heap.size w w' := by
  obtain ⟨F, G, _, a2, _⟩ := h
  exact T.number w g G b s a2
omit D in
theorem duo_blocks (h : Duo At SAt w b g H S s) : Calls Tryd.prog 12 #[.pointer (some ⟨g, 0, none⟩)] w fun e w' => e = .returned (.int .i64 (s.n : Int)) ∧ Below w.heap.size w w' := by
  obtain ⟨F, G, _, a2, _⟩ := h
  exact T.blocks w g G b s a2
omit D T in
/-- opened: a store over the disk -/
theorem StOpened.yes {F : Nat → Prop} {p m : Int} {en : Ending} (h : StOpened At SAt b F S p m w en w') (he : St.openE S p m = 0) : ∃ g H A c, en = .returned (.tuple #[.pointer (some ⟨g, 0, none⟩), .slice A (St.bads (St.openS S p m) p m.toNat).length c, .int .i64 0]) ∧
    Duo At SAt w' b g H (St.openS S p m) (St.opened S p m) ∧ Keep F w H w' ∧ RowAt w' w'.heap.size A (iv (St.bads (St.openS S p m) p m.toNat)) ∧ (St.bads (St.openS S p m) p m.toNat).length ≤ c ∧ (∀ ad, A = some ad → St.bads (St.openS S p m) p m.toNat ≠ [] → w.heap.size ≤ ad.block ∧ ¬ H ad.block) := by
  obtain ⟨g, G, F', A, c, e1, e2, e3, e4, e5, e6, e7, e8, e9, e10⟩ := h.1 he
  refine ⟨g, fun k => F' k ∨ G k, A, c, e1, ⟨F', G, e2, e3, e4, fun k => Iff.rfl⟩, ⟨e10, fun k hk => hk.elim (e5 k) fun x => .inr (e6 k x)⟩, e7, e8, fun ad x y => ⟨(e9 ad x y).1, fun z => z.elim (e9 ad x y).2.1 (e9 ad x y).2.2⟩⟩
end
end Go.Proofs.YtlchpolheciadaaDoor
