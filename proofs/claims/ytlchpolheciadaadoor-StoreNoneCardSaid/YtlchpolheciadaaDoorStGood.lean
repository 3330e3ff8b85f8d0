/-
  A store behind a crash, opened: plain mathematics. Conditions: none.
-/
import Derived.Test.YtlchpolheciadaaDoorStKeepM
import Derived.Test.YtlchpolheciadaaDoorJo
namespace Go.Proofs.YtlchpolheciadaaDoor
open Fix

namespace St
/-- behind a crash: opened, it is that of N and h -/
def Good (S : DS) (n N : Nat) (h : Nat → List UInt8) : Prop := Calm S n N h ∨ ∃ M k b d, N = M + 1 ∧ h = DS.upd k b d ∧ Mid S n M k b d
section
variable {S : DS} {n N : Nat} {h : Nat → List UInt8}
theorem Good.q (g : Good S n N h) : S.Quiet := by
  rcases g with c | ⟨_, _, _, _, _, _, m⟩
  · exact c.q
  · exact m.q
theorem Good.sn (g : Good S n N h) : S.n = n + 1 := by
  rcases g with c | ⟨_, _, _, _, _, _, m⟩
  · exact c.sn
  · exact m.sn
theorem Good.open_ (g : Good S n N h) : openE S 0 n = 0 ∧ Calm (openS S 0 n) n N h ∧ bads (openS S 0 n) 0 n = [] ∧ opened S 0 n = ⟨0, n, N, false⟩ := by
  rcases g with c | ⟨M, k, b, d, rfl, rfl, m⟩
  · obtain ⟨h1, h2, h3, h4⟩ := c.open_
    rw [h2]
    exact ⟨h1, c, h3, h4⟩
  · obtain ⟨h1, h2⟩ := m.open_
    obtain ⟨e1, e2⟩ := m.entry
    obtain ⟨_, i, hi, hN⟩ := h2.greatest
    have ht := top_is (openS S 0 n) (begin_ S 0) (M + 1) n (by unfold begin_; rw [e1, e2]; simp) fun i hi => (h2.block hi).2.1
    refine ⟨h1, h2, bads_none _ _ fun i hi => (h2.block hi).1, ?_⟩
    unfold opened
    rw [Int.toNat_natCast, ht.2 ⟨i, hi, hN⟩]
    rfl
theorem Good.stop (g : Good S n N h) (f : Nat) (keeps : List Bool) (tear : Int) : (openE { S with left := some f } 0 n = 0 ∨ openE { S with left := some f } 0 n = 10) ∧ Good ((openS { S with left := some f } 0 n).crash keeps tear) n N h := by
  rcases g with c | ⟨M, k, b, d, e1, e2, m⟩
  · obtain ⟨h1, h2⟩ := c.stop_open f keeps tear
    exact ⟨.inl h1, .inl h2⟩
  · obtain ⟨h1, h2⟩ := m.stop f keeps tear
    exact ⟨h1, .inr ⟨M, k, b, d, e1, e2, h2⟩⟩
/-- a Put that may stop, and a crash -/
theorem Calm.put_good {b : Nat} {d : List UInt8} (c : Calm S n N h) (hb : b < n) (hd : d.length = 32) (hN : N < 1099511627776) (f : Nat) (keeps : List Bool) (tear : Int) :
    ∃ T e, putD { S with left := some f } ⟨0, n, N, false⟩ b d = (T, e) ∧ ((e = 0 ∧ Good (T.crash keeps tear) n (N + 1) (DS.upd h b d)) ∨ (e = 10 ∧ (Good (T.crash keeps tear) n N h ∨ Good (T.crash keeps tear) n (N + 1) (DS.upd h b d)))) := by
  obtain ⟨T, e, h1, h2⟩ := c.put_stop hb hd hN f keeps tear
  refine ⟨T, e, h1, ?_⟩
  rcases h2 with ⟨h2, h3⟩ | ⟨h2, h3 | h3⟩
  · exact .inl ⟨h2, .inl h3⟩
  · exact .inr ⟨h2, .inl (.inl h3)⟩
  · exact .inr ⟨h2, .inr (.inr ⟨N, h, b, d, rfl, rfl, h3⟩)⟩
/-- a Put with two changes left stops -/
theorem Calm.put_two' {b : Nat} {d : List UInt8} (c : Calm S n N h) (hb : b < n) (hd : d.length = 32) (hN : N < 1099511627776) : putD { S with left := some 2 } ⟨0, n, N, false⟩ b d = (⟨S.n, DS.upd S.last 0 (Jn.sect b (N + 1) d), fun _ => none, S.ops + 2, some 0, true⟩, 10) := by
  have hn := c.n64
  have hlj := Jn.sect_length b (N + 1) d hd
  have hlb := Blk.sect_length b (N + 1) d hd
  have e0 := putD_in (S := { S with left := some 2 }) (N := N) (p := 0) c.q.out hb hd hN
  rw [show (((0 : Nat) : Int)) = 0 from rfl, write_sect _ (by omega) hd hN] at e0
  have t0 : S.there ((0 : Nat) : Int) = true := by rw [S.there_iff, c.sn]; omega
  have hw : Slot.put1 { S with left := some 2 } ((0 : Nat) : Int) (Jn.sect b (N + 1) d) = (⟨S.n, DS.upd S.last 0 (Jn.sect b (N + 1) d), fun _ => none, S.ops + 2, some 0, false⟩, 0) := by
    have hww : ({ S with left := some 2 } : DS).write ((0 : Nat) : Int) (Jn.sect b (N + 1) d) = (⟨S.n, S.firm, DS.upd S.loose 0 (some (Jn.sect b (N + 1) d)), S.ops + 1, some 1, false⟩, 0) := by
      unfold DS.write DS.chg
      rw [if_neg (by show ¬ S.out = true; rw [c.q.out]; decide), if_neg (by rw [show ({ S with left := some 2 } : DS).there ((0 : Nat) : Int) = S.there ((0 : Nat) : Int) from rfl, t0]; decide), if_neg (by rw [hlj]; decide)]
      show (_, _) = (_, _)
      rw [← c.q.out]
      rfl
    unfold Slot.put1
    rw [hww, if_pos rfl]
    unfold DS.flush DS.chg
    rw [if_neg (show ¬ (false = true) by decide)]
    show (_, _) = (_, _)
    unfold DS.settle
    show ((⟨S.n, DS.last ⟨S.n, S.firm, DS.upd S.loose 0 (some (Jn.sect b (N + 1) d)), S.ops + 2, some 0, false⟩, fun _ => none, S.ops + 2, some 0, false⟩ : DS), (0 : Int)) = _
    rw [DS.last_upd]
  rw [e0, hw, if_pos rfl, lay_sect _ (by omega) (by omega) (by omega) hd]
  have t1 : (⟨S.n, DS.upd S.last 0 (Jn.sect b (N + 1) d), fun _ => none, S.ops + 2, some 0, false⟩ : DS).there ((b + 1 : Nat) : Int) = true := by rw [DS.there_iff]; show (0 : Int) ≤ _ ∧ _ < (S.n : Int); rw [c.sn]; omega
  have hx : (⟨S.n, DS.upd S.last 0 (Jn.sect b (N + 1) d), fun _ => none, S.ops + 2, some 0, false⟩ : DS).write ((b + 1 : Nat) : Int) (Blk.sect b (N + 1) d) = (⟨S.n, DS.upd S.last 0 (Jn.sect b (N + 1) d), fun _ => none, S.ops + 2, some 0, true⟩, 10) := by
    unfold DS.write DS.chg
    rw [t1, if_neg (show ¬ (false = true) by decide), if_neg (by decide), if_neg (by rw [hlb]; decide)]
  unfold Slot.put1
  rw [hx]
  rfl
theorem Calm.put_two {b : Nat} {d : List UInt8} (c : Calm S n N h) (hb : b < n) (hd : d.length = 32) (hN : N < 1099511627776) : (putD { S with left := some 2 } ⟨0, n, N, false⟩ b d).2 = 10 := by rw [c.put_two' hb hd hN]
/-- and its entry is firm -/
theorem Calm.two_mid {b : Nat} {d : List UInt8} (c : Calm S n N h) (hb : b < n) (hd : d.length = 32) (hN : N < 1099511627776) (keeps : List Bool) (tear : Int) : Mid ((putD { S with left := some 2 } ⟨0, n, N, false⟩ b d).1.crash keeps tear) n N h b d := by
  have self : ∀ (g : Nat → List UInt8) p, DS.upd g p (g p) = g := fun g p => by funext j; unfold DS.upd; split <;> simp [*]
  rw [c.put_two' hb hd hN]
  refine c.mid hb hd hN (crash_quiet _ _ _) rfl (S.firm (b + 1)) (.inl rfl) ?_
  rw [crash_still rfl]
  show DS.upd S.last 0 (Jn.sect b (N + 1) d) = _
  rw [c.q.last]
  have := self (DS.upd S.firm 0 (Jn.sect b (N + 1) d)) (b + 1)
  rw [show DS.upd S.firm 0 (Jn.sect b (N + 1) d) (b + 1) = S.firm (b + 1) by simp [DS.upd]] at this
  exact this.symm
/-- an Open leaves the entry -/
theorem Mid.open_entry {b : Nat} {d : List UInt8} (m : Mid S n N h b d) : (openS S 0 n).firm 0 = Jn.sect b (N + 1) d := by
  have hN := m.N40
  have hn := m.n64
  have hb := m.bn
  have hr := room_ok m.q.out m.sn (by omega) hn
  obtain ⟨h1, h2⟩ := m.entry
  unfold openS mended
  rw [if_pos hr, Int.toNat_natCast]
  split
  · rw [h2, lay_sect S (by omega) (by omega) (by omega) m.d32, Slot.put1_calm S m.q.out m.q.left (b + 1) (by rw [m.sn]; omega) _ (Blk.sect_length b (N + 1) d m.d32)]
    show DS.upd S.last (b + 1) (Blk.sect b (N + 1) d) 0 = _
    rw [m.q.last, ← m.j]
    simp [DS.upd]
  · exact m.j
end
theorem ops_lay (S : DS) (p : Int) (e : Ent) : (lay S p e).1.ops ≤ S.ops + 2 := ops_put1 S _ _
theorem ops_put (S : DS) (s : StM) (b : Int) (d : List UInt8) : (putD S s b d).1.ops ≤ S.ops + 4 := by
  unfold putD
  split
  · exact Nat.le_add_right _ _
  split
  · exact Nat.le_add_right _ _
  split
  · exact Nat.le_add_right _ _
  split
  · exact Nat.le_add_right _ _
  have h1 := jn_ops S s.at_ ⟨b, ((s.num + 1 : Nat) : Int), d⟩
  split
  · have := ops_lay (Jn.write S s.at_ ⟨b, ((s.num + 1 : Nat) : Int), d⟩).1 s.at_ ⟨b, ((s.num + 1 : Nat) : Int), d⟩
    omega
  · omega
theorem ops_open (S : DS) (p m : Int) : (openS S p m).ops ≤ S.ops + 2 := by
  unfold openS
  split
  · unfold mended
    split
    · exact ops_lay _ _ _
    · exact Nat.le_add_right _ _
  · exact Nat.le_add_right _ _
/-- a Put that is refused -/
theorem put_range {S : DS} {n N : Nat} {b : Int} {d : List UInt8} (ho : S.out = false) (h : b < 0 ∨ (n : Int) ≤ b) : putD S ⟨0, n, N, false⟩ b d = (S, 5) ∧ putS S ⟨0, n, N, false⟩ b d = ⟨0, n, N, false⟩ := by
  unfold putD putS
  rw [if_neg (by simp [out, ho]), if_pos h, if_neg (by simp [out, ho]), if_pos h]
  exact ⟨rfl, rfl⟩
theorem put_arg {S : DS} {n N : Nat} {b : Int} {d : List UInt8} (ho : S.out = false) (h : ¬ (b < 0 ∨ (n : Int) ≤ b)) (hd : d.length ≠ 32) : putD S ⟨0, n, N, false⟩ b d = (S, 2) ∧ putS S ⟨0, n, N, false⟩ b d = ⟨0, n, N, false⟩ := by
  unfold putD putS
  rw [if_neg (by simp [out, ho]), if_neg h, if_pos hd, if_neg (by simp [out, ho]), if_neg h, if_pos hd]
  exact ⟨rfl, rfl⟩
theorem get_range {S : DS} {n N : Nat} {b : Int} (ho : S.out = false) (h : b < 0 ∨ (n : Int) ≤ b) : getE S ⟨0, n, N, false⟩ b = 5 ∧ getB S ⟨0, n, N, false⟩ b = [] ∧ getS S ⟨0, n, N, false⟩ = ⟨0, n, N, false⟩ := by
  unfold getE getB getS
  rw [if_neg (by simp [out, ho]), if_pos h, if_neg (by simp [out, ho]), if_pos h, if_neg (by simp [out, ho])]
  exact ⟨rfl, rfl, rfl⟩
theorem get_still {S : DS} {n N : Nat} (ho : S.out = false) : getS S ⟨0, n, N, false⟩ = ⟨0, n, N, false⟩ := by
  unfold getS
  rw [if_neg (by simp [out, ho])]
end St
end Go.Proofs.YtlchpolheciadaaDoor
