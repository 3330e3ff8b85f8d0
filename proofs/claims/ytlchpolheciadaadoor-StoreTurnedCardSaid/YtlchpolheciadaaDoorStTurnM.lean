/-
  A store whose sectors were turned: plain mathematics. Conditions: none.
-/
import Derived.Test.YtlchpolheciadaaDoorStGood
namespace Go.Proofs.YtlchpolheciadaaDoor
open Fix

namespace Blk
theorem sum_right9 {a : Int} {b : List UInt8} (h : right a b = true) : Crc.sum b = 558161692 := by
  have e := ((right_iff a b).1 h).2.2
  rw [← e]
  unfold sect Slot.seal_
  rw [show ∀ n, Fix.dig n 4 = Crc.word n from fun n => by simp [Fix.dig, Crc.word, List.range, List.range.loop]]
  exact (Crc.sum_tail _ _ (Crc.sum_lt _)).2 rfl
/-- a byte turned -/
theorem one_bad (p q : Int) (l : List UInt8) (i : Nat) (b : UInt8) (h : right p l = true) (hi : i ≤ 60) (hb : b ≠ 0) : right q (l.set i (l.getD i 0 ^^^ b)) = false := by
  have hl := ((right_iff p l).1 h).1
  have hs := sum_right9 h
  have hb0 : b.toNat ≠ 0 := fun e => hb (UInt8.toNat_inj.1 e)
  have hb1 := b.toNat_lt
  rw [← Bool.not_eq_true]
  intro h2
  have e := sum_right9 h2
  exact Crc.sum_burst l _ (by rw [List.length_set]) (8 * i) b.toNat hb0 (by omega) (by omega) (Crc.num_set l i b (by omega)) (by rw [e, hs])
end Blk
namespace St
/-- Puts without a crash: the journal's entry is none, or its block's -/
structure Even (S : DS) (n N : Nat) (h : Nat → List UInt8) : Prop where
  c : Calm S n N h
  e : S.firm 0 = Slot.nots ∨ ∃ b k, b < n ∧ 1 ≤ k ∧ k ≤ N ∧ S.firm 0 = Jn.sect b k (h b)
/-- sectors that may be turned: what is right is as it should be -/
structure Worn (S : DS) (n N : Nat) (h : Nat → List UInt8) : Prop where
  q : S.Quiet
  sn : S.n = n + 1
  n1 : 1 ≤ n
  n64 : n ≤ 64
  N40 : N ≤ 1099511627776
  len : ∀ i, i ≤ n → (S.firm i).length = 64
  dl : ∀ i, i < n → (h i).length = 32
  blk : ∀ i, i < n → Blk.right (i : Nat) (S.firm (i + 1)) = true → Blk.num (S.firm (i + 1)) ≤ N ∧ Blk.dat (S.firm (i + 1)) = h i
  je : Jn.right (S.firm 0) = true → Jn.num (S.firm 0) ≤ N ∧ (Jn.place (S.firm 0) < n → Jn.dat (S.firm 0) = h (Jn.place (S.firm 0)))
section
variable {S : DS} {n N M : Nat} {h : Nat → List UInt8}
theorem Even.put {b : Nat} {d : List UInt8} (g : Even S n N h) (hb : b < n) (hd : d.length = 32) (hN : N < 1099511627776) :
    ∃ T, putD S ⟨0, n, N, false⟩ b d = (T, 0) ∧ Even T n (N + 1) (DS.upd h b d) ∧ T.ops = S.ops + 4 ∧ putS S ⟨0, n, N, false⟩ b d = ⟨0, n, N + 1, false⟩ := by
  obtain ⟨T, h1, h2, h3, h4, h5⟩ := g.c.put hb hd hN
  exact ⟨T, h1, ⟨h2, .inr ⟨b, N + 1, hb, by omega, Nat.le_refl _, by rw [h5]; simp [DS.upd]⟩⟩, h3, h4⟩
/-- what was turned is not right -/
theorem Even.worn (g : Even S n N h) {T : DS} (hq : T.Quiet) (hn : T.n = S.n) (hl : ∀ i, i ≤ n → (T.firm i).length = 64)
    (hj : T.firm 0 = S.firm 0 ∨ Jn.right (T.firm 0) = false) (hb : ∀ i, i < n → T.firm (i + 1) = S.firm (i + 1) ∨ Blk.right (i : Nat) (T.firm (i + 1)) = false) : Worn T n N h := by
  have hN := g.c.N40
  have h64 := g.c.n64
  refine ⟨hq, hn.trans g.c.sn, g.c.n1, g.c.n64, hN, hl, g.c.dl, fun i hi hr => ?_, fun hr => ?_⟩
  · rcases hb i hi with e | e
    · obtain ⟨k, h1, h2, h3⟩ := g.c.blk i hi
      rw [e, h3, Blk.sect_num i k (h i) (by omega), Blk.sect_dat i k (h i) (g.c.dl i hi)]
      exact ⟨h2, rfl⟩
    · rw [e] at hr; cases hr
  · rcases hj with e | e
    · rw [e] at hr ⊢
      rcases g.e with e | ⟨b, k, hb, h1, h2, e⟩
      · rw [e, Jn.right_nots] at hr; cases hr
      · rw [e, Jn.sect_num b k (h b) (by omega), Jn.sect_place b k (h b) (by omega), Jn.sect_dat b k (h b) (g.c.dl b hb)]
        exact ⟨h2, fun _ => rfl⟩
    · rw [e] at hr; cases hr
theorem Worn.be (g : Worn S n N h) {i : Nat} (hi : i < n) : bE S 0 i = (if Blk.right (i : Nat) (S.firm (i + 1)) = true then 0 else 11) ∧ bN S 0 i ≤ N ∧ bB S 0 i = (if Blk.right (i : Nat) (S.firm (i + 1)) = true then h i else []) := by
  obtain ⟨h1, h2, h3⟩ := reads g.q (i := i) (by rw [g.sn]; omega)
  rw [h1, h2, h3]
  by_cases hr : Blk.right (i : Nat) (S.firm (i + 1)) = true
  · obtain ⟨e1, e2⟩ := g.blk i hi hr
    rw [if_pos hr, if_pos hr]
    unfold Blk.readN Blk.readB
    rw [if_pos hr, if_pos hr]
    exact ⟨(Blk.readE_zero _ _).2 hr, e1, e2⟩
  · rw [if_neg hr, if_neg hr]
    unfold Blk.readN Blk.readB
    rw [if_neg hr, if_neg hr]
    exact ⟨Blk.readE_bad (g.len (i + 1) (by omega)) (by simpa using hr), Nat.zero_le _, rfl⟩
theorem Worn.get (g : Worn S n N h) {i : Nat} (hi : i < n) : getE S ⟨0, n, M, false⟩ i = (if Blk.right (i : Nat) (S.firm (i + 1)) = true then 0 else 11) ∧ getB S ⟨0, n, M, false⟩ i = (if Blk.right (i : Nat) (S.firm (i + 1)) = true then h i else []) := by
  obtain ⟨h1, _, h3⟩ := g.be hi
  have e1 : getE S ⟨0, n, M, false⟩ i = bE S 0 i := by
    unfold getE
    rw [if_neg (by simp [out, g.q.out]), if_neg (show ¬ ((i : Int) < 0 ∨ (n : Int) ≤ i) by omega)]
    rfl
  have e2 : getB S ⟨0, n, M, false⟩ i = bB S 0 i := by
    unfold getB
    rw [if_neg (by simp [out, g.q.out]), if_neg (show ¬ ((i : Int) < 0 ∨ (n : Int) ≤ i) by omega)]
    rfl
  rw [e1, e2]
  exact ⟨h1, h3⟩
/-- a block's sector written, as one that is right -/
theorem Worn.lay (g : Worn S n N h) {b k : Nat} {d : List UInt8} (hb : b < n) (h1 : 1 ≤ k) (hk : k ≤ N) (hd : d = h b) : lay S 0 ⟨b, k, d⟩ = (⟨S.n, DS.upd S.firm (b + 1) (Blk.sect b k d), fun _ => none, S.ops + 2, none, false⟩, 0) ∧ Worn ⟨S.n, DS.upd S.firm (b + 1) (Blk.sect b k d), fun _ => none, S.ops + 2, none, false⟩ n N h := by
  subst hd
  have hN := g.N40
  have h64 := g.n64
  have hl := Blk.sect_length b k (h b) (g.dl b hb)
  rw [lay_sect S (by omega) h1 (by omega) (g.dl b hb), Slot.put1_calm S g.q.out g.q.left (b + 1) (by rw [g.sn]; omega) _ hl, g.q.last]
  refine ⟨rfl, ⟨rfl, rfl, rfl⟩, g.sn, g.n1, g.n64, hN, fun i hi => ?_, g.dl, fun i hi hr => ?_, ?_⟩
  · show (DS.upd S.firm (b + 1) (Blk.sect b k (h b)) i).length = 64
    unfold DS.upd
    split
    · exact hl
    · exact g.len i hi
  · have hr : Blk.right (i : Nat) (DS.upd S.firm (b + 1) (Blk.sect b k (h b)) (i + 1)) = true := hr
    show Blk.num (DS.upd S.firm (b + 1) (Blk.sect b k (h b)) (i + 1)) ≤ N ∧ Blk.dat (DS.upd S.firm (b + 1) (Blk.sect b k (h b)) (i + 1)) = h i
    by_cases e : i = b
    · subst e
      simp only [DS.upd, if_true]
      rw [Blk.sect_num i k (h i) (by omega), Blk.sect_dat i k (h i) (g.dl i hi)]
      exact ⟨hk, rfl⟩
    · have e2 : DS.upd S.firm (b + 1) (Blk.sect b k (h b)) (i + 1) = S.firm (i + 1) := by simp [DS.upd, e]
      rw [e2] at hr ⊢
      exact g.blk i hi hr
  · show Jn.right (DS.upd S.firm (b + 1) (Blk.sect b k (h b)) 0) = true → _
    have e2 : DS.upd S.firm (b + 1) (Blk.sect b k (h b)) 0 = S.firm 0 := by simp [DS.upd]
    show Jn.right (DS.upd S.firm (b + 1) (Blk.sect b k (h b)) 0) = true → Jn.num (DS.upd S.firm (b + 1) (Blk.sect b k (h b)) 0) ≤ N ∧ (Jn.place (DS.upd S.firm (b + 1) (Blk.sect b k (h b)) 0) < n → Jn.dat (DS.upd S.firm (b + 1) (Blk.sect b k (h b)) 0) = h (Jn.place (DS.upd S.firm (b + 1) (Blk.sect b k (h b)) 0)))
    rw [e2]
    exact g.je
theorem Worn.begin (g : Worn S n N h) : begin_ S 0 ≤ N := by
  obtain ⟨h1, h2⟩ := last_quiet g.q (by rw [g.sn]; omega)
  unfold begin_
  rw [h1, h2]
  by_cases hr : Jn.right (S.firm 0) = true
  · rw [if_pos hr, if_pos rfl, Jn.readV_yes hr]
    show ((Jn.num (S.firm 0) : Nat) : Int).toNat ≤ N
    rw [Int.toNat_natCast]
    exact (g.je hr).1
  · rw [if_neg hr, if_neg (by decide)]
    exact Nat.zero_le _
theorem Worn.open_ (g : Worn S n N h) : ∃ M, M ≤ N ∧ openE S 0 n = 0 ∧ Worn (openS S 0 n) n N h ∧ opened S 0 n = ⟨0, n, M, false⟩ := by
  have hr := room_ok g.q.out g.sn g.n1 g.n64
  have key : (mended S 0 n).2 = 0 ∧ Worn (mended S 0 n).1 n N h := by
    unfold mended
    by_cases hh : heals S 0 n = true
    · rw [if_pos hh]
      obtain ⟨h1, h2⟩ := last_quiet g.q (by rw [g.sn]; omega)
      have hlt : (Jn.lastE S 0 = 0) ∧ (Jn.lastV S 0).b < (n : Int) := by
        unfold heals at hh
        simp only [Bool.and_eq_true, decide_eq_true_eq] at hh
        exact hh.1
      have hright : Jn.right (S.firm 0) = true := by
        have := hlt.1
        rw [h1] at this
        by_cases e : Jn.right (S.firm 0) = true
        · exact e
        · rw [if_neg e] at this; cases this
      obtain ⟨_, hm, _⟩ := (Jn.right_iff _).1 hright
      obtain ⟨_, _, m3, _, _⟩ := (Jn.may_mk _ _ _).1 hm
      have m3 : (1 : Int) ≤ (Jn.num (S.firm 0) : Nat) := m3
      have e2 : Jn.lastV S 0 = ⟨(Jn.place (S.firm 0) : Nat), (Jn.num (S.firm 0) : Nat), Jn.dat (S.firm 0)⟩ := by rw [h2, Jn.readV_yes hright]; rfl
      rw [e2] at hlt ⊢
      have hp : Jn.place (S.firm 0) < n := by have := hlt.2; exact Int.ofNat_lt.1 this
      obtain ⟨j1, j2⟩ := g.je hright
      obtain ⟨l1, l2⟩ := g.lay hp (by omega) j1 (j2 hp)
      rw [l1]
      exact ⟨rfl, l2⟩
    · rw [if_neg hh]
      exact ⟨rfl, g⟩
  have e1 : openE S 0 n = (mended S 0 n).2 := by unfold openE; rw [if_pos hr, Int.toNat_natCast]
  have e2 : openS S 0 n = (mended S 0 n).1 := by unfold openS; rw [if_pos hr, Int.toNat_natCast]
  rw [← e1, ← e2] at key
  refine ⟨top (openS S 0 n) 0 (begin_ S 0) n, (top_is (openS S 0 n) (begin_ S 0) N n g.begin fun i hi => (key.2.be hi).2.1).1, key.1, key.2, ?_⟩
  unfold opened
  rw [Int.toNat_natCast]
  rfl
/-- a Put makes a block right -/
theorem Worn.put {b : Nat} {d : List UInt8} (g : Worn S n N h) (hM : M ≤ N) (hb : b < n) (hd : d.length = 32) (hN : N < 1099511627776) :
    ∃ T, putD S ⟨0, n, M, false⟩ b d = (T, 0) ∧ Worn T n (N + 1) (DS.upd h b d) ∧ T.ops = S.ops + 4 ∧ putS S ⟨0, n, M, false⟩ b d = ⟨0, n, M + 1, false⟩ ∧ Blk.right (b : Nat) (T.firm (b + 1)) = true := by
  have h64 := g.n64
  have hlj := Jn.sect_length b (M + 1) d hd
  have hlb := Blk.sect_length b (M + 1) d hd
  have e0 := putD_in (N := M) (p := 0) g.q.out hb hd (by omega)
  rw [show (((0 : Nat) : Int)) = 0 from rfl, write_sect S (by omega) hd (by omega)] at e0
  have e1 := Slot.put1_calm S g.q.out g.q.left 0 (by rw [g.sn]; omega) _ hlj
  rw [e1, if_pos rfl, lay_sect _ (by omega) (by omega) (by omega) hd] at e0
  have e2 := Slot.put1_calm ⟨S.n, DS.upd S.last 0 (Jn.sect b (M + 1) d), fun _ => none, S.ops + 2, none, false⟩ rfl rfl (b + 1) (by show b + 1 < S.n; rw [g.sn]; omega) _ hlb
  rw [e2] at e0
  have hgood := blk_good (i := b) (k := M + 1) (d := d) (by omega) (by omega) (by omega) hd
  have hT : ∀ i, (DS.upd (DS.last ⟨S.n, DS.upd S.last 0 (Jn.sect b (M + 1) d), fun _ => none, S.ops + 2, none, false⟩) (b + 1) (Blk.sect b (M + 1) d)) i = if i = b + 1 then Blk.sect b (M + 1) d else if i = 0 then Jn.sect b (M + 1) d else S.firm i := by
    intro i
    rw [DS.Quiet.last ⟨rfl, rfl, rfl⟩]
    show DS.upd (DS.upd S.last 0 (Jn.sect b (M + 1) d)) (b + 1) (Blk.sect b (M + 1) d) i = _
    rw [g.q.last]
    rfl
  refine ⟨_, e0, ⟨⟨rfl, rfl, rfl⟩, g.sn, g.n1, g.n64, by omega, fun i hi => ?_, fun i hi => ?_, fun i hi hr => ?_, fun hr => ?_⟩, rfl, ?_, ?_⟩
  · show (DS.upd _ (b + 1) (Blk.sect b (M + 1) d) i).length = 64
    rw [hT]
    split
    · exact hlb
    · split
      · exact hlj
      · exact g.len i hi
  · unfold DS.upd
    split
    · exact hd
    · exact g.dl i hi
  · have hr : Blk.right (i : Nat) (DS.upd (DS.last ⟨S.n, DS.upd S.last 0 (Jn.sect b (M + 1) d), fun _ => none, S.ops + 2, none, false⟩) (b + 1) (Blk.sect b (M + 1) d) (i + 1)) = true := hr
    show Blk.num (DS.upd (DS.last ⟨S.n, DS.upd S.last 0 (Jn.sect b (M + 1) d), fun _ => none, S.ops + 2, none, false⟩) (b + 1) (Blk.sect b (M + 1) d) (i + 1)) ≤ N + 1 ∧ Blk.dat (DS.upd (DS.last ⟨S.n, DS.upd S.last 0 (Jn.sect b (M + 1) d), fun _ => none, S.ops + 2, none, false⟩) (b + 1) (Blk.sect b (M + 1) d) (i + 1)) = DS.upd h b d i
    rw [hT] at hr ⊢
    by_cases e : i = b
    · subst e
      rw [if_pos rfl, Blk.sect_num i (M + 1) d (by omega), Blk.sect_dat i (M + 1) d hd]
      exact ⟨by omega, by simp [DS.upd]⟩
    · rw [if_neg (by omega), if_neg (by omega)] at hr ⊢
      obtain ⟨k1, k2⟩ := g.blk i hi hr
      exact ⟨by omega, by rw [k2]; simp [DS.upd, e]⟩
  · have e3 : (DS.upd (DS.last ⟨S.n, DS.upd S.last 0 (Jn.sect b (M + 1) d), fun _ => none, S.ops + 2, none, false⟩) (b + 1) (Blk.sect b (M + 1) d)) 0 = Jn.sect b (M + 1) d := by rw [hT, if_neg (by omega), if_pos rfl]
    show Jn.num (DS.upd (DS.last ⟨S.n, DS.upd S.last 0 (Jn.sect b (M + 1) d), fun _ => none, S.ops + 2, none, false⟩) (b + 1) (Blk.sect b (M + 1) d) 0) ≤ N + 1 ∧ (Jn.place (DS.upd (DS.last ⟨S.n, DS.upd S.last 0 (Jn.sect b (M + 1) d), fun _ => none, S.ops + 2, none, false⟩) (b + 1) (Blk.sect b (M + 1) d) 0) < n → Jn.dat (DS.upd (DS.last ⟨S.n, DS.upd S.last 0 (Jn.sect b (M + 1) d), fun _ => none, S.ops + 2, none, false⟩) (b + 1) (Blk.sect b (M + 1) d) 0) = DS.upd h b d (Jn.place (DS.upd (DS.last ⟨S.n, DS.upd S.last 0 (Jn.sect b (M + 1) d), fun _ => none, S.ops + 2, none, false⟩) (b + 1) (Blk.sect b (M + 1) d) 0)))
    rw [e3, Jn.sect_num b (M + 1) d (by omega), Jn.sect_place b (M + 1) d (by omega), Jn.sect_dat b (M + 1) d hd]
    exact ⟨by omega, fun _ => by simp [DS.upd]⟩
  · unfold putS
    rw [if_neg (by simp [out, g.q.out]), if_neg (show ¬ ((b : Int) < 0 ∨ (n : Int) ≤ b) by omega), if_neg (by simp [hd]), if_neg (show ¬ (1099511627776 ≤ M) by omega), e0, show (((0 : Nat) : Int)) = 0 from rfl, write_sect (N := M) S (by omega) hd (by omega), e1]
    rfl
  · show Blk.right (b : Nat) (DS.upd (DS.last ⟨S.n, DS.upd S.last 0 (Jn.sect b (M + 1) d), fun _ => none, S.ops + 2, none, false⟩) (b + 1) (Blk.sect b (M + 1) d) (b + 1)) = true
    rw [hT, if_pos rfl]
    exact Blk.sect_right b (M + 1) d hgood
end
section
variable {S : DS} {n N : Nat} {h : Nat → List UInt8}
/-- opened behind a crash in a Put whose entry was firm -/
theorem Mid.even {b : Nat} {d : List UInt8} (m : Mid S n N h b d) : Even (openS S 0 n) n (N + 1) (DS.upd h b d) := by
  have hN := m.N40
  exact ⟨m.open_.2, .inr ⟨b, N + 1, m.bn, by omega, Nat.le_refl _, by rw [m.open_entry]; simp [DS.upd]⟩⟩
theorem bads_three (T : DS) (h0 : bE T 0 ((0 : Nat) : Int) = 0) (h1 : bE T 0 ((1 : Nat) : Int) ≠ 0) (h2 : bE T 0 ((2 : Nat) : Int) = 0) : bads T 0 3 = [1] := by
  unfold bads
  rw [if_pos h2]
  unfold bads
  rw [if_neg h1]
  unfold bads
  rw [if_pos h0]
  unfold bads
  rfl
end
/-- the bad ones, in their order -/
theorem bads_succ (T : DS) (p : Int) (k : Nat) : bads T p (k + 1) = if bE T p (k : Int) = 0 then bads T p k else bads T p k ++ [(k : Int)] := rfl
theorem bads_len (T : DS) (p : Int) (k : Nat) : (bads T p k).length ≤ k := by
  induction k with
  | zero => exact Nat.le_refl _
  | succ k ih =>
    rw [bads_succ]
    split
    · omega
    · rw [List.length_append]
      simp
      exact ih
theorem bads_get (T : DS) (p : Int) (n i : Nat) (hi : i < n) (hb : bE T p (i : Int) ≠ 0) : (bads T p n)[(bads T p i).length]? = some (i : Int) := by
  induction n with
  | zero => omega
  | succ k ih =>
    rw [bads_succ]
    by_cases e : i = k
    · subst e
      rw [if_neg hb]
      simp
    · have h := ih (by omega)
      split
      · exact h
      · have hlt := (List.getElem?_eq_some_iff.1 h).1
        rw [List.getElem?_append_left hlt]
        exact h
theorem bads_step (T : DS) (p : Int) (i : Nat) : (bads T p (i + 1)).length = (bads T p i).length + if bE T p (i : Int) = 0 then 0 else 1 := by
  rw [bads_succ]
  split <;> simp
end St
end Go.Proofs.YtlchpolheciadaaDoor
