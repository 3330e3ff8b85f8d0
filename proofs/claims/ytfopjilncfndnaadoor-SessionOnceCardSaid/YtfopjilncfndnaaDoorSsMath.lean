/-
  A session, by the document: plain mathematics. Conditions: none.
-/
import Derived.Test.YtfopjilncfndnaaDoorFrMath
namespace Go.Proofs.YtfopjilncfndnaaDoor
open Fix

namespace Ss
/-- what is known of the other one: its boot, the top, which of the 64 below came -/
structure K where
  boot : Nat
  top : Nat
  came : Nat
def K.has (k : K) (n : Nat) : Bool := if k.top < n then false else if k.top = n then true else if 64 < k.top - n then true else k.came.testBit (k.top - n - 1)
def K.add (k : K) (n : Nat) : K :=
  if n < k.top then { k with came := k.came ||| 2 ^ (k.top - n - 1) }
  else { k with top := n, came := (k.came * 2 ^ (n - k.top)) % 18446744073709551616 ||| (if 0 < k.top then 2 ^ (n - k.top - 1) % 18446744073709551616 else 0) }
structure K.Ok (k : K) : Prop where
  boot : k.boot ≤ 1099511627776
  top : k.top ≤ 1099511627776
  came : k.came < 18446744073709551616
  none_ : k.top = 0 → k.came = 0
theorem add_top (k : K) (n : Nat) : (k.add n).top = max k.top n := by
  unfold K.add
  split
  · simp; omega
  · simp; omega
theorem add_boot (k : K) (n : Nat) : (k.add n).boot = k.boot := by
  unfold K.add
  split <;> rfl
theorem has_le {k : K} {n : Nat} (h : k.has n = true) : n ≤ k.top := by
  unfold K.has at h
  split at h
  · cases h
  · omega
theorem has_top (k : K) : k.has k.top = true := by unfold K.has; simp
theorem has_far {k : K} {n : Nat} (h : n + 64 < k.top) : k.has n = true := by
  unfold K.has
  rw [if_neg (by omega), if_neg (by omega), if_pos (by omega)]
theorem has_no {k : K} {n : Nat} (h : k.has n = false) : k.top < n ∨ (n < k.top ∧ k.top - n ≤ 64 ∧ k.came.testBit (k.top - n - 1) = false) := by
  unfold K.has at h
  split at h
  · exact .inl (by assumption)
  · split at h
    · cases h
    · split at h
      · cases h
      · exact .inr ⟨by omega, by omega, h⟩
theorem bit_lt {x i : Nat} (h : x.testBit i = true) (hx : x < 18446744073709551616) : i < 64 := by
  refine Nat.lt_of_not_le fun hi => ?_
  have h2 : x < 2 ^ i := Nat.lt_of_lt_of_le hx (by rw [show (18446744073709551616 : Nat) = 2 ^ 64 from rfl]; exact Nat.pow_le_pow_right (by decide) hi)
  rw [Nat.testBit_lt_two_pow h2] at h
  cases h
theorem add_ok {k : K} (h : k.Ok) (n : Nat) (h1 : 1 ≤ n) (hn : n ≤ 1099511627776) (hno : k.has n = false) : (k.add n).Ok := by
  refine ⟨by rw [add_boot]; exact h.boot, by rw [add_top]; have := h.top; omega, ?_, by rw [add_top]; omega⟩
  unfold K.add
  split
  · rename_i hlt
    rcases has_no hno with a | ⟨_, a, _⟩
    · omega
    · refine Nat.or_lt_two_pow (n := 64) h.came ?_
      exact Nat.pow_lt_pow_right (by decide) (by omega)
  · refine Nat.or_lt_two_pow (n := 64) (Nat.mod_lt _ (by decide)) ?_
    split
    · exact Nat.mod_lt _ (by decide)
    · decide
/-- what has come behind n: n, and what had come, and what is far below the top -/
theorem has_add {k : K} (n : Nat) (h1 : 1 ≤ n) (hno : k.has n = false) (m : Nat) (hm : 1 ≤ m) : (k.add n).has m = (decide (m = n) || k.has m || decide (m + 64 < (k.add n).top)) := by
  rcases has_no hno with a | ⟨a, b, c⟩
  · -- n is the top now
    have et : (k.add n).top = n := by rw [add_top]; omega
    by_cases e : m = n
    · subst e
      rw [show (k.add m).has m = true by have := has_top (k.add m); rwa [et] at this]
      simp
    · by_cases g : n < m
      · have e1 : (k.add n).has m = false := by
          cases hh : (k.add n).has m
          · rfl
          · have := has_le hh; omega
        have e2 : k.has m = false := by
          cases hh : k.has m
          · rfl
          · have := has_le hh; omega
        rw [e1, e2, et, decide_eq_false e, decide_eq_false (by omega)]; rfl
      · by_cases f : m + 64 < n
        · rw [has_far (by omega), et, decide_eq_true f]; simp
        · rw [et, decide_eq_false e, decide_eq_false f]
          have ea : (k.add n).has m = (k.add n).came.testBit (n - m - 1) := by
            unfold K.has
            rw [et, if_neg (by omega), if_neg (by omega), if_neg (by omega)]
          rw [ea]
          have ec : (k.add n).came = (k.came * 2 ^ (n - k.top)) % 18446744073709551616 ||| (if 0 < k.top then 2 ^ (n - k.top - 1) % 18446744073709551616 else 0) := by
            unfold K.add
            rw [if_neg (by omega)]
          rw [ec, Nat.testBit_or, show (18446744073709551616 : Nat) = 2 ^ 64 from rfl, Nat.testBit_mod_two_pow, decide_eq_true (by omega : n - m - 1 < 64), Nat.testBit_mul_two_pow]
          simp only [Bool.true_and, Bool.false_or, Bool.or_false]
          by_cases g2 : m < k.top
          · have e3 : k.has m = k.came.testBit (k.top - m - 1) := by
              unfold K.has
              rw [if_neg (by omega), if_neg (by omega), if_neg (by omega)]
            rw [e3, decide_eq_true (by omega : n - k.top ≤ n - m - 1), show n - m - 1 - (n - k.top) = k.top - m - 1 by omega, Bool.true_and]
            split
            · rw [Nat.testBit_mod_two_pow, Nat.testBit_two_pow, decide_eq_false (by omega : ¬ n - k.top - 1 = n - m - 1)]
              simp
            · simp
          · rw [decide_eq_false (by omega : ¬ n - k.top ≤ n - m - 1), Bool.false_and, Bool.false_or]
            by_cases g3 : m = k.top
            · subst g3
              rw [has_top, if_pos (by omega), Nat.testBit_mod_two_pow, Nat.testBit_two_pow]
              simp; omega
            · have e2 : k.has m = false := by
                cases hh : k.has m
                · rfl
                · have := has_le hh; omega
              rw [e2]
              split
              · rw [Nat.testBit_mod_two_pow, Nat.testBit_two_pow, decide_eq_false (by omega : ¬ n - k.top - 1 = n - m - 1)]
                simp
              · simp
  · -- n is below the top
    have et : (k.add n).top = k.top := by rw [add_top]; omega
    have ec : (k.add n).came = k.came ||| 2 ^ (k.top - n - 1) := by
      unfold K.add
      rw [if_pos a]
    unfold K.has
    rw [et, ec]
    by_cases g1 : k.top < m
    · rw [if_pos g1, if_pos g1, decide_eq_false (by omega : ¬ m = n), decide_eq_false (by omega : ¬ m + 64 < k.top)]; rfl
    · rw [if_neg g1, if_neg g1]
      by_cases g2 : k.top = m
      · rw [if_pos g2, if_pos g2]; simp
      · rw [if_neg g2, if_neg g2]
        by_cases g3 : 64 < k.top - m
        · rw [if_pos g3, if_pos g3]; simp
        · rw [if_neg g3, if_neg g3, decide_eq_false (by omega : ¬ m + 64 < k.top), Nat.testBit_or, Nat.testBit_two_pow, Bool.or_false, Bool.or_comm]
          congr 1
          exact decide_eq_decide.2 (by omega)

/-- a datagram of a session -/
structure D where
  boot : Nat
  num : Nat
  o : K
  pay : List UInt8
def D.body (d : D) : List UInt8 := dig d.boot 6 ++ dig d.num 6 ++ dig d.o.boot 6 ++ dig d.o.top 6 ++ dig d.o.came 8 ++ d.pay
def D.enc (d : D) : List UInt8 := Frm.enc d.body
structure D.Ok (d : D) : Prop where
  boot : 1 ≤ d.boot
  boot2 : d.boot ≤ 1099511627776
  num : d.num ≤ 1099511627776
  o1 : d.o.boot ≤ 1099511627776
  o2 : d.o.top ≤ 1099511627776
  came : d.o.came < 18446744073709551616
  pay : d.pay.length ≤ (if d.num = 0 then 0 else 160)
theorem body_length (d : D) : d.body.length = d.pay.length + 32 := by
  simp only [D.body, List.length_append, dig_length]; omega
theorem D.Ok.pay160 {d : D} (h : d.Ok) : d.pay.length ≤ 160 := by have := h.pay; split at this <;> omega
/-- what is read of what a datagram carries -/
def num (l : List UInt8) (i : Nat) : Nat := le ((l.drop (6 * i)).take 6)
def rd (l : List UInt8) : D := ⟨num l 0, num l 1, ⟨num l 2, num l 3, le ((l.drop 24).take 8)⟩, l.drop 32⟩
def okB (d : D) : Bool := decide (1 ≤ d.boot) && decide (d.boot ≤ 1099511627776) && decide (d.num ≤ 1099511627776) && decide (d.o.boot ≤ 1099511627776) && decide (d.o.top ≤ 1099511627776) && decide (d.pay.length ≤ (if d.num = 0 then 0 else 160))
theorem okB_iff (d : D) (hc : d.o.came < 18446744073709551616) : okB d = true ↔ d.Ok := by
  unfold okB
  simp only [Bool.and_eq_true, decide_eq_true_eq]
  exact ⟨fun ⟨⟨⟨⟨⟨a, b⟩, c⟩, e⟩, f⟩, g⟩ => ⟨a, b, c, e, f, hc, g⟩, fun ⟨a, b, c, e, f, _, g⟩ => ⟨⟨⟨⟨⟨a, b⟩, c⟩, e⟩, f⟩, g⟩⟩
theorem rd_came (l : List UInt8) (h : 32 ≤ l.length) : (rd l).o.came < 18446744073709551616 := by
  have := le_lt ((l.drop 24).take 8)
  rw [List.length_take, List.length_drop, show min 8 (l.length - 24) = 8 by omega] at this
  exact this
theorem rd_num (l : List UInt8) (i : Nat) : num l i < 281474976710656 := by
  have := le_lt ((l.drop (6 * i)).take 6)
  refine Nat.lt_of_lt_of_le this ?_
  rw [show (281474976710656 : Nat) = 256 ^ 6 from rfl]
  refine Nat.pow_le_pow_right (by decide) ?_
  rw [List.length_take]; omega
def readE (l : List UInt8) : Int := if Frm.wrongE l ≠ 0 then Frm.wrongE l else if (Frm.pay l).length < 32 then 4 else if okB (rd (Frm.pay l)) = true then 0 else 5
def readD (l : List UInt8) : D := if readE l = 0 then rd (Frm.pay l) else ⟨0, 0, ⟨0, 0, 0⟩, []⟩
theorem drop_split (a b : List UInt8) (n : Nat) (h : a.length = n) : (a ++ b).drop n = b := List.drop_left' h
theorem rd_body (d : D) (h : d.Ok) : rd d.body = d := by
  have e0 : d.body = dig d.boot 6 ++ (dig d.num 6 ++ (dig d.o.boot 6 ++ (dig d.o.top 6 ++ (dig d.o.came 8 ++ d.pay)))) := by simp only [D.body, List.append_assoc]
  have L : ∀ (n : Nat) (r : List UInt8), n ≤ 1099511627776 → le ((dig n 6 ++ r).take 6) = n := fun n r hn => by
    rw [List.take_left' (dig_length n 6), le_dig_self _ _ (by omega)]
  have n0 : num d.body 0 = d.boot := by unfold num; rw [e0]; exact L _ _ h.boot2
  have n1 : num d.body 1 = d.num := by unfold num; rw [e0, drop_split _ _ _ (dig_length _ _)]; exact L _ _ h.num
  have n2 : num d.body 2 = d.o.boot := by
    unfold num; rw [e0, show 6 * 2 = 6 + 6 from rfl, ← List.drop_drop, drop_split _ _ _ (dig_length _ _), drop_split _ _ _ (dig_length _ _)]; exact L _ _ h.o1
  have n3 : num d.body 3 = d.o.top := by
    unfold num; rw [e0, show 6 * 3 = 6 + (6 + 6) from rfl, ← List.drop_drop, drop_split _ _ _ (dig_length _ _), ← List.drop_drop, drop_split _ _ _ (dig_length _ _), drop_split _ _ _ (dig_length _ _)]; exact L _ _ h.o2
  have e24 : d.body.drop 24 = dig d.o.came 8 ++ d.pay := by
    rw [e0, show 24 = 6 + (6 + (6 + 6)) from rfl, ← List.drop_drop, drop_split _ _ _ (dig_length _ _), ← List.drop_drop, drop_split _ _ _ (dig_length _ _), ← List.drop_drop, drop_split _ _ _ (dig_length _ _), drop_split _ _ _ (dig_length _ _)]
  have e32 : d.body.drop 32 = d.pay := by
    rw [show 32 = 24 + 8 from rfl, ← List.drop_drop, e24, drop_split _ _ _ (dig_length _ _)]
  unfold rd
  rw [n0, n1, n2, n3, e24, e32, List.take_left' (dig_length _ _), le_dig_self _ _ h.came]
/-- a datagram is read as it was -/
theorem read_enc (d : D) (h : d.Ok) : readE d.enc = 0 ∧ readD d.enc = d := by
  have hb := body_length d
  have hp := h.pay160
  obtain ⟨g1, g2⟩ := Frm.get_put d.body (by omega)
  have e : readE d.enc = 0 := by
    unfold readE D.enc
    rw [if_neg (by rw [g1]; simp), g2, if_neg (by omega), rd_body d h, if_pos ((okB_iff d h.came).2 h)]
  refine ⟨e, ?_⟩
  unfold readD
  rw [if_pos e]
  unfold D.enc
  rw [g2, rd_body d h]
theorem enc_length (d : D) : d.enc.length = d.pay.length + 41 := by
  unfold D.enc; rw [Frm.enc_length, body_length]
theorem read_ok {l : List UInt8} (h : readE l = 0) : (readD l).Ok := by
  unfold readD
  rw [if_pos h]
  unfold readE at h
  split at h
  · rename_i g; exact absurd h g
  · split at h
    · cases h
    · split at h
      · rename_i g1 g2 g3
        exact (okB_iff _ (rd_came _ (by omega))).1 g3
      · cases h

/-- a session: its boot, how many were sent, what waits (a number and a payload each), what is known of the other one -/
structure S where
  boot : Nat
  sent : Nat
  wait : List (Nat × List UInt8)
  o : K
structure S.Ok (s : S) : Prop where
  boot : 1 ≤ s.boot
  boot2 : s.boot ≤ 1099511627776
  sent : s.sent ≤ 1099511627776
  many : s.wait.length ≤ 16
  pay : ∀ m ∈ s.wait, 1 ≤ m.1 ∧ m.1 ≤ s.sent ∧ m.2.length ≤ 160
  o : s.o.Ok
def new (b : Nat) : S := ⟨b, 0, [], ⟨0, 0, 0⟩⟩
def push (l : List (Nat × List UInt8)) (m : Nat × List UInt8) : List (Nat × List UInt8) := if l.length < 16 then l ++ [m] else l.tail ++ [m]
def S.dat (s : S) (m : Nat × List UInt8) : D := ⟨s.boot, m.1, s.o, m.2⟩
def S.send (s : S) (p : List UInt8) : S := { s with sent := s.sent + 1, wait := push s.wait (s.sent + 1, p) }
def S.sendE (s : S) (p : List UInt8) : Int := if 160 < p.length then 3 else if s.sent = 1099511627776 then 8 else 0
def S.told (s : S) (d : D) : S := if d.o.boot = s.boot then { s with wait := s.wait.filter fun m => !d.o.has m.1 } else s
def S.meet (s : S) (d : D) : K := if s.o.boot < d.boot then ⟨d.boot, 0, 0⟩ else s.o
def S.news (s : S) (d : D) : Bool := decide (s.o.boot ≤ d.boot) && decide (d.num ≠ 0) && !(s.meet d).has d.num
def S.recv (s : S) (d : D) : S :=
  if d.boot < s.o.boot then s.told d else if d.num = 0 ∨ (s.meet d).has d.num = true then { s.told d with o := s.meet d } else { s.told d with o := (s.meet d).add d.num }
theorem new_ok (b : Nat) (h1 : 1 ≤ b) (h2 : b ≤ 1099511627776) : (new b).Ok := ⟨h1, h2, Nat.zero_le _, Nat.zero_le _, fun _ h => (by cases h), ⟨Nat.zero_le _, Nat.zero_le _, Nat.zero_lt_succ _, fun _ => rfl⟩⟩
theorem push_length (l : List (Nat × List UInt8)) (m : Nat × List UInt8) : (push l m).length ≤ 16 ∨ (push l m).length ≤ l.length := by
  unfold push
  split
  · left; simp; omega
  · right; simp; omega
theorem push_mem {l : List (Nat × List UInt8)} {m x : Nat × List UInt8} (h : x ∈ push l m) : x ∈ l ∨ x = m := by
  unfold push at h
  split at h
  · simpa using h
  · rw [List.mem_append] at h
    rcases h with h | h
    · exact .inl (List.mem_of_mem_tail h)
    · exact .inr (by simpa using h)
theorem send_ok {s : S} (h : s.Ok) (p : List UInt8) (he : s.sendE p = 0) : (s.send p).Ok := by
  unfold S.sendE at he
  split at he
  · cases he
  · split at he
    · cases he
    · refine ⟨h.boot, h.boot2, ?_, ?_, ?_, h.o⟩
      · have := h.sent; show s.sent + 1 ≤ _; omega
      · have := h.many
        show (push s.wait _).length ≤ 16
        rcases push_length s.wait (s.sent + 1, p) with a | a <;> omega
      · intro m hm
        show 1 ≤ m.1 ∧ m.1 ≤ s.sent + 1 ∧ m.2.length ≤ 160
        rcases push_mem hm with a | a
        · have := h.pay m a; omega
        · subst a; exact ⟨by simp, by simp, by show p.length ≤ 160; omega⟩
theorem told_ok {s : S} (h : s.Ok) (d : D) : (s.told d).Ok := by
  unfold S.told
  split
  · exact ⟨h.boot, h.boot2, h.sent, Nat.le_trans (List.length_filter_le _ _) h.many, fun m hm => h.pay m (List.mem_filter.1 hm).1, h.o⟩
  · exact h
theorem meet_ok {s : S} (h : s.Ok) {d : D} (hd : d.Ok) : (s.meet d).Ok := by
  unfold S.meet
  split
  · exact ⟨hd.boot2, Nat.zero_le _, Nat.zero_lt_succ _, fun _ => rfl⟩
  · exact h.o
theorem recv_ok {s : S} (h : s.Ok) {d : D} (hd : d.Ok) : (s.recv d).Ok := by
  have t := told_ok h d
  unfold S.recv
  split
  · exact t
  · split
    · exact ⟨t.boot, t.boot2, t.sent, t.many, t.pay, meet_ok h hd⟩
    · rename_i g
      exact ⟨t.boot, t.boot2, t.sent, t.many, t.pay, add_ok (meet_ok h hd) _ (by omega) hd.num (by cases hh : (s.meet d).has d.num <;> simp_all)⟩
theorem dat_ok {s : S} (h : s.Ok) (m : Nat × List UInt8) (hm : (m.1 = 0 ∧ m.2 = []) ∨ (1 ≤ m.1 ∧ m.1 ≤ s.sent ∧ m.2.length ≤ 160)) : (s.dat m).Ok := by
  refine ⟨h.boot, h.boot2, ?_, h.o.boot, h.o.top, h.o.came, ?_⟩
  · have := h.sent; show m.1 ≤ _; omega
  · show m.2.length ≤ if m.1 = 0 then 0 else 160
    rcases hm with ⟨a, b⟩ | ⟨a, b, c⟩
    · rw [b]; simp
    · rw [if_neg (by omega)]; exact c
end Ss
end Go.Proofs.YtfopjilncfndnaaDoor
