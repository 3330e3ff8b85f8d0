/-
  Two sessions that send to each other over a road that loses, doubles and turns about: plain mathematics. Conditions: none.
-/
import Derived.Test.YtfopjilncfndnaaDoorSsMath
namespace Go.Proofs.YtfopjilncfndnaaDoor
open Fix

namespace On
open Ss
/-- what k knows of a session of boot x -/
def ken (x : Nat) (k : K) : K := if k.boot < x then ⟨x, 0, 0⟩ else k
theorem ken_same {x : Nat} {k : K} (h : ¬ k.boot < x) : ken x k = k := if_neg h
/-- what a said, at some time, of what came to it: no number beyond n; D: what was told -/
structure Knows (x n : Nat) (D : Nat → Bool) (k : K) : Prop where
  boot : k.boot ≤ x
  zero : k.boot < x → k.top = 0
  top : (ken x k).top ≤ n
  has : ∀ m, 1 ≤ m → k.boot = x → k.has m = true → D m = true ∨ m + 64 < k.top
/-- what the other one has now -/
structure Hears (x n : Nat) (D : Nat → Bool) (k : K) : Prop extends Knows x n D k where
  all : ∀ m, 1 ≤ m → D m = true → k.boot = x ∧ k.has m = true
  le : ∀ m, D m = true → 1 ≤ m ∧ m ≤ n
/-- numbers that rise, up to n -/
def Rise (n : Nat) : List Nat → Prop
  | [] => True
  | [a] => a ≤ n
  | a :: b :: l => a < b ∧ Rise n (b :: l)
/-- a session that sent T, of which D was told -/
structure Sends (T : List (List UInt8)) (D : Nat → Bool) (s : S) : Prop where
  sent : s.sent = T.length
  wait : ∀ m ∈ s.wait, 1 ≤ m.1 ∧ T[m.1 - 1]? = some m.2
  rise : Rise T.length (s.wait.map (·.1))
  many : s.wait.length ≤ 16
  last : ∀ m, 1 ≤ m → m ≤ T.length → m ∈ s.wait.map (·.1) ∨ D m = true ∨ m + 16 ≤ T.length
/-- a datagram on its way: of one of boot x that sent T; of the other one, of boot y, it says k -/
structure Way (x y n : Nat) (T : List (List UInt8)) (D' : Nat → Bool) (d : D) : Prop where
  boot : d.boot = x
  num : d.num = 0 ∨ T[d.num - 1]? = some d.pay
  says : Knows y n D' d.o
theorem Knows.grow {x n n2 : Nat} {D D2 : Nat → Bool} {k : K} (h : Knows x n D k) (hn : n ≤ n2) (hD : ∀ m, D m = true → D2 m = true) : Knows x n2 D2 k :=
  ⟨h.boot, h.zero, Nat.le_trans h.top hn, fun m h1 h2 h3 => (h.has m h1 h2 h3).imp (hD m) id⟩
theorem Way.grow {x y n n2 : Nat} {T T2 : List (List UInt8)} {D D2 : Nat → Bool} {d : Ss.D} (h : Way x y n T D d) (hn : n ≤ n2) (hT : ∀ (k : Nat) p, T[k]? = some p → T2[k]? = some p) (hD : ∀ m, D m = true → D2 m = true) : Way x y n2 T2 D2 d :=
  ⟨h.boot, h.num.imp id (hT _ _), h.says.grow hn hD⟩
theorem rise_le {n : Nat} : ∀ {l : List Nat}, Rise n l → ∀ a ∈ l, a + (l.length - 1) ≤ n ∨ a ≤ n
  | [], _, a, h => by cases h
  | [b], h, a, ha => by
    have : a = b := by simpa using ha
    subst this
    exact .inr h
  | b :: c :: l, h, a, ha => by
    rcases List.mem_cons.1 ha with e | e
    · right
      have := rise_le h.2 c (List.mem_cons_self ..)
      have h1 := h.1
      omega
    · have := rise_le h.2 a e
      right
      simp at this ⊢
      omega
theorem rise_head {n : Nat} : ∀ {a : Nat} {l : List Nat}, Rise n (a :: l) → a + l.length ≤ n
  | _, [], h => h
  | _, _ :: _, h => by
    have := rise_head h.2
    have := h.1
    simp only [List.length_cons]
    omega
theorem rise_push {n : Nat} : ∀ {l : List Nat}, Rise n l → Rise (n + 1) (l ++ [n + 1])
  | [], _ => Nat.le_refl _
  | [_], h => ⟨Nat.lt_succ_of_le h, Nat.le_refl _⟩
  | _ :: _ :: _, h => ⟨h.1, rise_push h.2⟩
theorem rise_tail {n : Nat} : ∀ {l : List Nat}, Rise n l → Rise n l.tail
  | [], h => h
  | [_], _ => trivial
  | _ :: _ :: _, h => h.2
theorem rise_sub {n : Nat} : ∀ {l : List Nat} (a : Nat), Rise n (a :: l) → Rise n l ∧ ∀ b ∈ l, a < b
  | [], _, _ => ⟨trivial, fun b hb => by cases hb⟩
  | c :: l, a, h => by
    refine ⟨h.2, fun b hb => ?_⟩
    rcases List.mem_cons.1 hb with e | e
    · rw [e]; exact h.1
    · exact Nat.lt_trans h.1 ((rise_sub c h.2).2 b e)
theorem rise_cons {n a : Nat} {l : List Nat} (h : Rise n l) (hl : ∀ b ∈ l, a < b) (ha : a ≤ n) : Rise n (a :: l) := by
  cases l with
  | nil => exact ha
  | cons b l => exact ⟨hl b (List.mem_cons_self ..), h⟩
theorem rise_filter {n : Nat} (f : Nat → Bool) : ∀ {l : List Nat}, Rise n l → Rise n (l.filter f)
  | [], h => h
  | a :: l, h => by
    obtain ⟨h1, h2⟩ := rise_sub a h
    have ih := rise_filter f h1
    rw [List.filter_cons]
    split
    · have := rise_head h
      exact rise_cons ih (fun b hb => h2 b (List.mem_filter.1 hb).1) (by omega)
    · exact ih
/-- a payload is sent -/
theorem Sends.send {T : List (List UInt8)} {D : Nat → Bool} {s : S} (h : Sends T D s) (p : List UInt8) : Sends (T ++ [p]) D (s.send p) := by
  have hlen : (T ++ [p]).length = T.length + 1 := by simp
  have hw : (s.send p).wait = push s.wait (s.sent + 1, p) := rfl
  have hT : ∀ (k : Nat) q, T[k]? = some q → (T ++ [p])[k]? = some q := fun k q hk => by
    have := (List.getElem?_eq_some_iff.1 hk).1
    rw [List.getElem?_append_left this]; exact hk
  have hp : ∀ m ∈ push s.wait (s.sent + 1, p), 1 ≤ m.1 ∧ (T ++ [p])[m.1 - 1]? = some m.2 := fun m hm => by
    rcases push_mem hm with e | e
    · exact ⟨(h.wait m e).1, hT _ _ (h.wait m e).2⟩
    · subst e
      refine ⟨by simp, ?_⟩
      simp [h.sent]
  refine ⟨by show s.sent + 1 = _; rw [hlen, h.sent], by rw [hw]; exact hp, ?_, ?_, fun m h1 h2 => ?_⟩
  · rw [hw, hlen]
    unfold push
    split
    · rw [List.map_append, show List.map (fun x : Nat × List UInt8 => x.1) [(s.sent + 1, p)] = [T.length + 1] by simp [h.sent]]
      exact rise_push h.rise
    · rw [List.map_append, show List.map (fun x : Nat × List UInt8 => x.1) [(s.sent + 1, p)] = [T.length + 1] by simp [h.sent], List.map_tail]
      exact rise_push (rise_tail h.rise)
  · rw [hw]
    rcases push_length s.wait (s.sent + 1, p) with e | e
    · exact e
    · exact Nat.le_trans e h.many
  · rw [hw, hlen]
    rw [hlen] at h2
    by_cases e : m = T.length + 1
    · left
      unfold push
      split <;> simp [h.sent, e]
    · rcases h.last m h1 (by omega) with g | g | g
      · unfold push
        split
        · left; rw [List.map_append]; exact List.mem_append_left _ g
        · rename_i hl
          cases hwl : s.wait with
          | nil => rw [hwl] at hl; simp at hl
          | cons y l =>
            rw [hwl, List.map_cons] at g
            rcases List.mem_cons.1 g with g | g
            · right; right
              have hr := h.rise
              rw [hwl, List.map_cons] at hr
              have h3 := rise_head hr
              rw [hwl] at hl
              simp only [List.length_cons, List.length_map] at hl h3
              omega
            · left
              simp only [List.tail_cons, List.map_append]
              exact List.mem_append_left _ g
      · exact .inr (.inl g)
      · exact .inr (.inr (by omega))
/-- what the other one says is heard: what it has no longer waits -/
theorem Sends.told {T : List (List UInt8)} {D : Nat → Bool} {s : S} {d : Ss.D} (h : Sends T D s) (hk : Knows s.boot T.length D d.o) : Sends T D (s.told d) := by
  unfold S.told
  split
  · rename_i hb
    have hf : (s.wait.filter fun m => !d.o.has m.1).map (·.1) = (s.wait.map (·.1)).filter fun m => !d.o.has m := by
      rw [List.filter_map]; rfl
    refine ⟨h.sent, fun m hm => h.wait m (List.mem_filter.1 hm).1, ?_, Nat.le_trans (List.length_filter_le _ _) h.many, fun m h1 h2 => ?_⟩
    · show Rise _ ((s.wait.filter fun m => !d.o.has m.1).map (·.1))
      rw [hf]
      exact rise_filter _ h.rise
    · show m ∈ (s.wait.filter fun m => !d.o.has m.1).map (·.1) ∨ _
      rw [hf]
      rcases h.last m h1 h2 with g | g | g
      · cases hh : d.o.has m with
        | false => left; exact List.mem_filter.2 ⟨g, by rw [hh]; rfl⟩
        | true =>
          rcases hk.has m h1 hb hh with e | e
          · exact .inr (.inl e)
          · have ht := hk.top
            unfold ken at ht
            rw [if_neg (by omega)] at ht
            exact .inr (.inr (by omega))
      · exact .inr (.inl g)
      · exact .inr (.inr g)
  · exact h
/-- more was told -/
theorem Sends.more {T : List (List UInt8)} {D D2 : Nat → Bool} {s : S} (h : Sends T D s) (hD : ∀ m, D m = true → D2 m = true) : Sends T D2 s :=
  ⟨h.sent, h.wait, h.rise, h.many, fun m h1 h2 => (h.last m h1 h2).imp id (Or.imp (hD m) id)⟩
def tell (D : Nat → Bool) (n m : Nat) : Bool := if m = n then true else D m
theorem tell_le {D : Nat → Bool} {n m : Nat} (h : D m = true) : tell D n m = true := by
  unfold tell
  split
  · rfl
  · exact h
/-- a datagram comes: what is told was sent, and not told yet; and so on -/
theorem Hears.recv {x n : Nat} {T : List (List UInt8)} {D : Nat → Bool} {s : S} {d : Ss.D} (hT : T.length = n) (h : Hears x n D s.o) (hb : d.boot = x) (hn : d.num = 0 ∨ T[d.num - 1]? = some d.pay) :
    (s.news d = true → 1 ≤ d.num ∧ d.num ≤ n ∧ D d.num = false ∧ T[d.num - 1]? = some d.pay) ∧ Hears x n (if s.news d = true then tell D d.num else D) (s.recv d).o ∧
    (1 ≤ d.num → (s.recv d).o.boot = x ∧ (s.recv d).o.has d.num = true) := by
  have hbx := h.boot
  have hm : s.meet d = ken x s.o := by unfold S.meet ken; rw [hb]
  have hkb : (ken x s.o).boot = x := by
    unfold ken
    split
    · rfl
    · omega
  have hk0 : s.o.boot < x → ∀ m, 1 ≤ m → (ken x s.o).has m = false := fun hlt m h1 => by
    unfold ken K.has
    rw [if_pos hlt, if_pos (by show 0 < m; omega)]
  -- what is known once the boot is met
  have hme : Hears x n D (ken x s.o) := by
    by_cases hlt : s.o.boot < x
    · have e : ken x s.o = ⟨x, 0, 0⟩ := by unfold ken; rw [if_pos hlt]
      have hno : ∀ m, 1 ≤ m → D m = false := fun m h1 => by
        cases hD : D m
        · rfl
        · have := (h.all m h1 hD).1; omega
      refine ⟨⟨by omega, fun y => by omega, by rw [e]; unfold ken; split <;> exact Nat.zero_le _, fun m h1 _ h3 => ?_⟩, fun m h1 hD => ?_, h.le⟩
      · rw [hk0 hlt m h1] at h3; cases h3
      · rw [hno m h1] at hD; cases hD
    · have e : ken x s.o = s.o := by unfold ken; rw [if_neg hlt]
      rw [e]; exact h
  have hnum : 1 ≤ d.num → d.num ≤ n ∧ T[d.num - 1]? = some d.pay := fun h1 => by
    rcases hn with e | e
    · omega
    · have := (List.getElem?_eq_some_iff.1 e).1
      exact ⟨by omega, e⟩
  have hle : s.o.boot ≤ d.boot := by omega
  by_cases h0 : d.num = 0
  · have hnw : s.news d = false := by unfold S.news; rw [h0]; simp
    have e : (s.recv d).o = ken x s.o := by
      unfold S.recv
      rw [if_neg (by omega), if_pos (.inl h0), hm]
    rw [hnw, e]
    exact ⟨fun y => (by cases y), by rw [if_neg (by decide)]; exact hme, fun y => by omega⟩
  · cases hh : (ken x s.o).has d.num with
    | true =>
      have hnw : s.news d = false := by unfold S.news; rw [hm, hh]; simp
      have e : (s.recv d).o = ken x s.o := by
        unfold S.recv
        rw [if_neg (by omega), hm, if_pos (.inr hh)]
      rw [hnw, e]
      exact ⟨fun y => (by cases y), by rw [if_neg (by decide)]; exact hme, fun _ => ⟨hkb, hh⟩⟩
    | false =>
      have h1 : 1 ≤ d.num := by omega
      obtain ⟨g1, g2⟩ := hnum h1
      have hDn : D d.num = false := by
        cases hD : D d.num
        · rfl
        · rw [(hme.all _ h1 hD).2] at hh; cases hh
      have hnw : s.news d = true := by unfold S.news; rw [hm, hh, decide_eq_true hle, decide_eq_true h0]; rfl
      have e : (s.recv d).o = (ken x s.o).add d.num := by
        unfold S.recv
        rw [if_neg (by omega), hm, if_neg (by rw [hh]; simp; exact h0)]
      have htop := hme.top
      have hkk : ken x (ken x s.o) = ken x s.o := by
        show (if (ken x s.o).boot < x then _ else _) = _
        rw [if_neg (by omega)]
      rw [hkk] at htop
      have hab : ((ken x s.o).add d.num).boot = x := by rw [add_boot, hkb]
      have hat : ((ken x s.o).add d.num).top = max (ken x s.o).top d.num := add_top _ _
      rw [hnw, e]
      refine ⟨fun _ => ⟨h1, g1, hDn, g2⟩, ?_, fun _ => ⟨hab, by rw [has_add _ h1 hh _ h1]; simp⟩⟩
      rw [if_pos rfl]
      refine ⟨⟨by omega, fun y => by omega, by rw [ken_same (show ¬ ((ken x s.o).add d.num).boot < x by omega)]; omega, fun m hm1 _ h3 => ?_⟩, fun m hm1 hD => ⟨hab, ?_⟩, fun m hD => ?_⟩
      · rw [has_add _ h1 hh m hm1] at h3
        simp only [Bool.or_eq_true, decide_eq_true_eq] at h3
        rcases h3 with (h3 | h3) | h3
        · left; unfold tell; rw [if_pos h3]
        · rcases hme.has m hm1 hkb h3 with y | y
          · exact .inl (tell_le y)
          · right; omega
        · exact .inr h3
      · rw [has_add _ h1 hh m hm1]
        unfold tell at hD
        by_cases y : m = d.num
        · simp [y]
        · rw [if_neg y] at hD
          simp [(hme.all m hm1 hD).2]
      · unfold tell at hD
        by_cases y : m = d.num
        · omega
        · rw [if_neg y] at hD
          exact h.le m hD
/-- an Ack of one that has all that waits -/
theorem Sends.none_ {T : List (List UInt8)} {D : Nat → Bool} {s : S} {d : Ss.D} (_ : Sends T D s) (hb : s.wait = [] ∨ d.o.boot = s.boot) (h : ∀ m ∈ s.wait, d.o.has m.1 = true) : (s.told d).wait = [] := by
  unfold S.told
  split
  · show s.wait.filter _ = []
    rw [List.filter_eq_nil_iff]
    intro m hm
    rw [h m hm]
    decide
  · rename_i g
    exact hb.elim id fun e => absurd e g
/-- the 16 that were sent last -/
theorem last16 {x n : Nat} {D : Nat → Bool} {k : K} (h : Hears x n D k) (m : Nat) (h1 : 1 ≤ m) (h2 : n < m + 16) (hb : k.boot = x) (hh : k.has m = true) : D m = true := by
  rcases h.has m h1 hb hh with e | e
  · exact e
  · have ht := h.top
    unfold ken at ht
    rw [if_neg (by omega)] at ht
    omega
end On
end Go.Proofs.YtfopjilncfndnaaDoor
