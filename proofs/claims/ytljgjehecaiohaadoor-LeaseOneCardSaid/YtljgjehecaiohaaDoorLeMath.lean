/-
  Leases and promises by the document, and why of three nodes no two have a lease: plain mathematics. Conditions: none.
-/
import Derived.Test.YtljgjehecaiohaaDoorBa
namespace Go.Proofs.YtljgjehecaiohaaDoor

namespace Le
/-- may a number be a time? -/
def Time (n : Int) : Prop := 0 ≤ n ∧ n ≤ 1099511627776
instance (n : Int) : Decidable (Time n) := by unfold Time; infer_instance
/-- P16.1 -/
def Valid (s n : Int) : Prop := Time s ∧ Time n ∧ s ≤ n ∧ n - s < 900
instance (s n : Int) : Decidable (Valid s n) := by unfold Valid; infer_instance
def left (s n : Int) : Int := if Valid s n then 900 - (n - s) else 0
/-- P16.2 -/
def Holds (t f n : Int) : Prop := t ≠ -1 ∧ (¬ (Time f ∧ Time n) ∨ n - f < 1100)
instance (t f n : Int) : Decidable (Holds t f n) := by unfold Holds; infer_instance
def Bars (t f d n : Int) : Prop := Holds t f n ∧ (t = -2 ∨ t ≠ d)
instance (t f d n : Int) : Decidable (Bars t f d n) := by unfold Bars; infer_instance
/-- P16.3 -/
def Part (x : Int) : Prop := 90 ≤ x ∧ x ≤ 110
instance (x : Int) : Decidable (Part x) := by unfold Part; infer_instance

/-- LeaseApart: what stands ahead of tick i -/
structure Apart (ask give : Nat) (i : Nat) (a g s t f : Int) : Prop where
  a0 : 0 ≤ a
  aM : a ≤ 1073741824 + 110 * i
  g0 : 0 ≤ g
  gM : g ≤ 1073741824 + 110 * i
  s0 : i ≤ ask → s = -1
  s1 : ask < i → 0 ≤ s ∧ s ≤ a
  p0 : i ≤ give → t = -1 ∧ f = 0
  p1 : give < i → t = 1 ∧ 0 ≤ f ∧ f ≤ g ∧ ∃ m : Nat, 90 * (m : Int) ≤ a - s ∧ g - f ≤ 110 * (m : Int)
/-- behind the deeds of step i, ahead of its tick -/
structure Apart1 (ask give : Nat) (i : Nat) (a g s t f : Int) : Prop where
  a0 : 0 ≤ a
  aM : a ≤ 1073741824 + 110 * i
  g0 : 0 ≤ g
  gM : g ≤ 1073741824 + 110 * i
  s0 : i < ask → s = -1
  s1 : ask ≤ i → 0 ≤ s ∧ s ≤ a
  p0 : i < give → t = -1 ∧ f = 0
  p1 : give ≤ i → t = 1 ∧ 0 ≤ f ∧ f ≤ g ∧ ∃ m : Nat, 90 * (m : Int) ≤ a - s ∧ g - f ≤ 110 * (m : Int)
theorem apart_new {ask give : Nat} {a g : Int} (ha : 0 ≤ a ∧ a ≤ 1073741824) (hg : 0 ≤ g ∧ g ≤ 1073741824) : Apart ask give 0 a g (-1) (-1) 0 :=
  ⟨ha.1, by omega, hg.1, by omega, fun _ => rfl, fun h => by omega, fun _ => ⟨rfl, rfl⟩, fun h => by omega⟩
theorem Apart.does {ask give i : Nat} {a g s t f : Int} (h : Apart ask give i a g s t f) (hge : ask ≤ give) :
    Apart1 ask give i a g (if i = ask then a else s) (if i = give then 1 else t) (if i = give then g else f) := by
  obtain ⟨a0, aM, g0, gM, s0, s1, p0, p1⟩ := h
  refine ⟨a0, aM, g0, gM, fun hi => ?_, fun hi => ?_, fun hi => ?_, fun hi => ?_⟩
  · rw [if_neg (by omega)]; exact s0 (by omega)
  · split
    · omega
    · exact s1 (by omega)
  · rw [if_neg (by omega), if_neg (by omega)]; exact p0 (by omega)
  · by_cases e : i = give
    · rw [if_pos e, if_pos e]
      refine ⟨rfl, g0, by omega, 0, ?_, by omega⟩
      split
      · omega
      · have := s1 (by omega); omega
    · rw [if_neg e, if_neg e, if_neg (by omega)]
      exact p1 (by omega)
theorem Apart1.tick {ask give i : Nat} {a g s t f x y : Int} (h : Apart1 ask give i a g s t f) (hx : Part x) (hy : Part y) : Apart ask give (i + 1) (a + x) (g + y) s t f := by
  obtain ⟨a0, aM, g0, gM, s0, s1, p0, p1⟩ := h
  unfold Part at hx hy
  refine ⟨by omega, by omega, by omega, by omega, fun hi => s0 (by omega), fun hi => ?_, fun hi => p0 (by omega), fun hi => ?_⟩
  · have := s1 (by omega); omega
  · obtain ⟨e, e1, e2, m, m1, m2⟩ := p1 (by omega)
    exact ⟨e, e1, by omega, m + 1, by omega, by omega⟩
theorem Apart1.holds {ask give i : Nat} {a g s t f : Int} (h : Apart1 ask give i a g s t f) (hi : give ≤ i) (hv : Valid s a) : Holds t f g := by
  obtain ⟨e, e1, e2, m, m1, m2⟩ := h.p1 hi
  unfold Valid at hv
  unfold Holds
  refine ⟨by omega, .inr (by omega)⟩

/-- a lease that was asked for -/
structure Ask where
  node : Nat
  to : Nat
  stamp : Int
  given : Bool
/-- a number in place of one of three -/
def upd (f : Nat → Int) (i : Nat) (v : Int) : Nat → Int := fun k => if k = i then v else f k
theorem upd_eq (f : Nat → Int) (i : Nat) (v : Int) : upd f i v i = v := if_pos rfl
theorem upd_ne {f : Nat → Int} {i k : Nat} {v : Int} (h : k ≠ i) : upd f i v k = f k := if_neg h
structure AskOk (at_ pt pf : Nat → Int) (a : Ask) : Prop where
  node : a.node < 2
  to : a.to < 3
  ne : a.to ≠ a.node
  lo : -1 ≤ a.stamp
  hi : a.stamp ≤ at_ a.node
  ok : 0 ≤ a.stamp → at_ a.node - a.stamp < 900 → ∃ m : Nat, 90 * (m : Int) ≤ at_ a.node - a.stamp ∧ pt a.node = a.node ∧ at_ a.node - pf a.node ≤ 110 * (m : Int) ∧
    (a.given = true → pt a.to = a.node ∧ at_ a.to - pf a.to ≤ 110 * (m : Int))
structure One (i : Nat) (at_ pt pf : Nat → Int) (all : List Ask) : Prop where
  a0 : ∀ k, k < 3 → 0 ≤ at_ k ∧ at_ k ≤ 1073741824 + 110 * i
  p0 : ∀ k, k < 3 → pt k = -1 ∧ pf k = 0 ∨ (pt k = 0 ∨ pt k = 1) ∧ 0 ≤ pf k ∧ pf k ≤ at_ k
  oks : ∀ a ∈ all, AskOk at_ pt pf a
  len : all.length ≤ i
theorem one_new {at_ : Nat → Int} (h : ∀ k, k < 3 → 0 ≤ at_ k ∧ at_ k ≤ 1073741824) : One 0 at_ (fun _ => -1) (fun _ => 0) [] :=
  ⟨fun k hk => by have := h k hk; omega, fun _ _ => .inl ⟨rfl, rfl⟩, (fun a h => by cases h), Nat.le_refl _⟩
theorem One.skip {i : Nat} {at_ pt pf : Nat → Int} {all : List Ask} (h : One i at_ pt pf all) : One (i + 1) at_ pt pf all :=
  ⟨fun k hk => by have := h.a0 k hk; omega, h.p0, h.oks, Nat.le_succ_of_le h.len⟩
theorem One.tick {i : Nat} {at_ pt pf : Nat → Int} {all : List Ask} (h : One i at_ pt pf all) {by_ : Nat → Int} (hb : ∀ k, k < 3 → Part (by_ k)) : One (i + 1) (fun k => at_ k + by_ k) pt pf all := by
  have hb' : ∀ k, k < 3 → 90 ≤ by_ k ∧ by_ k ≤ 110 := hb
  refine ⟨fun k hk => ?_, fun k hk => ?_, fun a ha => ?_, Nat.le_succ_of_le h.len⟩
  · have := h.a0 k hk; have := hb' k hk
    show 0 ≤ at_ k + by_ k ∧ _
    omega
  · rcases h.p0 k hk with e | e
    · exact .inl e
    · have := hb' k hk
      exact .inr ⟨e.1, e.2.1, by have := e.2.2; show pf k ≤ at_ k + by_ k; omega⟩
  · obtain ⟨n1, n2, n3, n4, n5, n6⟩ := h.oks a ha
    have b1 := hb' a.node (by omega)
    have b2 := hb' a.to n2
    refine ⟨n1, n2, n3, n4, by show a.stamp ≤ at_ a.node + by_ a.node; omega, fun hs hv => ?_⟩
    have hv : at_ a.node + by_ a.node - a.stamp < 900 := hv
    obtain ⟨m, m1, m2, m3, m4⟩ := n6 hs (by omega)
    refine ⟨m + 1, ?_, m2, ?_, fun hg => ⟨(m4 hg).1, ?_⟩⟩
    · show 90 * ((m + 1 : Nat) : Int) ≤ at_ a.node + by_ a.node - a.stamp; omega
    · show at_ a.node + by_ a.node - pf a.node ≤ 110 * ((m + 1 : Nat) : Int); omega
    · have := (m4 hg).2
      show at_ a.to + by_ a.to - pf a.to ≤ 110 * ((m + 1 : Nat) : Int); omega
/-- a promise of one that asked, while its lease may be valid -/
theorem bars_of {at_ pt pf : Nat → Int} {k : Nat} {d e : Nat} {m : Nat} (h1 : pt k = (d : Int)) (hne : d ≠ e) (hm : 90 * m < 900) (hf : at_ k - pf k ≤ 110 * (m : Int)) : Bars (pt k) (pf k) (e : Int) (at_ k) := by
  unfold Bars Holds
  refine ⟨⟨by omega, .inr (by omega)⟩, .inr (by omega)⟩
theorem One.asks {i : Nat} {at_ pt pf : Nat → Int} {all : List Ask} (h : One i at_ pt pf all) {n to : Nat} (hn : n < 2) (ht : to < 3) (hne : to ≠ n) (hb : ¬ Bars (pt n) (pf n) (n : Int) (at_ n)) :
    One (i + 1) at_ (upd pt n n) (upd pf n (at_ n)) (all ++ [⟨n, to, at_ n, false⟩]) := by
  have hnn := h.a0 n (by omega)
  refine ⟨fun k hk => by have := h.a0 k hk; omega, fun k hk => ?_, fun a ha => ?_, ?_⟩
  · by_cases e : k = n
    · subst e
      rw [upd_eq, upd_eq]
      exact .inr ⟨by omega, by omega, by omega⟩
    · rw [upd_ne e, upd_ne e]; exact h.p0 k hk
  · rcases List.mem_append.1 ha with ha | ha
    · obtain ⟨n1, n2, n3, n4, n5, n6⟩ := h.oks a ha
      refine ⟨n1, n2, n3, n4, n5, fun hs hv => ?_⟩
      obtain ⟨m, m1, m2, m3, m4⟩ := n6 hs hv
      by_cases e : a.node = n
      · refine ⟨m, m1, by rw [e, upd_eq], by rw [e, upd_eq]; omega, fun hg => ?_⟩
        rw [upd_ne (by omega), upd_ne (by omega)]
        exact m4 hg
      · rw [upd_ne e, upd_ne e]
        refine ⟨m, m1, m2, m3, fun hg => ?_⟩
        obtain ⟨g1, g2⟩ := m4 hg
        by_cases e2 : a.to = n
        · rw [e2] at g1 g2
          exact absurd (bars_of g1 e (by omega) g2) hb
        · rw [upd_ne e2, upd_ne e2]
          exact ⟨g1, g2⟩
    · obtain rfl := List.mem_singleton.1 ha
      refine ⟨hn, ht, hne, by show (-1 : Int) ≤ at_ n; omega, Int.le_refl _, fun _ _ => ⟨0, by show 90 * ((0 : Nat) : Int) ≤ at_ n - at_ n; omega, upd_eq _ _ _, ?_, fun e => by cases e⟩⟩
      show at_ n - upd pf n (at_ n) n ≤ 110 * ((0 : Nat) : Int)
      rw [upd_eq]; omega
  · have := h.len
    simp
    omega
/-- giving the lease k makes this of another one -/
def giveA (to : Nat) (a : Ask) : Ask := if a.node = to then { a with stamp := -1 } else a
def giveL (all : List Ask) (k : Nat) (a : Ask) : List Ask := (all.set k { a with given := true }).map (giveA a.to)
theorem giveL_len (all : List Ask) (k : Nat) (a : Ask) : (giveL all k a).length = all.length := by unfold giveL; rw [List.length_map, List.length_set]
theorem One.gives {i : Nat} {at_ pt pf : Nat → Int} {all : List Ask} (h : One i at_ pt pf all) {k : Nat} {a : Ask} (ha : all[k]? = some a) (hb : ¬ Bars (pt a.to) (pf a.to) (a.node : Int) (at_ a.to)) :
    One (i + 1) at_ (upd pt a.to a.node) (upd pf a.to (at_ a.to)) (giveL all k a) := by
  have hA := h.oks a (List.mem_of_getElem? ha)
  have htt := h.a0 a.to hA.to
  have hnd := hA.node
  refine ⟨fun k hk => by have := h.a0 k hk; omega, fun k hk => ?_, fun x hx => ?_, by rw [giveL_len]; exact Nat.le_succ_of_le h.len⟩
  · by_cases e : k = a.to
    · rw [e, upd_eq, upd_eq]
      exact .inr ⟨by omega, by omega, by omega⟩
    · rw [upd_ne e, upd_ne e]; exact h.p0 k hk
  · unfold giveL at hx
    obtain ⟨y, hy, rfl⟩ := List.mem_map.1 hx
    have key : ∃ z, z ∈ all ∧ y.node = z.node ∧ y.to = z.to ∧ y.stamp = z.stamp ∧ (y.given = true → z.given = true ∨ y = { a with given := true }) := by
      rcases List.mem_or_eq_of_mem_set hy with hm | rfl
      · exact ⟨y, hm, rfl, rfl, rfl, fun e => .inl e⟩
      · exact ⟨a, List.mem_of_getElem? ha, rfl, rfl, rfl, fun _ => .inr rfl⟩
    obtain ⟨z, hz, e1, e2, e3, e4⟩ := key
    obtain ⟨n1, n2, n3, n4, n5, n6⟩ := h.oks z hz
    unfold giveA
    by_cases e : y.node = a.to
    · rw [if_pos e]
      refine ⟨by show y.node < 2; omega, by show y.to < 3; omega, by show y.to ≠ y.node; omega, Int.le_refl _, ?_, fun hs => ?_⟩
      · have := h.a0 y.node (by omega)
        show (-1 : Int) ≤ at_ y.node
        omega
      · have hs : (0 : Int) ≤ -1 := hs
        omega
    · rw [if_neg e]
      refine ⟨by rw [e1]; exact n1, by rw [e2]; exact n2, by rw [e1, e2]; exact n3, by rw [e3]; exact n4, by rw [e3, e1]; exact n5, fun hs hv => ?_⟩
      rw [e1, e3] at hv
      rw [e3] at hs
      obtain ⟨m, m1, m2, m3, m4⟩ := n6 hs hv
      rw [e1] at e
      rw [e1, e2, e3, upd_ne e, upd_ne e]
      refine ⟨m, m1, m2, m3, fun hg => ?_⟩
      by_cases t : z.to = a.to
      · rw [t, upd_eq, upd_eq]
        rcases e4 hg with g | g
        · obtain ⟨g1, g2⟩ := m4 g
          rw [t] at g1 g2
          refine ⟨?_, by omega⟩
          by_cases q : z.node = a.node
          · rw [q]
          · exact absurd (bars_of g1 q (by omega) g2) hb
        · have : z.node = a.node := by rw [← e1, g]
          exact ⟨by rw [this], by omega⟩
      · rw [upd_ne t, upd_ne t]
        rcases e4 hg with g | g
        · exact m4 g
        · exact absurd (by rw [← e2, g]) t
/-- no two have a lease -/
theorem One.apart {i : Nat} {at_ pt pf : Nat → Int} {all : List Ask} (h : One i at_ pt pf all) {a b : Ask} (ha : a ∈ all) (hb : b ∈ all) (ga : a.given = true) (gb : b.given = true) (na : a.node = 0) (nb : b.node = 1)
    (va : Valid a.stamp (at_ a.node)) (vb : Valid b.stamp (at_ b.node)) : False := by
  unfold Valid Time at va vb
  obtain ⟨_, ta, qa, _, _, oa⟩ := h.oks a ha
  obtain ⟨_, tb, qb, _, _, ob⟩ := h.oks b hb
  obtain ⟨m, _, a1, _, a3⟩ := oa (by omega) (by omega)
  obtain ⟨m', _, b1, _, b3⟩ := ob (by omega) (by omega)
  have a4 := (a3 ga).1
  have b4 := (b3 gb).1
  rw [na] at a1 a4 qa
  rw [nb] at b1 b4 qb
  clear a3 b3 oa ob
  have h1 : a.to = 1 ∨ a.to = 2 := by omega
  have h2 : b.to = 0 ∨ b.to = 2 := by omega
  rcases h1 with e | e <;> rcases h2 with f | f <;> rw [e] at a4 <;> rw [f] at b4 <;> omega
end Le
end Go.Proofs.YtljgjehecaiohaaDoor
