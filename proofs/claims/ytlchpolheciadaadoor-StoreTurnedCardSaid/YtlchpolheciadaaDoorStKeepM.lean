/-
  A store through Puts and Opens that may stop, and crashes: plain mathematics. Conditions: none.
-/
import Derived.Test.YtlchpolheciadaaDoorStore
import Derived.Test.YtlchpolheciadaaDoorSlCrashM
namespace Go.Proofs.YtlchpolheciadaaDoor
open Fix
namespace St
/-- a sector that is written and flushed: all went well, or the disk stopped and a crash leaves it mixed -/
theorem put1_mix (S : DS) (ho : S.out = false) (hl : S.loose = fun _ => none) (p : Nat) (hp : p < S.n) (b : List UInt8) (hb : b.length = 64) :
    ∃ T e, Slot.put1 S (p : Int) b = (T, e) ∧ T.n = S.n ∧
      ((e = 0 ∧ T.out = false ∧ T.loose = (fun _ => none) ∧ T.firm = DS.upd S.firm p b ∧ (S.left = none → T.left = none)) ∨
       (e = 10 ∧ S.left ≠ none ∧ ∀ keeps tear, ∃ x, Slot.Mix b (S.firm p) x ∧ (T.crash keeps tear).firm = DS.upd S.firm p x)) := by
  have hlast : S.last = S.firm := by funext j; unfold DS.last; rw [hl]; rfl
  have self : ∀ f : Nat → List UInt8, DS.upd f p (f p) = f := fun f => by funext j; unfold DS.upd; split <;> simp [*]
  by_cases hf : S.left = none
  · have e1 := Slot.put1_calm S ho hf p hp b hb
    exact ⟨_, _, e1, rfl, .inl ⟨rfl, rfl, rfl, by rw [← hlast], fun _ => rfl⟩⟩
  · rcases Slot.put1_cases S ho p hp b hb with h | ⟨T, h, h1, h2, h3⟩ | ⟨l, h⟩
    · refine ⟨_, _, h, rfl, .inr ⟨rfl, hf, fun keeps tear => ⟨S.firm p, .inl rfl, ?_⟩⟩⟩
      rw [self]
      funext j
      show DS.crashed _ keeps tear j = _
      rcases Slot.crashed_cases { S with out := true } keeps tear j with c | ⟨l, c, _⟩
      · exact c
      · have c : S.loose j = some l := c
        rw [hl] at c
        cases c
    · refine ⟨_, _, h, h1, .inr ⟨rfl, hf, fun keeps tear => ⟨(T.crash keeps tear).firm p, ?_, ?_⟩⟩⟩
      · show Slot.Mix b (S.firm p) (DS.crashed T keeps tear p)
        rcases Slot.crashed_cases T keeps tear p with c | ⟨l, c, c2⟩
        · rw [c, h2]; exact .inl rfl
        · rw [h3] at c
          have hl : b = l := by simpa [DS.upd] using c
          subst hl
          rcases c2 with c2 | c2
          · rw [c2]; exact .inr (.inl rfl)
          · rw [c2, h2]; exact .inr (.inr rfl)
      · funext j
        by_cases hj : j = p
        · subst hj; simp [DS.upd]
        · show DS.crashed T keeps tear j = _
          rcases Slot.crashed_cases T keeps tear j with c | ⟨l, c, _⟩
          · rw [c, h2]; simp [DS.upd, hj]
          · rw [h3] at c
            have c : (S.loose j) = some l := by simpa [DS.upd, hj] using c
            rw [hl] at c
            cases c
    · exact ⟨_, _, h, rfl, .inl ⟨rfl, rfl, rfl, by rw [← hlast], fun x => absurd x hf⟩⟩
/-- between two Puts: every block is right and has what it should; the greatest number is N; the journal's entry is done -/
structure Calm (S : DS) (n N : Nat) (h : Nat → List UInt8) : Prop where
  q : S.Quiet
  sn : S.n = n + 1
  n1 : 1 ≤ n
  n64 : n ≤ 64
  N40 : N ≤ 1099511627776
  jl : (S.firm 0).length = 64
  ag : Jn.again (S.firm 0) ≤ N
  dl : ∀ i, i < n → (h i).length = 32
  blk : ∀ i, i < n → ∃ k, 1 ≤ k ∧ k ≤ N ∧ S.firm (i + 1) = Blk.sect i k (h i)
  top : ∃ i, i < n ∧ S.firm (i + 1) = Blk.sect i N (h i)
  jr : Jn.right (S.firm 0) = true → Jn.place (S.firm 0) < n → Jn.num (S.firm 0) ≤ Blk.num (S.firm (Jn.place (S.firm 0) + 1))
/-- behind a crash in a Put of d at b: the entry is firm -/
structure Mid (S : DS) (n N : Nat) (h : Nat → List UInt8) (b : Nat) (d : List UInt8) : Prop where
  q : S.Quiet
  sn : S.n = n + 1
  n64 : n ≤ 64
  N40 : N < 1099511627776
  bn : b < n
  d32 : d.length = 32
  j : S.firm 0 = Jn.sect b (N + 1) d
  dl : ∀ i, i < n → (h i).length = 32
  blk : ∀ i, i < n → i ≠ b → ∃ k, 1 ≤ k ∧ k ≤ N ∧ S.firm (i + 1) = Blk.sect i k (h i)
  xl : (S.firm (b + 1)).length = 64
  x : S.firm (b + 1) = Blk.sect b (N + 1) d ∨ Blk.again (S.firm (b + 1)) ≤ N
theorem idx (i : Nat) : (0 : Int) + 1 + (i : Int) = ((i + 1 : Nat) : Int) := by omega
theorem blk_good {i k : Nat} {d : List UInt8} (hi : i < 64) (h1 : 1 ≤ k) (h2 : k ≤ 1099511627776) (hd : d.length = 32) : Blk.bytesE i k d = 0 := (Blk.bytesE_zero _ _ _).2 ⟨by omega, by omega, by omega, by omega, hd⟩
theorem may_good {b k : Nat} {d : List UInt8} (hb : b < 64) (h1 : 1 ≤ k) (h2 : k ≤ 1099511627776) (hd : d.length = 32) : Jn.may ⟨b, k, d⟩ = true := (Jn.may_mk _ _ _).2 ⟨by omega, by omega, by omega, by omega, hd⟩
/-- what a block is read as, the disk being quiet -/
theorem reads {S : DS} (hq : S.Quiet) {i : Nat} (hi : i + 1 < S.n) : bE S 0 i = Blk.readE i (S.firm (i + 1)) ∧ bN S 0 i = Blk.readN i (S.firm (i + 1)) ∧ bB S 0 i = Blk.readB i (S.firm (i + 1)) := by
  have e1 := hq.readE hi
  have e2 := hq.readB hi
  unfold bE bN bB
  rw [idx, e1, e2, if_pos rfl, if_pos rfl, if_pos rfl]
  exact ⟨rfl, rfl, rfl⟩
theorem reads_good {S : DS} (hq : S.Quiet) {i k : Nat} {d : List UInt8} (hi : i + 1 < S.n) (hs : S.firm (i + 1) = Blk.sect i k d) (hg : Blk.bytesE i k d = 0) : bE S 0 i = 0 ∧ bN S 0 i = k ∧ bB S 0 i = d := by
  obtain ⟨h1, h2, h3⟩ := reads hq hi
  obtain ⟨g1, g2, g3⟩ := Blk.read_sect i k d hg
  rw [h1, h2, h3, hs]
  exact ⟨g3, g1, g2⟩
theorem last_quiet {S : DS} (hq : S.Quiet) (hn : 0 < S.n) : Jn.lastE S 0 = (if Jn.right (S.firm 0) = true then 0 else 6) ∧ Jn.lastV S 0 = Jn.readV (S.firm 0) := by
  have e1 : S.readE 0 = 0 := hq.readE (i := 0) hn
  have e2 : S.readB 0 = S.firm 0 := hq.readB (i := 0) hn
  unfold Jn.lastE Jn.lastV
  rw [e1, e2, if_pos rfl, if_pos rfl]
  exact ⟨rfl, rfl⟩
theorem room_ok {S : DS} {n : Nat} (ho : S.out = false) (hn : S.n = n + 1) (h1 : 1 ≤ n) (h2 : n ≤ 64) : room S 0 n = 0 := by
  unfold room
  rw [if_neg (by rw [ho]; decide), if_neg (by omega), if_neg (by omega)]
theorem bads_none (S : DS) (n : Nat) (h : ∀ i, i < n → bE S 0 i = 0) : bads S 0 n = [] := by
  induction n with
  | zero => rfl
  | succ k ih => unfold bads; rw [if_pos (h k (by omega)), ih fun i hi => h i (by omega)]
theorem top_is (S : DS) (a N n : Nat) (ha : a ≤ N) (hle : ∀ i, i < n → bN S 0 i ≤ N) : top S 0 a n ≤ N ∧ ((∃ i, i < n ∧ bN S 0 i = N) → top S 0 a n = N) := by
  induction n with
  | zero => exact ⟨ha, fun ⟨i, hi, _⟩ => by omega⟩
  | succ k ih =>
    obtain ⟨h1, h2⟩ := ih fun i hi => hle i (by omega)
    have := hle k (by omega)
    unfold top
    refine ⟨by omega, fun ⟨i, hi, e⟩ => ?_⟩
    by_cases hk : i = k
    · subst hk; omega
    · have := h2 ⟨i, by omega, e⟩
      omega
section
variable {S : DS} {n N : Nat} {h : Nat → List UInt8}
theorem Calm.block (c : Calm S n N h) {i : Nat} (hi : i < n) : bE S 0 i = 0 ∧ bN S 0 i ≤ N ∧ bB S 0 i = h i := by
  obtain ⟨k, h1, h2, h3⟩ := c.blk i hi
  have := c.N40
  have := c.n64
  obtain ⟨g1, g2, g3⟩ := reads_good c.q (by rw [c.sn]; omega) h3 (blk_good (by omega) h1 (by omega) (c.dl i hi))
  exact ⟨g1, by omega, g3⟩
theorem Calm.greatest (c : Calm S n N h) : 1 ≤ N ∧ ∃ i, i < n ∧ bN S 0 i = N := by
  obtain ⟨i, hi, e⟩ := c.top
  have := c.N40
  have := c.n64
  obtain ⟨k, h1, h2, h3⟩ := c.blk i hi
  have hN : 1 ≤ N := by omega
  exact ⟨hN, i, hi, (reads_good c.q (by rw [c.sn]; omega) e (blk_good (by omega) hN (by omega) (c.dl i hi))).2.1⟩
theorem Calm.entry (c : Calm S n N h) (hr : Jn.right (S.firm 0) = true) : Jn.num (S.firm 0) ≤ N := by
  have := Jn.again_right hr
  have := c.ag
  omega
theorem Calm.heals_no (c : Calm S n N h) : heals S 0 n = false := by
  obtain ⟨h1, h2⟩ := last_quiet c.q (by rw [c.sn]; omega)
  unfold heals
  rw [h1, h2]
  cases hr : Jn.right (S.firm 0) with
  | false => simp
  | true =>
    rw [Jn.readV_yes hr]
    by_cases hb : Jn.place (S.firm 0) < n
    · obtain ⟨k, g1, g2, g3⟩ := c.blk _ hb
      have := c.N40
      have := c.n64
      have hj := c.jr hr hb
      rw [g3, Blk.sect_num _ _ _ (by omega)] at hj
      obtain ⟨e1, e2, _⟩ := reads_good c.q (by rw [c.sn]; omega) g3 (blk_good (by omega) g1 (by omega) (c.dl _ hb))
      show (decide _ && decide _ && (decide (bE S 0 (Jn.place (S.firm 0) : Nat) ≠ 0) || decide ((bN S 0 (Jn.place (S.firm 0) : Nat) : Int) < (Jn.num (S.firm 0) : Nat)))) = false
      rw [e1, e2]
      simp
      omega
    · have : ¬ ((Jn.ent (S.firm 0)).b < (n : Int)) := by
        show ¬ ((Jn.place (S.firm 0) : Int) < (n : Int))
        omega
      simp [this]
/-- opened, all is as it was -/
theorem Calm.open_ (c : Calm S n N h) : openE S 0 n = 0 ∧ openS S 0 n = S ∧ bads S 0 n = [] ∧ opened S 0 n = ⟨0, n, N, false⟩ := by
  have hr := room_ok c.q.out c.sn c.n1 c.n64
  have hS : openS S 0 n = S := by unfold openS mended; rw [if_pos hr, Int.toNat_natCast, c.heals_no]; rfl
  refine ⟨?_, hS, bads_none S n fun i hi => (c.block hi).1, ?_⟩
  · unfold openE mended
    rw [if_pos hr, Int.toNat_natCast, c.heals_no]
    rfl
  · unfold opened
    rw [hS, Int.toNat_natCast]
    have hb : begin_ S 0 ≤ N := by
      obtain ⟨h1, h2⟩ := last_quiet c.q (by rw [c.sn]; omega)
      unfold begin_
      rw [h1, h2]
      cases hr : Jn.right (S.firm 0) with
      | false => simp
      | true =>
        rw [Jn.readV_yes hr]
        exact c.entry hr
    rw [(top_is S (begin_ S 0) N n hb fun i hi => (c.block hi).2.1).2 c.greatest.2]
    rfl
/-- the same firm sectors, and quiet: the same -/
theorem Calm.same (c : Calm S n N h) {T : DS} (hq : T.Quiet) (hn : T.n = S.n) (hf : T.firm = S.firm) : Calm T n N h :=
  ⟨hq, by rw [hn]; exact c.sn, c.n1, c.n64, c.N40, by rw [hf]; exact c.jl, by rw [hf]; exact c.ag, c.dl, by rw [hf]; exact c.blk, by rw [hf]; exact c.top, by rw [hf]; exact c.jr⟩
variable {b : Nat} {d : List UInt8}
/-- an entry that is torn is none -/
theorem Calm.torn (c : Calm S n N h) (hd : d.length = 32) (hN : N < 1099511627776) {T : DS} (hq : T.Quiet) (hn : T.n = S.n) (hf : T.firm = DS.upd S.firm 0 (Slot.torn (Jn.sect b (N + 1) d) (S.firm 0))) : Calm T n N h := by
  have hl := Jn.sect_length b (N + 1) d hd
  have f0 : T.firm 0 = Jn.torn (Jn.sect b (N + 1) d) (S.firm 0) := by rw [hf]; simp [DS.upd]; rfl
  have fi : ∀ i, T.firm (i + 1) = S.firm (i + 1) := fun i => by rw [hf]; simp [DS.upd]
  have hag := c.ag
  have hbad := (Jn.torn_bad _ _ hl c.jl (by rw [Jn.sect_num b (N + 1) d (by omega)]; omega)).2
  refine ⟨hq, by rw [hn]; exact c.sn, c.n1, c.n64, c.N40, by rw [f0]; exact Jn.torn_length _ _ hl c.jl, by rw [f0, Jn.torn_again _ _ hl]; exact hag, c.dl, fun i hi => by rw [fi]; exact c.blk i hi, ?_, fun hr => by rw [f0, hbad] at hr; cases hr⟩
  obtain ⟨i, hi, e⟩ := c.top
  exact ⟨i, hi, by rw [fi]; exact e⟩
/-- the entry is firm, the block as it was, or whatever it may be then -/
theorem Calm.mid (c : Calm S n N h) (hb : b < n) (hd : d.length = 32) (hN : N < 1099511627776) {T : DS} (hq : T.Quiet) (hn : T.n = S.n) (x : List UInt8) (hx : Slot.Mix (Blk.sect b (N + 1) d) (S.firm (b + 1)) x)
    (hf : T.firm = DS.upd (DS.upd S.firm 0 (Jn.sect b (N + 1) d)) (b + 1) x) : Mid T n N h b d := by
  have hl := Blk.sect_length b (N + 1) d hd
  obtain ⟨k, h1, h2, h3⟩ := c.blk b hb
  have hlk : (S.firm (b + 1)).length = 64 := by rw [h3]; exact Blk.sect_length b k _ (c.dl b hb)
  have hak : Blk.again (S.firm (b + 1)) ≤ N := by rw [h3, Blk.sect_again b k _ (c.dl b hb) (by omega)]; exact h2
  have fb : T.firm (b + 1) = x := by rw [hf]; simp [DS.upd]
  refine ⟨hq, by rw [hn]; exact c.sn, c.n64, hN, hb, hd, by rw [hf]; simp [DS.upd], c.dl, fun i hi hne => ?_, ?_, ?_⟩
  · obtain ⟨k', g1, g2, g3⟩ := c.blk i hi
    exact ⟨k', g1, g2, by rw [hf]; simpa [DS.upd, hne] using g3⟩
  · rw [fb]
    rcases hx with rfl | rfl | rfl
    · exact hlk
    · exact hl
    · exact Blk.torn_length _ _ hl hlk
  · rw [fb]
    rcases hx with rfl | rfl | rfl
    · exact .inr hak
    · exact .inl rfl
    · refine .inr ?_
      show Blk.again (Blk.torn _ _) ≤ N
      rw [Blk.torn_again _ _ hl]
      exact hak
theorem Mid.block (m : Mid S n N h b d) {i : Nat} (hi : i < n) (hne : i ≠ b) : bE S 0 i = 0 ∧ bN S 0 i ≤ N ∧ bB S 0 i = h i := by
  obtain ⟨k, h1, h2, h3⟩ := m.blk i hi hne
  have := m.N40
  have := m.n64
  obtain ⟨g1, g2, g3⟩ := reads_good m.q (by rw [m.sn]; omega) h3 (blk_good (by omega) h1 (by omega) (m.dl i hi))
  exact ⟨g1, by omega, g3⟩
theorem Mid.entry (m : Mid S n N h b d) : Jn.lastE S 0 = 0 ∧ Jn.lastV S 0 = ⟨b, (N + 1 : Nat), d⟩ := by
  have := m.N40
  have := m.n64
  have := m.bn
  obtain ⟨h1, h2⟩ := last_quiet m.q (by rw [m.sn]; omega)
  have hm := may_good (b := b) (k := N + 1) (d := d) (by omega) (by omega) (by omega) m.d32
  rw [h1, h2, m.j, if_pos (Jn.sect_right b (N + 1) d hm), (Jn.read_sect b (N + 1) d hm).1]
  exact ⟨rfl, rfl⟩
/-- the block has what was being put: all is done -/
theorem Mid.done (m : Mid S n N h b d) (hx : S.firm (b + 1) = Blk.sect b (N + 1) d) : Calm S n (N + 1) (DS.upd h b d) := by
  have hN := m.N40
  have hn := m.n64
  have hb := m.bn
  refine ⟨m.q, m.sn, by omega, m.n64, by omega, by rw [m.j]; exact Jn.sect_length b (N + 1) d m.d32, by rw [m.j, Jn.sect_again b (N + 1) d m.d32 (by omega)]; exact Nat.le_refl _, fun i hi => ?_, fun i hi => ?_, ⟨b, hb, by rw [hx]; simp [DS.upd]⟩, fun _ _ => ?_⟩
  · unfold DS.upd
    split
    · exact m.d32
    · exact m.dl i hi
  · by_cases e : i = b
    · subst e
      exact ⟨N + 1, by omega, Nat.le_refl _, by rw [hx]; simp [DS.upd]⟩
    · obtain ⟨k, h1, h2, h3⟩ := m.blk i hi e
      exact ⟨k, h1, by omega, by rw [h3]; simp [DS.upd, e]⟩
  · rw [m.j, Jn.sect_num b (N + 1) d (by omega), Jn.sect_place b (N + 1) d (by omega), hx, Blk.sect_num b (N + 1) d (by omega)]
    exact Nat.le_refl _
theorem Mid.heals_no (m : Mid S n N h b d) (hx : S.firm (b + 1) = Blk.sect b (N + 1) d) : heals S 0 n = false := (m.done hx).heals_no
theorem Mid.heals_yes (m : Mid S n N h b d) (hx : S.firm (b + 1) ≠ Blk.sect b (N + 1) d) : heals S 0 n = true := by
  obtain ⟨h1, h2⟩ := m.entry
  have hN := m.N40
  have hb := m.bn
  have ha := m.x.resolve_left hx
  obtain ⟨g1, g2, _⟩ := reads m.q (i := b) (by rw [m.sn]; omega)
  unfold heals
  rw [h1, h2]
  show (decide _ && decide ((b : Int) < n) && (decide (bE S 0 (b : Int) ≠ 0) || decide ((bN S 0 (b : Int) : Int) < ((N + 1 : Nat) : Int)))) = true
  have hlt : bN S 0 (b : Int) < N + 1 := by
    rw [g2]
    unfold Blk.readN
    split
    · rename_i hr
      rw [← Blk.again_right hr]
      omega
    · omega
  simp
  refine ⟨hb, .inr ?_⟩
  omega
theorem lay_sect {k : Nat} (S : DS) (hb : b < 64) (h1 : 1 ≤ k) (h2 : k ≤ 1099511627776) (hd : d.length = 32) : lay S 0 ⟨b, k, d⟩ = Slot.put1 S ((b + 1 : Nat) : Int) (Blk.sect b k d) := by
  unfold lay
  show Slot.put1 S (0 + 1 + (b : Int)) (Blk.bytesB (b : Int) (k : Int) d) = _
  rw [idx, Blk.bytesB_good b k d (blk_good hb h1 h2 hd)]
/-- opened, it is done -/
theorem Mid.open_ (m : Mid S n N h b d) : openE S 0 n = 0 ∧ Calm (openS S 0 n) n (N + 1) (DS.upd h b d) := by
  have hN := m.N40
  have hn := m.n64
  have hb := m.bn
  have hr := room_ok m.q.out m.sn (by omega) hn
  obtain ⟨h1, h2⟩ := m.entry
  unfold openE openS mended
  rw [if_pos hr, if_pos hr, Int.toNat_natCast]
  by_cases hx : S.firm (b + 1) = Blk.sect b (N + 1) d
  · rw [m.heals_no hx]
    exact ⟨rfl, m.done hx⟩
  · rw [m.heals_yes hx, if_pos rfl, h2, lay_sect S (by omega) (by omega) (by omega) m.d32]
    have e := Slot.put1_calm S m.q.out m.q.left (b + 1) (by rw [m.sn]; omega) _ (Blk.sect_length b (N + 1) d m.d32)
    rw [e]
    refine ⟨rfl, Mid.done (N := N) (h := h) ⟨⟨rfl, rfl, rfl⟩, m.sn, m.n64, m.N40, m.bn, m.d32, ?_, m.dl, fun i hi hne => ?_, ?_, .inl ?_⟩ ?_⟩
    · show DS.upd S.last (b + 1) (Blk.sect b (N + 1) d) 0 = Jn.sect b (N + 1) d
      rw [m.q.last, ← m.j]
      simp [DS.upd]
    · obtain ⟨k, g1, g2, g3⟩ := m.blk i hi hne
      refine ⟨k, g1, g2, ?_⟩
      show DS.upd S.last (b + 1) _ (i + 1) = _
      rw [m.q.last, ← g3]
      simp [DS.upd, hne]
    · show (DS.upd S.last (b + 1) _ (b + 1)).length = 64
      simpa [DS.upd] using Blk.sect_length b (N + 1) d m.d32
    · show DS.upd S.last (b + 1) _ (b + 1) = _
      simp [DS.upd]
    · show DS.upd S.last (b + 1) _ (b + 1) = _
      simp [DS.upd]
/-- mixed once more, it is as it was -/
theorem Mid.mix (m : Mid S n N h b d) {T : DS} (hq : T.Quiet) (hn : T.n = S.n) (x : List UInt8) (hx : Slot.Mix (Blk.sect b (N + 1) d) (S.firm (b + 1)) x) (hf : T.firm = DS.upd S.firm (b + 1) x) : Mid T n N h b d := by
  have hl := Blk.sect_length b (N + 1) d m.d32
  have fb : T.firm (b + 1) = x := by rw [hf]; simp [DS.upd]
  refine ⟨hq, by rw [hn]; exact m.sn, m.n64, m.N40, m.bn, m.d32, by rw [hf, ← m.j]; simp [DS.upd], m.dl, fun i hi hne => ?_, ?_, ?_⟩
  · obtain ⟨k, g1, g2, g3⟩ := m.blk i hi hne
    exact ⟨k, g1, g2, by rw [hf, ← g3]; simp [DS.upd, hne]⟩
  · rw [fb]
    rcases hx with rfl | rfl | rfl
    · exact m.xl
    · exact hl
    · exact Blk.torn_length _ _ hl m.xl
  · rw [fb]
    rcases hx with rfl | rfl | rfl
    · exact m.x
    · exact .inl rfl
    · rcases m.x with e | e
      · refine .inl ?_
        rw [e]
        exact List.take_append_drop 32 _
      · refine .inr ?_
        show Blk.again (Blk.torn _ _) ≤ N
        rw [Blk.torn_again _ _ hl]
        exact e
theorem crash_quiet (T : DS) (keeps : List Bool) (tear : Int) : (T.crash keeps tear).Quiet := ⟨rfl, rfl, rfl⟩
theorem crash_still {T : DS} (hl : T.loose = fun _ => none) (keeps : List Bool) (tear : Int) : (T.crash keeps tear).firm = T.firm := by
  funext j
  show DS.crashed T keeps tear j = _
  rcases Slot.crashed_cases T keeps tear j with c | ⟨l, c, _⟩
  · exact c
  · rw [hl] at c
    cases c
/-- an Open that may stop, and a crash: as it was -/
theorem Mid.stop (m : Mid S n N h b d) (f : Nat) (keeps : List Bool) (tear : Int) : (openE { S with left := some f } 0 n = 0 ∨ openE { S with left := some f } 0 n = 10) ∧ Mid ((openS { S with left := some f } 0 n).crash keeps tear) n N h b d := by
  have hN := m.N40
  have hn := m.n64
  have hb := m.bn
  have hr : room { S with left := some f } 0 n = 0 := room_ok (S := { S with left := some f }) m.q.out m.sn (by omega) hn
  obtain ⟨h1, h2⟩ := m.entry
  unfold openE openS mended
  rw [if_pos hr, if_pos hr, Int.toNat_natCast, show heals { S with left := some f } 0 n = heals S 0 n from rfl, show Jn.lastV { S with left := some f } 0 = Jn.lastV S 0 from rfl]
  have self : DS.upd S.firm (b + 1) (S.firm (b + 1)) = S.firm := by funext j; unfold DS.upd; split <;> simp [*]
  by_cases hx : S.firm (b + 1) = Blk.sect b (N + 1) d
  · rw [m.heals_no hx]
    exact ⟨.inl rfl, m.mix (crash_quiet _ _ _) rfl (S.firm (b + 1)) (.inl rfl) (by rw [self]; exact crash_still (T := { S with left := some f }) m.q.loose keeps tear)⟩
  · rw [m.heals_yes hx, if_pos rfl, h2, lay_sect _ (by omega) (by omega) (by omega) m.d32]
    obtain ⟨T, e, hT, h3, h4⟩ := put1_mix { S with left := some f } m.q.out m.q.loose (b + 1) (by show b + 1 < S.n; rw [m.sn]; omega) _ (Blk.sect_length b (N + 1) d m.d32)
    rw [hT]
    rcases h4 with ⟨rfl, _, g2, g3, _⟩ | ⟨rfl, _, g⟩
    · exact ⟨.inl rfl, m.mix (crash_quiet _ _ _) h3 (Blk.sect b (N + 1) d) (.inr (.inl rfl)) ((crash_still g2 keeps tear).trans g3)⟩
    · obtain ⟨x, hx, hf⟩ := g keeps tear
      exact ⟨.inr rfl, m.mix (crash_quiet _ _ _) h3 x hx hf⟩
theorem Calm.stop_open (c : Calm S n N h) (f : Nat) (keeps : List Bool) (tear : Int) : openE { S with left := some f } 0 n = 0 ∧ Calm ((openS { S with left := some f } 0 n).crash keeps tear) n N h := by
  have hr : room { S with left := some f } 0 n = 0 := room_ok (S := { S with left := some f }) c.q.out c.sn c.n1 c.n64
  unfold openE openS mended
  rw [if_pos hr, if_pos hr, Int.toNat_natCast, show heals { S with left := some f } 0 n = heals S 0 n from rfl, c.heals_no]
  exact ⟨rfl, c.same (crash_quiet _ _ _) rfl (crash_still (T := { S with left := some f }) c.q.loose keeps tear)⟩
theorem putD_in {S : DS} (ho : S.out = false) (hb : b < n) (hd : d.length = 32) (hN : N < 1099511627776) (p : Nat) :
    putD S ⟨p, n, N, false⟩ b d = (if (Jn.write S p ⟨b, ((N + 1 : Nat) : Int), d⟩).2 = 0 then lay (Jn.write S p ⟨b, ((N + 1 : Nat) : Int), d⟩).1 p ⟨b, ((N + 1 : Nat) : Int), d⟩ else Jn.write S p ⟨b, ((N + 1 : Nat) : Int), d⟩) := by
  unfold putD
  rw [if_neg (by simp [out, ho]), if_neg (show ¬ ((b : Int) < 0 ∨ (n : Int) ≤ b) by omega), if_neg (by simp [hd]), if_neg (show ¬ (1099511627776 ≤ N) by omega)]
theorem write_sect (S : DS) (hb : b < 64) (hd : d.length = 32) (hN : N < 1099511627776) : Jn.write S 0 ⟨b, ((N + 1 : Nat) : Int), d⟩ = Slot.put1 S ((0 : Nat) : Int) (Jn.sect b (N + 1) d) := by
  have hm := may_good (b := b) (k := N + 1) (d := d) hb (by omega) (by omega) hd
  unfold Jn.write
  rw [if_pos hm, Jn.bytesB_yes hm]
  rfl
/-- a Put that does not stop -/
theorem Calm.put (c : Calm S n N h) (hb : b < n) (hd : d.length = 32) (hN : N < 1099511627776) :
    ∃ T, putD S ⟨0, n, N, false⟩ b d = (T, 0) ∧ Calm T n (N + 1) (DS.upd h b d) ∧ T.ops = S.ops + 4 ∧ putS S ⟨0, n, N, false⟩ b d = ⟨0, n, N + 1, false⟩ ∧ T.firm 0 = Jn.sect b (N + 1) d := by
  have hn := c.n64
  have hlj := Jn.sect_length b (N + 1) d hd
  have hlb := Blk.sect_length b (N + 1) d hd
  have e0 := putD_in (N := N) (p := 0) c.q.out hb hd hN
  rw [show (((0 : Nat) : Int)) = 0 from rfl, write_sect S (by omega) hd hN] at e0
  have e1 := Slot.put1_calm S c.q.out c.q.left 0 (by rw [c.sn]; omega) _ hlj
  rw [e1, if_pos rfl, lay_sect _ (by omega) (by omega) (by omega) hd] at e0
  have e2 := Slot.put1_calm ⟨S.n, DS.upd S.last 0 (Jn.sect b (N + 1) d), fun _ => none, S.ops + 2, none, false⟩ rfl rfl (b + 1) (by show b + 1 < S.n; rw [c.sn]; omega) _ hlb
  rw [e2] at e0
  have hx : Slot.Mix (Blk.sect b (N + 1) d) (S.firm (b + 1)) (Blk.sect b (N + 1) d) := .inr (.inl rfl)
  refine ⟨_, e0, ?_, rfl, ?_, ?_⟩
  · refine Mid.done (N := N) (h := h) (c.mid hb hd hN ⟨rfl, rfl, rfl⟩ rfl _ hx ?_) ?_
    rotate_left
    · show DS.upd _ (b + 1) _ (b + 1) = _
      simp [DS.upd]
    show DS.upd (DS.last ⟨S.n, DS.upd S.last 0 (Jn.sect b (N + 1) d), fun _ => none, S.ops + 2, none, false⟩) (b + 1) _ = _
    rw [DS.Quiet.last ⟨rfl, rfl, rfl⟩]
    show DS.upd (DS.upd S.last 0 _) (b + 1) _ = _
    rw [c.q.last]
  · unfold putS
    rw [if_neg (by simp [out, c.q.out]), if_neg (show ¬ ((b : Int) < 0 ∨ (n : Int) ≤ b) by omega), if_neg (by simp [hd]), if_neg (show ¬ (1099511627776 ≤ N) by omega), e0, show (((0 : Nat) : Int)) = 0 from rfl, write_sect S (by omega) hd hN, e1]
    rfl
  · show DS.upd (DS.last ⟨S.n, DS.upd S.last 0 (Jn.sect b (N + 1) d), fun _ => none, S.ops + 2, none, false⟩) (b + 1) (Blk.sect b (N + 1) d) 0 = _
    rw [DS.Quiet.last ⟨rfl, rfl, rfl⟩]
    simp [DS.upd]
/-- a Put that may stop, and a crash -/
theorem Calm.put_stop (c : Calm S n N h) (hb : b < n) (hd : d.length = 32) (hN : N < 1099511627776) (f : Nat) (keeps : List Bool) (tear : Int) :
    ∃ T e, putD { S with left := some f } ⟨0, n, N, false⟩ b d = (T, e) ∧ ((e = 0 ∧ Calm (T.crash keeps tear) n (N + 1) (DS.upd h b d)) ∨ (e = 10 ∧ (Calm (T.crash keeps tear) n N h ∨ Mid (T.crash keeps tear) n N h b d))) := by
  have hn := c.n64
  have hlj := Jn.sect_length b (N + 1) d hd
  have hlb := Blk.sect_length b (N + 1) d hd
  have e0 := putD_in (S := { S with left := some f }) (N := N) (p := 0) c.q.out hb hd hN
  rw [show (((0 : Nat) : Int)) = 0 from rfl, write_sect _ (by omega) hd hN] at e0
  have self : ∀ (g : Nat → List UInt8) p, DS.upd g p (g p) = g := fun g p => by funext j; unfold DS.upd; split <;> simp [*]
  obtain ⟨T, e, hT, h3, h4⟩ := put1_mix { S with left := some f } c.q.out c.q.loose 0 (by show 0 < S.n; rw [c.sn]; omega) _ hlj
  rw [hT] at e0
  rcases h4 with ⟨rfl, g1, g2, g3, _⟩ | ⟨rfl, _, g⟩
  · rw [if_pos rfl, lay_sect _ (by omega) (by omega) (by omega) hd] at e0
    obtain ⟨U, e, hU, k3, k4⟩ := put1_mix T g1 g2 (b + 1) (by rw [h3]; show b + 1 < S.n; rw [c.sn]; omega) _ hlb
    rw [hU] at e0
    have hTb : T.firm (b + 1) = S.firm (b + 1) := by rw [g3]; simp [DS.upd]
    rcases k4 with ⟨rfl, l1, l2, l3, _⟩ | ⟨rfl, _, l⟩
    · refine ⟨U, 0, e0, .inl ⟨rfl, (c.mid hb hd hN (crash_quiet U keeps tear) (k3.trans h3) _ (.inr (.inl rfl)) ?_).done ?_⟩⟩
      · rw [crash_still l2, l3, g3]
      · rw [crash_still l2, l3]
        simp [DS.upd]
    · obtain ⟨x, hx, hf⟩ := l keeps tear
      rw [hTb] at hx
      refine ⟨U, 10, e0, .inr ⟨rfl, .inr (c.mid hb hd hN (crash_quiet U keeps tear) (k3.trans h3) x hx ?_)⟩⟩
      rw [hf, g3]
  · rw [if_neg (show ¬ ((10 : Int) = 0) by decide)] at e0
    obtain ⟨x, hx, hf⟩ := g keeps tear
    refine ⟨T, 10, e0, .inr ⟨rfl, ?_⟩⟩
    have hf : (T.crash keeps tear).firm = DS.upd S.firm 0 x := hf
    rcases hx with rfl | rfl | rfl
    · exact .inl (c.same (crash_quiet T keeps tear) h3 (by rw [hf]; exact self S.firm 0))
    · refine .inr (c.mid hb hd hN (crash_quiet T keeps tear) h3 (S.firm (b + 1)) (.inl rfl) ?_)
      rw [hf]
      have := self (DS.upd S.firm 0 (Jn.sect b (N + 1) d)) (b + 1)
      rw [show DS.upd S.firm 0 (Jn.sect b (N + 1) d) (b + 1) = S.firm (b + 1) by simp [DS.upd]] at this
      exact this.symm
    · exact .inl (c.torn hd hN (crash_quiet T keeps tear) h3 hf)
theorem Calm.get (c : Calm S n N h) {i : Nat} (hi : i < n) : getE S ⟨0, n, N, false⟩ i = 0 ∧ getB S ⟨0, n, N, false⟩ i = h i := by
  obtain ⟨h1, _, h3⟩ := c.block hi
  unfold getE getB
  rw [if_neg (by simp [out, c.q.out]), if_neg (show ¬ ((i : Int) < 0 ∨ (n : Int) ≤ i) by omega), if_neg (by simp [out, c.q.out]), if_neg (show ¬ ((i : Int) < 0 ∨ (n : Int) ≤ i) by omega)]
  exact ⟨h1, h3⟩
theorem write_in {S : DS} (ho : S.out = false) (hl : S.left = none) {p : Nat} (hp : p < S.n) {l : List UInt8} (hb : l.length = 64) : S.write p l = ({ S with loose := DS.upd S.loose p (some l), ops := S.ops + 1 }, 0) := by
  have ht : S.there (p : Int) = true := by rw [S.there_iff]; omega
  unfold DS.write DS.chg
  simp [ho, ht, hb, hl]
theorem zeros_length : zeros.length = 32 := by decide
theorem fill_fresh (n : Nat) (hn : n ≤ 64) (k : Nat) (hk : k ≤ n) : ∃ L, fill (DS.fresh (n + 1)) 0 k = (⟨n + 1, fun _ => Slot.nots, L, k + 1, none, false⟩, 0) ∧ L 0 = some Slot.nots ∧ ∀ i, i < k → L (i + 1) = some (Blk.sect i 1 zeros) := by
  induction k with
  | zero =>
    have e := write_in (S := DS.fresh (n + 1)) (p := 0) (l := Slot.nots) rfl rfl (by show 0 < n + 1; omega) (by decide)
    exact ⟨_, e, by simp [DS.upd], fun i hi => by omega⟩
  | succ k ih =>
    obtain ⟨L, h1, h2, h3⟩ := ih (by omega)
    have hg := blk_good (i := k) (k := 1) (d := zeros) (by omega) (by omega) (by omega) zeros_length
    have e := write_in (S := ⟨n + 1, fun _ => Slot.nots, L, k + 1, none, false⟩) (p := k + 1) (l := Blk.sect k 1 zeros) rfl rfl (by show k + 1 < n + 1; omega) (Blk.sect_length k 1 zeros zeros_length)
    refine ⟨DS.upd L (k + 1) (some (Blk.sect k 1 zeros)), ?_, ?_, ?_⟩
    · unfold fill
      rw [h1, if_pos rfl, idx, show Blk.bytesB (k : Int) 1 zeros = Blk.sect k 1 zeros from Blk.bytesB_good k 1 zeros hg]
      exact e
    · simp [DS.upd, h2]
    · intro i hi
      by_cases hik : i = k
      · subst hik; simp [DS.upd]
      · simp [DS.upd, hik, h3 i (by omega)]
/-- made on a fresh disk: noughts everywhere, the number 1 -/
theorem make_fresh (n : Nat) (h1 : 1 ≤ n) (hn : n ≤ 64) : ∃ T, make (DS.fresh (n + 1)) 0 n = (T, 0) ∧ Calm T n 1 (fun _ => zeros) ∧ T.ops = n + 2 ∧ T.firm 0 = Slot.nots := by
  have hr : room (DS.fresh (n + 1)) 0 n = 0 := room_ok rfl rfl h1 hn
  obtain ⟨L, e, e0, ei⟩ := fill_fresh n hn n (Nat.le_refl _)
  have hf : make (DS.fresh (n + 1)) 0 n = (DS.settle ⟨n + 1, fun _ => Slot.nots, L, n + 2, none, false⟩, 0) := by
    unfold make
    rw [if_pos hr, Int.toNat_natCast, e, if_pos rfl]
    rfl
  have f0 : (DS.settle ⟨n + 1, fun _ => Slot.nots, L, n + 2, none, false⟩).firm 0 = Slot.nots := by
    show (L 0).getD _ = _
    rw [e0]; rfl
  have fi : ∀ i, i < n → (DS.settle ⟨n + 1, fun _ => Slot.nots, L, n + 2, none, false⟩).firm (i + 1) = Blk.sect i 1 zeros := fun i hi => by
    show (L (i + 1)).getD _ = _
    rw [ei i hi]; rfl
  refine ⟨_, hf, ⟨⟨rfl, rfl, rfl⟩, rfl, h1, hn, by omega, by rw [f0]; decide, by rw [f0, Jn.again_nots]; omega, fun _ _ => zeros_length, fun i hi => ⟨1, Nat.le_refl _, Nat.le_refl _, fi i hi⟩, ⟨0, by omega, fi 0 (by omega)⟩, fun hr => ?_⟩, rfl, f0⟩
  rw [f0, Jn.right_nots] at hr
  cases hr
end
end St
end Go.Proofs.YtlchpolheciadaaDoor
