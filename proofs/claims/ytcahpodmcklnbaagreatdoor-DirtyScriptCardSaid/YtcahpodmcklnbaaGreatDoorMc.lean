/-
  Several texts in one (MirCrM, MirCrash). Conditions: as each says.
-/
import Derived.Test.YtcahpodmcklnbaaGreatDoorMirCrashM
import Derived.Test.YtcahpodmcklnbaaGreatDoorMi
import Derived.Deep.RegionHeld3
/-
  The document's own disk (tandemref04): Crash. Conditions: none.
-/
namespace Go.Proofs.YtcahpodmcklnbaaGreatDoor
open Go.RowKit

namespace DS
/-- the first i loose sectors are crashed -/
def crM (S : DS) (keeps : List Bool) (tear : Int) (i : Nat) : DS :=
  { S with firm := fun s => if S.stays keeps s = true ∧ (S.looseBelow s).length < i then S.crashed keeps tear s else S.firm s, loose := fun s => if S.isLoose s = true ∧ (S.looseBelow s).length < i then none else S.loose s }
/-- how many of the first i loose ones stay -/
def nKept (S : DS) (keeps : List Bool) (i : Nat) : Nat := (((S.looseBelow S.n).take i).filter (S.stays keeps)).length
theorem crM_zero (S : DS) (keeps : List Bool) (tear : Int) : S.crM keeps tear 0 = S := by
  unfold crM
  simp
theorem stays_isLoose {S : DS} {keeps : List Bool} {s : Nat} (h : S.stays keeps s = true) : S.isLoose s = true := by
  unfold stays at h
  rw [Bool.and_eq_true] at h
  exact h.1
theorem looseBelow_lt (S : DS) {t t' : Nat} (h : t < t') (hs : S.isLoose t = true) : (S.looseBelow t).length < (S.looseBelow t').length := by
  have := S.looseBelow_mono (show t + 1 ≤ t' from h)
  rw [looseBelow_snoc, if_pos hs, List.length_append] at this
  simp at this
  omega
theorem looseBelow_inj (S : DS) {s t i : Nat} (hs : S.isLoose s = true) (ht : S.isLoose t = true) (hi : (S.looseBelow s).length = i) (hi2 : (S.looseBelow t).length = i) : s = t := by
  rcases Nat.lt_trichotomy s t with h | h | h
  · have := S.looseBelow_lt h hs; omega
  · exact h
  · have := S.looseBelow_lt h ht; omega
theorem crM_step (S : DS) (keeps : List Bool) (tear : Int) {i s : Nat} (hs : S.isLoose s = true) (hi : (S.looseBelow s).length = i) :
    S.crM keeps tear (i + 1) = { S.crM keeps tear i with firm := if S.stays keeps s = true then upd (S.crM keeps tear i).firm s (S.crashed keeps tear s) else (S.crM keeps tear i).firm, loose := upd (S.crM keeps tear i).loose s none } := by
  have key : ∀ t, S.isLoose t = true → t ≠ s → ((S.looseBelow t).length < i + 1 ↔ (S.looseBelow t).length < i) := fun t ht hne => by
    have : (S.looseBelow t).length ≠ i := fun e => hne (S.looseBelow_inj ht hs e hi)
    omega
  have e1 : (fun t => if S.stays keeps t = true ∧ (S.looseBelow t).length < i + 1 then S.crashed keeps tear t else S.firm t) = (if S.stays keeps s = true then upd (S.crM keeps tear i).firm s (S.crashed keeps tear s) else (S.crM keeps tear i).firm) := by
    funext t
    by_cases hst : S.stays keeps s = true
    · rw [if_pos hst]
      unfold upd
      by_cases e : t = s
      · subst e; rw [if_pos ⟨hst, by omega⟩, if_pos rfl]
      · rw [if_neg e]
        show _ = if S.stays keeps t = true ∧ (S.looseBelow t).length < i then S.crashed keeps tear t else S.firm t
        by_cases ht : S.stays keeps t = true
        · simp only [ht, true_and, key t (stays_isLoose ht) e]
        · rw [if_neg (fun h => ht h.1), if_neg (fun h => ht h.1)]
    · rw [if_neg hst]
      show _ = if S.stays keeps t = true ∧ (S.looseBelow t).length < i then S.crashed keeps tear t else S.firm t
      by_cases ht : S.stays keeps t = true
      · simp only [ht, true_and, key t (stays_isLoose ht) (fun e => hst (e ▸ ht))]
      · rw [if_neg (fun h => ht h.1), if_neg (fun h => ht h.1)]
  have e2 : (fun t => if S.isLoose t = true ∧ (S.looseBelow t).length < i + 1 then none else S.loose t) = upd (S.crM keeps tear i).loose s none := by
    funext t
    unfold upd
    by_cases e : t = s
    · subst e; rw [if_pos ⟨hs, by omega⟩, if_pos rfl]
    · rw [if_neg e]
      show _ = if S.isLoose t = true ∧ (S.looseBelow t).length < i then none else S.loose t
      by_cases ht : S.isLoose t = true
      · simp only [ht, true_and, key t ht e]
      · rw [if_neg (fun h => ht h.1), if_neg (fun h => ht h.1)]
  show ({ S with firm := _, loose := _ } : DS) = _
  rw [e1, e2]
  rfl
theorem crM_firm (S : DS) (keeps : List Bool) (tear : Int) {i s : Nat} (hi : (S.looseBelow s).length = i) : (S.crM keeps tear i).firm s = S.firm s := by
  show (if S.stays keeps s = true ∧ (S.looseBelow s).length < i then S.crashed keeps tear s else S.firm s) = _
  rw [if_neg (fun h => by have := h.2; omega)]
theorem crM_loose (S : DS) (keeps : List Bool) (tear : Int) {i s : Nat} (hi : (S.looseBelow s).length = i) : (S.crM keeps tear i).loose s = S.loose s := by
  show (if S.isLoose s = true ∧ (S.looseBelow s).length < i then none else S.loose s) = _
  rw [if_neg (fun h => by have := h.2; omega)]
theorem crM_all (S : DS) (keeps : List Bool) (tear : Int) (h : S.Ok) : { S.crM keeps tear (S.looseBelow S.n).length with left := none, out := false } = S.crash keeps tear := by
  have hl : ∀ t, S.isLoose t = true → (S.looseBelow t).length < (S.looseBelow S.n).length := fun t ht => by
    obtain ⟨l, hl⟩ := Option.isSome_iff_exists.1 ht
    exact S.looseBelow_lt (h.loose t l hl).1 ht
  have e1 : (S.crM keeps tear (S.looseBelow S.n).length).firm = S.crashed keeps tear := by
    funext t
    show (if S.stays keeps t = true ∧ (S.looseBelow t).length < (S.looseBelow S.n).length then S.crashed keeps tear t else S.firm t) = _
    by_cases ht : S.stays keeps t = true
    · rw [if_pos ⟨ht, hl t (stays_isLoose ht)⟩]
    · rw [if_neg (fun h => ht h.1)]
      exact (crashed_not (by simpa using ht)).symm
  have e2 : (S.crM keeps tear (S.looseBelow S.n).length).loose = fun _ => none := by
    funext t
    show (if S.isLoose t = true ∧ (S.looseBelow t).length < (S.looseBelow S.n).length then none else S.loose t) = _
    by_cases ht : S.isLoose t = true
    · rw [if_pos ⟨ht, hl t ht⟩]
    · rw [if_neg (fun h => ht h.1)]
      exact isLoose_none (by simpa using ht)
  dsimp only
  rw [e1, e2]
  rfl
theorem looseBelow_take (S : DS) {s : Nat} (h : s ≤ S.n) : (S.looseBelow S.n).take (S.looseBelow s).length = S.looseBelow s := by
  have e : S.looseBelow S.n = S.looseBelow s ++ ((List.range (S.n - s)).map (s + ·)).filter S.isLoose := by
    unfold looseBelow
    rw [← List.filter_append, ← List.range_add, Nat.add_sub_cancel' h]
  rw [e, List.take_left']
  rfl
/-- how many stay below the i-th loose one -/
theorem nKept_at (S : DS) (keeps : List Bool) {i s : Nat} (h : (S.looseBelow S.n)[i]? = some s) : S.nKept keeps i = (S.stayBelow keeps s).length := by
  obtain ⟨h1, _, h3⟩ := S.looseBelow_at _ _ _ h
  unfold nKept
  rw [← h3, S.looseBelow_take (Nat.le_of_lt h1)]
  unfold looseBelow stayBelow
  rw [List.filter_filter]
  congr 2
  funext t
  unfold stays
  cases S.isLoose t <;> simp
theorem nKept_succ (S : DS) (keeps : List Bool) {i s : Nat} (h : (S.looseBelow S.n)[i]? = some s) : S.nKept keeps (i + 1) = S.nKept keeps i + (if S.stays keeps s = true then 1 else 0) := by
  unfold nKept
  rw [List.take_add_one, h, List.filter_append, List.length_append]
  congr 1
  by_cases hs : S.stays keeps s = true
  · rw [if_pos hs]; simp [hs]
  · rw [if_neg hs]; simp [hs]
theorem nKept_le (S : DS) (keeps : List Bool) (i : Nat) : S.nKept keeps i ≤ S.n := by
  unfold nKept looseBelow
  refine Nat.le_trans (List.length_filter_le _ _) (Nat.le_trans (List.length_take_le' _ _) (Nat.le_trans (List.length_filter_le _ _) ?_))
  simp
theorem looseBelow_len (S : DS) : (S.looseBelow S.n).length ≤ S.n := by
  unfold looseBelow
  exact Nat.le_trans (List.length_filter_le _ _) (by simp)
/-- does the i-th loose one stay -/
theorem stays_nth (S : DS) (keeps : List Bool) {i s : Nat} (h : (S.looseBelow S.n)[i]? = some s) : S.stays keeps s = (keeps[i]?).getD false := by
  obtain ⟨_, h2, h3⟩ := S.looseBelow_at _ _ _ h
  unfold stays
  rw [h2, h3, Bool.true_and]
theorem looseList_nth (S : DS) {i s : Nat} (h : (S.looseBelow S.n)[i]? = some s) : (iv S.looseList)[i]? = some (.int .i64 (s : Int)) := by
  unfold iv looseList
  simp [h]
end DS
end Go.Proofs.YtcahpodmcklnbaaGreatDoor
/-
  The document's own disk (tandemref04): Crash, the walk. Conditions: none.
-/
namespace Go.Proofs.YtcahpodmcklnbaaGreatDoor
open Go.RowKit

def mNat : Value → Nat
  | .int _ q => q.toNat
  | _ => 0
def MirPost0 (S : DS) (b : Nat) (F : Nat → Prop) (w : World) (e : Ending) (w' : World) : Prop :=
  ∃ F', e = .returned (.tuple #[]) ∧ Mir w' b F' S ∧ (∀ k, F' k → F k ∨ w.heap.size ≤ k) ∧ Frame F w w'
set_option maxRecDepth 100000 in
theorem mCrash (w : World) (b : Nat) (F : Nat → Prop) (S : DS) (AK : Option Addr) (keeps : List Bool) (nk ck : Nat) (tear : Int) (h : Mir w b F S) (hk : RowAt w w.heap.size AK (keeps.map Value.bool)) (hnk : keeps.length = nk) (hA : keeps.map Value.bool ≠ [] → ∀ ad, AK = some ad → ¬ F ad.block) :
    Calls Tryz.prog 38 #[.pointer (some ⟨b, 0, none⟩), .slice AK nk ck, .int .i64 tear] w (MirPost0 (S.crash keeps tear) b F w) := by
  have zl := mLoose w b F S h
  have hM := Lib.hid h
  obtain ⟨N, hN⟩ : ∃ N, N = S.looseList.length := ⟨_, rfl⟩
  have hN2 : N = (S.looseBelow S.n).length := by rw [hN]; unfold DS.looseList; rw [List.length_map]
  have hN3 : N ≤ 1024 := by have := S.looseBelow_len; have := h.ok.n2; omega
  rw [← hN] at zl
  have HN := Lib.hid hN2
  have HK := Lib.hid (And.intro hk (And.intro hnk hA))
  clear h hN hN2 hk hnk hA
  go_enter Tryz.func38, Tryz.ntmps38
  go_wp2_with (go_at_call 71; refine zl.mono ?_; (rintro e w1 ⟨A, c1, rfl, hc1, ho1, hB1⟩; have ho1 := Lib.hid ho1; have hB1 := Lib.hid hB1))
  clear zl
  obtain ⟨g0, g1, d0, d1, us, vs, hL0⟩ := hM.out
  have hL1 := Lib.hid (hL0.step hB1.out)
  have hlt0 := Lib.hid hL0.lt
  have hok := Lib.hid hL0.ok
  clear hL0
  go_loopw [7, 8] (fun kv ix wr => ∃ i F1 ps qs, i ≤ N ∧ ix = .int .i64 ((i : Nat) : Int) ∧ kv = .int .i64 ((S.nKept keeps i : Nat) : Int) ∧ MirL wr b F1 (S.crM keeps tear i) g0 g1 d0 d1 ps qs ∧ (∀ j, F j → F1 j) ∧ (∀ j, F1 j → F j ∨ w1.heap.size ≤ j) ∧ Frame F w1 wr) (fun _ ix _ => N - mNat ix)
  case atStart => exact ⟨0, F, us, vs, Nat.zero_le _, rfl, rfl, by rw [DS.crM_zero]; exact hL1.out, fun j hj => hj, fun j hj => .inl hj, Frame.refl _ _⟩
  case round =>
    obtain ⟨i, F1, ps, qs, hi, rfl, rfl, hm, hF1, hF2, hFr⟩ := hrel
    by_cases hlt : i < N
    · obtain ⟨s, hs⟩ : ∃ s, (S.looseBelow S.n)[i]? = some s := ⟨_, List.getElem?_eq_getElem (by rw [← HN.out]; exact hlt)⟩
      have hx := S.looseList_nth hs
      have hpos : 0 < (iv S.looseList).length := by
        have := (List.getElem?_eq_some_iff.1 hx).1
        omega
      obtain ⟨gl, rfl, hgl1, hgl2, hNl⟩ := ho1.out.at_g hpos
      have hcell : wr.cell? ⟨gl, i, none⟩ = some (.int .i64 (s : Int)) := (World.cell?_of_block (w := w1) (a := ⟨gl, i, none⟩) (hFr.block gl hgl2 (fun hf => by have := hlt0.out gl hf; omega))).trans (ho1.out.cell hx)
      obtain ⟨hsn, hlo, hsi⟩ := S.looseBelow_at _ _ _ hs
      obtain ⟨l, hl⟩ := Option.isSome_iff_exists.1 hlo
      have hl64 := (hok.out.loose s l hl).2
      have hlm : (S.crM keeps tear i).loose s = some l := (S.crM_loose keeps tear hsi).trans hl
      have hfm := S.crM_firm keeps tear hsi
      obtain ⟨v, hv, hrow⟩ := hm.ls s l hlm
      obtain ⟨u, hu, hrowf⟩ := hm.fr s hsn
      rw [hfm] at hrowf
      have hstep := S.crM_step keeps tear hlo hsi
      have hsucc := S.nKept_succ keeps hs
      have hst := S.stays_nth keeps hs
      have hnk := S.nKept_at keeps hs
      have hkle := S.nKept_le keeps i
      have hw1 : IntKind.i64.wrap ((i : Int) + 1) = (i : Int) + 1 := IntWalk.i64_in _ (by omega)
      obtain ⟨k, hkd⟩ : ∃ k, k = S.nKept keeps i := ⟨_, rfl⟩
      rw [← hkd] at hsucc hnk hkle ⊢
      have hw2 : IntKind.i64.wrap ((k : Int) + 1) = (k : Int) + 1 := IntWalk.i64_in _ (by have := hok.out.n2; omega)
      have y0 := hm.cell0
      have y1 := hm.cell1
      change wr.cell? ⟨b, 0, none⟩ = some (.slice (some ⟨g0, 0, none⟩) S.n d0) at y0
      change wr.cell? ⟨b, 1, none⟩ = some (.slice (some ⟨g1, 0, none⟩) S.n d1) at y1
      obtain ⟨n, hn⟩ : ∃ n, n = S.n := ⟨_, rfl⟩
      rw [← hn] at y0 y1
      have hin : (s : Int) < (n : Int) := by omega
      have hn' := Lib.hid hn
      clear hn hkd hgl1 hgl2 hx hpos hs hNl
      have hz := hm.last.cell hv
      have hzf := hm.firm.cell hu
      have f0 := hm.firm.frozen s
      have f1 := hm.last.frozen s
      by_cases hk : i < nk
      · obtain ⟨kb, hkb⟩ : ∃ kb, keeps[i]? = some kb := ⟨_, List.getElem?_eq_getElem (by rw [HK.out.2.1]; exact hk)⟩
        obtain ⟨ad2, hA2, hb2, hc2⟩ := HK.out.1.at_ (k := i) (u := .bool kb) (by rw [List.getElem?_map, hkb]; rfl)
        have hnF := HK.out.2.2 (by intro e; rw [List.map_eq_nil_iff] at e; subst e; simp at hkb) ad2 hA2
        subst hA2
        have hcell2 : wr.cell? (ad2.add i) = some (.bool kb) := by
          have e1 : w1.cell? (ad2.add i) = some (.bool kb) := (hB1.out.cell (p := ad2.add i) (by rw [block_add]; exact hb2)).trans hc2
          exact (World.cell?_of_block (w := w1) (a := ad2.add i) (by rw [block_add]; exact hFr.block ad2.block (Nat.lt_of_lt_of_le hb2 hB1.out.size) hnF)).trans e1
        rw [hkb, Option.getD_some] at hst
        have hkk : (i : Int) < (nk : Int) := by omega
        clear hkb hb2 hc2 hnF
        cases kb with
        | true =>
          rw [hst, if_pos rfl] at hsucc hstep
          have hFg := Lib.hid (And.intro hL1.out.F0 hL1.out.F1)
          have HF := Lib.hid (And.intro hF1 (And.intro hF2 hFr))
          by_cases ht : (k : Int) = tear
          · have hte : ((k : Int) == tear) = true := by simpa using ht
            have hcr : S.crashed keeps tear s = l.take 32 ++ (S.firm s).drop 32 := by
              unfold DS.crashed DS.last
              rw [if_pos hst, if_pos (by rw [← hnk]; exact ht), hl]
              rfl
            rw [hcr] at hstep
            obtain ⟨g, c, rfl, hgc, _, _, _, hbl⟩ := hrow
            obtain ⟨gf, cf, rfl, hgfc, _, _, _, hbf⟩ := hrowf
            have hf64 := hok.out.firm s hsn
            obtain ⟨ff, hff⟩ : ∃ ff, ff = S.firm s := ⟨_, rfl⟩
            rw [← hff] at hbf hf64 hstep
            have q1 := cut_to (some ⟨g, 0, none⟩) 64 c 32 (by omega)
            have q2 := cut_from (some ⟨gf, 0, none⟩) 64 cf 32 (by omega)
            rw [show ((32 : Nat) : Int) = 32 from rfl] at q1 q2
            have hrf := hbf.drop 32 cf (by omega)
            obtain ⟨AF, hAF⟩ : ∃ AF, AF = cutA (some ⟨gf, 0, none⟩) 32 cf := ⟨_, rfl⟩
            rw [← hAF] at q2 hrf
            have hrl := hbl.take 32
            have cd : Below wr.heap.size wr (wr.drew.alloc (.cells #[] 5)) := (Below.refl _ _).drew.alloc (Nat.le_refl _) _
            have h0b : OwnB (wr.drew.alloc (.cells #[] 5)) wr.heap.size (.slice (some ⟨wr.heap.size, 0, none⟩) 0 0) [] := noBytes wr.drew
            have hrl1 : BytesAt (wr.drew.alloc (.cells #[] 5)) wr.heap.size (some ⟨g, 0, none⟩) (l.take 32) := hrl.below cd
            have hlen1 : (l.take 32).length = 32 := by rw [List.length_take, hl64]; rfl
            have hlen2 : (ff.drop 32).length = 32 := by rw [List.length_drop, hf64]
            have hlen3 : (l.take 32 ++ ff.drop 32).length = 64 := by rw [List.length_append, hlen1, hlen2]
            have ky : ∀ w', Below wr.heap.size wr w' → w'.cell? ⟨b, 0, none⟩ = some (.slice (some ⟨g0, 0, none⟩) n d0) ∧ w'.cell? ⟨g0, s, none⟩ = some (.slice (some ⟨gf, 0, none⟩) 64 cf) := fun w' hB => ⟨(hB.cell (hm.lt b hm.Fb)).trans y0, (hB.cell (hm.lt g0 hm.F0)).trans hzf⟩
            have ky0 := ky _ (Below.refl _ wr).drew
            have ky1 := ky _ cd
            obtain ⟨p1, hp1⟩ : ∃ p1, p1 = l.take 32 := ⟨_, rfl⟩
            obtain ⟨p2, hp2⟩ : ∃ p2, p2 = ff.drop 32 := ⟨_, rfl⟩
            rw [← hp1] at hrl1 hlen1 hlen3 hstep
            rw [← hp2] at hrf hlen2 hlen3 hstep
            have HM := Lib.hid hm
            have HR := Lib.hid (And.intro hstep (And.intro hsucc (And.intro hlen1 (And.intro hlen2 hlen3))))
            have HV := Lib.hid (And.intro hv hu)
            have HS := Lib.hid hsn
            have HKY := Lib.hid ky
            have hrf := Lib.hid hrf
            have c64 : (64 : Int) ≤ (c : Int) := by omega
            have cf64 : (64 : Int) ≤ (cf : Int) := by omega
            clear hm hstep hsucc hF1 hF2 hFr hlm hfm hl hlo hv hu hst hnk ht hcr hp1 hp2 hlen1 hlen2 hlen3 hbl hbf hf64 hff hAF hrl ky hl64
            go_wp2
            go_region_held3 (fun w' => w'.cell? ⟨b, 0, none⟩ = some (.slice (some ⟨g0, 0, none⟩) n d0) ∧ w'.cell? ⟨g0, s, none⟩ = some (.slice (some ⟨gf, 0, none⟩) 64 cf)) (first | assumption | exact HKY.out _ (by assumption)) (first
              | (refine step_appendB rfl (.tmp 43) (.tmp 45) 32 rfl rfl wr.heap.size _ [] rfl h0b (some ⟨g, 0, none⟩) p1 32 c wr.heap.size rfl HR.out.2.2.1 hrl1 (by simp; have := HR.out.2.2.1; omega) (by simp) ?_; (intro v5 w5 ho5 hg5 hat5; rw [List.nil_append] at ho5; have c5 : Below wr.heap.size wr w5 := cd.grown hg5 (by simp) (fun j hj => (h0b.lt j hj).1); have hrf5 := hrf.out.belowN c5 (Nat.le_refl _); have hs5 := c5.size; clear hg5 hat5))
              | (refine step_appendB rfl (.tmp 46) (.tmp 54) 32 rfl rfl wr.heap.size _ p1 rfl ho5 AF p2 32 (cf - 32) wr.heap.size rfl HR.out.2.2.2.1 hrf5 (by have := HR.out.2.2.1; have := HR.out.2.2.2.1; omega) hs5 ?_; (intro v6 w6 ho6 hg6 hat6; have c6 : Below wr.heap.size wr w6 := c5.grown hg6 hs5 (fun j hj => (ho5.lt j hj).1); have hm6 := HM.out.step c6; have hm6m := hm6.mono (G := fun j => F1 j ∨ (wr.heap.size ≤ j ∧ j < w6.heap.size)) (fun j hj => .inl hj) (fun j hj => hj.elim (hm6.lt j) (fun h => h.2)); have hv6 := RowB.of_own (g0 := g0) (g1 := g1) (b := b) (F := fun j => F1 j ∨ (wr.heap.size ≤ j ∧ j < w6.heap.size)) ho6 HR.out.2.2.2.2 (fun j h1 h2 => .inr ⟨h1, h2⟩) (HM.out.lt b HM.out.Fb) (HM.out.lt g0 HM.out.F0) (HM.out.lt g1 HM.out.F1); have hm7 := hm6m.set_firm s HS.out hv6 HR.out.2.2.2.2; have hm8 := hm7.set_nil s HS.out; have z1 := hm7.cell1; change _ = some (Value.slice _ S.n _) at z1; rw [← hn'.out] at z1; have f1' := hm7.last.frozen s; have z2 := hm7.last.cell HV.out.1; obtain ⟨y06, z06⟩ := HKY.out _ c6; have f06 := hm6.firm.frozen s; obtain ⟨A6, c6', rfl, _⟩ := ho6.form; rw [HR.out.2.2.2.2] at hm8 z1 z2 f1'; rw [HR.out.2.2.2.2]; have hm8 := Lib.hid hm8; have c6 := Lib.hid c6; clear hg6 hat6 hm6 hm6m hv6 hm7 ho6)))
            go_wp2
            go_roundw
            case rel =>
              obtain ⟨hF1, hF2, hFr⟩ := HF.out
              refine ⟨i + 1, (fun j => F1 j ∨ (wr.heap.size ≤ j ∧ j < w6.heap.size)), _, _, by omega, by go_num, by rw [HR.out.2.1]; rfl, by rw [HR.out.1]; exact hm8.out, fun j hj => .inl (hF1 j hj), fun j hj => hj.elim (hF2 j) (fun h => .inr (Nat.le_trans hFr.size h.1)), ((hFr.trans (Frame.of_below (F := F) c6.out) (fun j hj => .inl hj)).trans (frame_set w6 g0 s _ hFg.out.1) (fun j hj => .inl hj)).trans (frame_set _ g1 s _ hFg.out.2) (fun j hj => .inl hj)⟩
            case measure => simp [mNat]; omega
          · have hte : ((k : Int) == tear) = false := by simpa using ht
            have hcr : S.crashed keeps tear s = l := by
              unfold DS.crashed DS.last
              rw [if_pos hst, if_neg (by rw [← hnk]; exact ht), hl]
              rfl
            rw [hcr] at hstep
            obtain ⟨g, c, rfl, _⟩ := id hrow
            have hm1 := hm.set_firm s hsn hrow hl64
            have hm2 := hm1.set_nil s hsn
            have z1 := hm1.cell1
            change _ = some (Value.slice _ S.n _) at z1
            rw [← hn'.out] at z1
            have f1' := hm1.last.frozen s
            have z2 := hm1.last.cell hv
            have HR := Lib.hid (And.intro hstep (And.intro hsucc hm2))
            clear hm hm1 hm2 hstep hsucc hF1 hF2 hFr hrow hrowf hlm hfm hl hlo hv hu hst hnk ht hcr
            go_wp2
            go_roundw
            case rel =>
              obtain ⟨hF1, hF2, hFr⟩ := HF.out
              refine ⟨i + 1, F1, _, _, by omega, by go_num, by rw [HR.out.2.1]; rfl, by rw [HR.out.1]; exact HR.out.2.2, hF1, hF2, (hFr.trans (frame_set wr g0 s _ hFg.out.1) (fun j hj => .inl hj)).trans (frame_set _ g1 s _ hFg.out.2) (fun j hj => .inl hj)⟩
            case measure => simp [mNat]; omega
        | false =>
          rw [hst, if_neg (by decide)] at hsucc hstep
          have hnil := hm.set_nil s hsn
          have HR := Lib.hid (And.intro hstep (And.intro hsucc hnil))
          have HF := Lib.hid (And.intro hF1 (And.intro hF2 hFr))
          have hFg1 := Lib.hid hm.F1
          have hFF := Lib.hid hL1.out.F1
          clear hm hstep hsucc hnil hF1 hF2 hFr hrow hrowf hlm hfm hl hlo hv hu hst
          go_wp2
          go_roundw
          case rel =>
            obtain ⟨hF1, hF2, hFr⟩ := HF.out
            refine ⟨i + 1, F1, _, _, by omega, by go_num, by rw [HR.out.2.1]; rfl, by rw [HR.out.1]; exact HR.out.2.2, hF1, hF2, hFr.trans (frame_set wr g1 s _ hFF.out) (fun j hj => .inl hj)⟩
          case measure => simp [mNat]; omega
      · rw [List.getElem?_eq_none (by rw [HK.out.2.1]; omega), Option.getD_none] at hst
        have hkk : ¬ (i : Int) < (nk : Int) := by omega
        rw [hst, if_neg (by decide)] at hsucc hstep
        have hnil := hm.set_nil s hsn
        have HR := Lib.hid (And.intro hstep (And.intro hsucc hnil))
        have HF := Lib.hid (And.intro hF1 (And.intro hF2 hFr))
        have hFg1 := Lib.hid hm.F1
        have hFF := Lib.hid hL1.out.F1
        clear hm hstep hsucc hnil hF1 hF2 hFr hrow hrowf hlm hfm hl hlo hv hu hst
        go_wp2
        go_roundw
        case rel =>
          obtain ⟨hF1, hF2, hFr⟩ := HF.out
          refine ⟨i + 1, F1, _, _, by omega, by go_num, by rw [HR.out.2.1]; rfl, by rw [HR.out.1]; exact HR.out.2.2, hF1, hF2, hFr.trans (frame_set wr g1 s _ hFF.out) (fun j hj => .inl hj)⟩
        case measure => simp [mNat]; omega
    · obtain rfl : i = N := by omega
      have x2 := hm.cell2
      have x3 := hm.cell3
      have f2 := hm.head.frozen 2
      have f3 := hm.head.frozen 3
      have hm := Lib.hid hm
      go_wp2
      go_end0
      have h6 := hm.out.head_set (T := { S.crM keeps tear i with out := false }) 2 (.bool false) ⟨rfl, rfl, rfl⟩ hm.out.left rfl
      have h7 := h6.head_set (T := { S.crM keeps tear i with left := none, out := false }) 3 (.int .i64 (-1)) ⟨rfl, rfl, rfl⟩ (fun k hk => by cases hk) rfl
      rw [show ({ S.crM keeps tear i with left := none, out := false } : DS) = S.crash keeps tear by rw [HN.out]; exact S.crM_all keeps tear hok.out] at h7
      refine ⟨F1, rfl, ⟨g0, g1, d0, d1, ps, qs, h7⟩, fun j hj => (hF2 j hj).imp id (fun h => Nat.le_trans hB1.out.size h), ?_⟩
      have hFb : F b := hL1.out.Fb
      exact (((Frame.of_below (F := F) hB1.out).trans hFr (fun j hj => .inl hj)).trans (frame_set _ b 2 _ hFb) (fun j hj => .inl hj)).trans (frame_set _ b 3 _ hFb) (fun j hj => .inl hj)
end Go.Proofs.YtcahpodmcklnbaaGreatDoor
