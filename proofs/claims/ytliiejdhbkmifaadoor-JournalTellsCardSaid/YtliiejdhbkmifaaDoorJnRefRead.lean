/-
  tandemref08.Read. Conditions: the bytes can be read.
-/
import Derived.Test.YtliiejdhbkmifaaDoorJnRef
namespace Go.Proofs.YtliiejdhbkmifaaDoor
open Go.RowKit Fix

theorem jnNumR (l : List UInt8) (h : l.length = 64) : getN l 0 8 = Jn.num l := by
  unfold getN inN inR Jn.num
  rw [h]
  rfl
theorem jnPlaceR (l : List UInt8) (h : l.length = 64) : getsN l 8 2 = Jn.place l := by
  unfold getsN getN inN inR Jn.place
  rw [h]
  rfl
theorem str_of {W : World} {B : Nat} {A : Option Addr} {l : List UInt8} (h : BytesAt W B A l) (n : Nat) (hn : l.length = n) (c : Nat) :
    (convert 22 9 (.slice A n c)).run Tryd.prog W = .ok (.string ⟨l.toArray⟩) W := by
  subst hn; exact bytes_string h c
def JrrPost (l : List UInt8) (w : World) (en : Ending) (w' : World) : Prop :=
  ∃ A c, en = .returned (.tuple #[.agg (entL (Jn.readV l) A c).toArray, .int .i64 (Jn.readE l)]) ∧ (Jn.readV l).d.length ≤ c ∧ BytesAt w' w'.heap.size A (Jn.readV l).d ∧ (∀ ad, A = some ad → w.heap.size ≤ ad.block) ∧ Below w.heap.size w w'
theorem JrrPost.none_ {l : List UInt8} {x : Int} {w w' : World} (h : Jn.right l = false) (hx : Jn.readE l = x) (hB : Below w.heap.size w w') : JrrPost l w (.returned (.tuple #[.agg entZ.toArray, .int .i64 x])) w' :=
  ⟨none, 0, by rw [hx, Jn.readV_no h]; rfl, by rw [Jn.readV_no h]; exact Nat.le_refl _, by rw [Jn.readV_no h]; exact bytes_nil, (fun ad x => by cases x), hB⟩
set_option maxRecDepth 100000 in
set_option maxHeartbeats 4000000 in
theorem refRead8_any (A : Option Addr) (l : List UInt8) (m c : Nat) (hm : l.length = m) (hmc : m ≤ c) (w : World) (hr : BytesAt w w.heap.size A l) : Calls Tryd.prog 14 #[.slice A m c] w (JrrPost l w) := by
  by_cases h64 : m = 64
  · subst h64
    have zg : ∀ w1, BytesAt w1 w1.heap.size A l → _ := fun w1 h => refGetLong_any A l c 0 w1 (by rw [hm]; decide) h
    have zt : ∀ w1, BytesAt w1 w1.heap.size A l → _ := fun w1 h => refGet_any A l c 8 2 w1 (by rw [hm]; decide) h
    simp only [jnNumR l hm] at zg
    simp only [jnPlaceR l hm] at zt
    rw [hm] at zg zt
    simp only [flt, show getE 64 0 8 = 0 from rfl, show getA 64 0 8 = 0 from rfl, show getsE 64 8 2 = 0 from rfl, show getsA 64 8 2 = 0 from rfl] at zg zt
    have hdl := Jn.dat_length hm
    by_cases hb : 1099511627776 < Jn.num l
    · have hright : Jn.right l = false := by
        rw [← Bool.not_eq_true, Jn.right_iff]
        rintro ⟨_, h2, _⟩
        have := (Jn.may_mk _ _ _).1 h2
        omega
      have hp : ∀ w', Below w.heap.size w w' → JrrPost l w (.returned (.tuple #[.agg entZ.toArray, .int .i64 11])) w' := fun w' hB => JrrPost.none_ hright (Jn.readE_bad hm hright) hB
      replace hp := Lib.hid hp
      obtain ⟨n, hn⟩ : ∃ n, n = Jn.num l := ⟨_, rfl⟩
      obtain ⟨pl, hpl⟩ : ∃ n, n = Jn.place l := ⟨_, rfl⟩
      rw [← hn] at zg hb
      rw [← hpl] at zt
      have h2 : (1099511627776 : Int) < (n : Int) := by omega
      clear hm hdl hb hright hn hpl hmc
      go_enter Tryd.func14, Tryd.ntmps14
      go_wp2_with (first
        | ((with_reducible refine atWorld w ?_); refine wpList_allocRow (w := w) entTy rfl rfl ?_; (intro w0 b0 B0 s0; have r0 := hr.step B0; have b0 := Lib.hid b0))
        | (go_at_call 42; refine (zg w0 r0).mono ?_; (rintro e w2 ⟨rfl, B2⟩; have B2' := step_trans B0 (step_trans B2 (fault_below w2 0 0)); have r2 := (r0.step B2).step (fault_below w2 0 0); have b2 := Lib.hid ((b0.out.step B2).step (fault_below w2 0 0))))
        | (go_at_call 43; refine (zt _ r2).mono ?_; (rintro e w3 ⟨rfl, B3⟩; have B3' := step_trans B2' (step_trans B3 (fault_below w3 0 0)); have b3 := Lib.hid ((b2.out.step B3).step (fault_below w3 0 0)); obtain ⟨W3, hW3⟩ : ∃ W, W = w3.alloc (.cells #[.int .i64 0, .int .i64 0] 88) := ⟨_, rfl⟩; rw [← hW3] at B3' b3))
        | (rw [← hW3]; (with_reducible refine atWorld W3 ?_); refine wpList_storeRow (w := W3) entTy rfl (.tmp 2) (.tmp 31) rfl w.heap.size entZ entZ rfl rfl rfl rfl (ent_one Jn.zero none 0) b3.out ?_; (intro w9 b9 B9 s9 k9)))
      exact bodyPost_ret (w := w9) (results_cell2 Tryd.results14 _ _ _ _ _ _ rfl rfl (loadRow entTy (by rfl) b9)) rfl (hp.out _ (B3'.trans B9))
    · have q10 : ∀ W, (Instr.slice 22 (.slice A 64 c) (some (.int .i64 10)) (some (.int .i64 42)) none).run Tryd.prog W = .ok (.slice (cutA A 10 c) 32 (c - 10)) W := fun W => cut_both A 64 c 10 32 (by omega) W
      have hcut : ∀ w1, BytesAt w1 w1.heap.size A l → BytesAt w1 w1.heap.size (cutA A 10 c) (Jn.dat l) := fun w1 h => (h.drop 10 c (by omega)).take 32
      have zb := fun A1 c1 w1 h => refBytes8_any (Jn.ent l) A1 c1 w1 h
      unfold JrbPost at zb
      replace hcut := Lib.hid hcut
      obtain ⟨R, hR⟩ : ∃ R, R = Jn.ent l := ⟨_, rfl⟩
      have hR' : R = ⟨(Jn.place l : Int), (Jn.num l : Int), Jn.dat l⟩ := hR
      have hRd : R.d = Jn.dat l := by rw [hR']
      have eL : ∀ A c, entL R A c = entN (Jn.place l : Int) (Jn.num l : Int) A 32 c := fun A c => by rw [hR']; exact entL_eq _ _ _ _ hdl A c
      rw [← hR] at zb
      simp only [hRd, eL] at zb
      cases hz : Jn.may R with
      | true =>
        have e1 := Jn.bytesE_yes hz
        have e2 : Jn.bytesB R = Jn.sect (Jn.place l) (Jn.num l) (Jn.dat l) := by rw [hR']; exact Jn.bytesB_yes (by rw [← hR']; exact hz)
        have hsl := Jn.sect_length (Jn.place l) (Jn.num l) (Jn.dat l) hdl
        rw [e1, e2, hsl] at zb
        by_cases hs : Jn.sect (Jn.place l) (Jn.num l) (Jn.dat l) = l
        · have hright : Jn.right l = true := by
            rw [Jn.right_iff, ← hR]
            exact ⟨hm, hz, hs⟩
          have hp : ∀ A' c' w', 32 ≤ c' → BytesAt w' w'.heap.size A' (Jn.dat l) → (∀ ad, A' = some ad → w.heap.size ≤ ad.block) → Below w.heap.size w w' → JrrPost l w (.returned (.tuple #[.agg (entN (Jn.place l : Int) (Jn.num l : Int) A' 32 c').toArray, .int .i64 0])) w' := fun A' c' w' h1 h2 h4 h3 =>
            ⟨A', c', by rw [(Jn.readE_zero _).2 hright, Jn.readV_yes hright, ← hR, eL], by rw [Jn.readV_yes hright, ← hR, hRd, hdl]; exact h1, by rw [Jn.readV_yes hright, ← hR, hRd]; exact h2, h4, h3⟩
          replace hp := Lib.hid hp
          rw [hs] at zb
          obtain ⟨n, hn⟩ : ∃ n, n = Jn.num l := ⟨_, rfl⟩
          obtain ⟨pl, hpl⟩ : ∃ n, n = Jn.place l := ⟨_, rfl⟩
          obtain ⟨d, hd⟩ : ∃ x, x = Jn.dat l := ⟨_, rfl⟩
          rw [← hn] at zg hb
          rw [← hpl] at zt
          rw [← hd] at hcut hdl
          rw [← hn, ← hpl, ← hd] at zb hp
          have h2 : ¬ (1099511627776 : Int) < (n : Int) := by omega
          have en : IntKind.i64.wrap (n : Int) = (n : Int) := IntWalk.i64_in _ (by omega)
          have HK := Lib.hid (And.intro hdl hm)
          clear hm hn hd hpl hs hright hsl hdl hz e1 e2 hb hmc hR hR' hRd eL
          go_enter Tryd.func14, Tryd.ntmps14
          go_wp2_with (first
            | ((with_reducible refine atWorld w ?_); refine wpList_allocRow (w := w) entTy rfl rfl ?_; (intro w0 b0 B0 s0; have r0 := hr.step B0; have b0 := Lib.hid b0))
            | (go_at_call 42; refine (zg w0 r0).mono ?_; (rintro e w2 ⟨rfl, B2⟩; have B2' := step_trans B0 (step_trans B2 (fault_below w2 0 0)); have r2 := (r0.step B2).step (fault_below w2 0 0); have b2 := Lib.hid ((b0.out.step B2).step (fault_below w2 0 0))))
            | (go_at_call 43; refine (zt _ r2).mono ?_; (rintro e w3 ⟨rfl, B3⟩; obtain ⟨o4, B4, hs4⟩ := own_behind w3 0 0; have C3 := step_trans B2' B3; have hs3 := C3.size; have L3 : w.heap.size < w3.heap.size := Nat.lt_of_lt_of_le (show w.heap.size < w0.heap.size by omega) (step_trans (step_trans B2 (fault_below w2 0 0)) B3).size; have C4 := step_trans C3 B4; have r3 := r2.step B3; have r4 := r3.step B4; have r3b := r3.below B4; have rc4 := hcut.out _ r4; have b3 := Lib.hid (b2.out.step B3); have C4 := Lib.hid C4))
            | (at_builtin; refine wpList_appendB rfl (.tmp 35) (.tmp 37) 22 rfl rfl w3.heap.size _ [] rfl o4 (cutA A 10 c) d 32 (c - 10) _ rfl HK.out.1 rc4 (by rw [HK.out.1]; decide) hs4 ?_; (intro v5 w5 ho5 hg5 hat5; have B5 := grown_step hg5 o4 hs4; have C5 := C4.out.trans (B5.mono hs3); have r5 : BytesAt w5 w5.heap.size A l := (r3b.below B5).more (Nat.le_trans hs4 B5.size); rw [List.nil_append] at ho5; obtain ⟨A5, c5, rfl, hc5⟩ := ho5.form; rw [HK.out.1] at ho5 hc5 ⊢; have rc5 := ho5.bytes; have nw5 := Lib.hid (fun ad (e : A5 = some ad) => ho5.new ad e (by intro h; have := HK.out.1; rw [h] at this; exact absurd this (by decide))); have b5 := Lib.hid ((b3.out.step B4).below B5 L3); clear ho5))
            | ((with_reducible refine atWorld w5 ?_); refine wpList_allocRow (w := w5) entTy rfl rfl ?_; (intro w6 b6 B6 s6; have b6 := Lib.hid b6; have z6 := Lib.hid (b5.out.step B6); have C6 := step_trans C5 B6))
            | ((with_reducible refine atWorld w6 ?_); refine wpList_storeRow (w := w6) entTy rfl (.tmp 10) (.tmp 39) rfl w5.heap.size (entN (pl : Int) (n : Int) A5 32 c5) entZ rfl rfl rfl rfl (entN_one _ _ _ _ _) b6.out ?_; (intro w7 b7 B7 s7 k7; have B57 := B6.trans B7; have z7 := Lib.hid (b5.out.step B57); have C7 := step_trans C5 B57; have r7 := r5.step B57; have rc7 := rc5.step B57; have b7 := Lib.hid b7))
            | ((with_reducible refine atWorld w7 ?_); refine wpList_loadRow (w := w7) entTy rfl (.tmp 10) rfl w5.heap.size 0 (entN (pl : Int) (n : Int) A5 32 c5) rfl rfl (rangeOf b7.out) ?_)
            | (go_at_call 12; refine (zb A5 c5 w7 rc7).mono ?_; (rintro e w8 ⟨A8, c8, rfl, hc8, r8, _, B8⟩; have rr8 := r7.step B8; have qs := str_of r8 64 HK.out.2 c8; have qt := str_of rr8 64 HK.out.2 c; have C8 := step_trans C7 B8; have z8 := Lib.hid (z7.out.step B8); have b8 := Lib.hid (b7.out.step B8); have rc8 := rc7.step B8))
            | ((with_reducible refine atWorld w8 ?_); refine wpList_loadRow (w := w8) entTy rfl (.tmp 10) rfl w5.heap.size 0 (entN (pl : Int) (n : Int) A5 32 c5) rfl rfl (rangeOf b8.out) ?_)
            | ((with_reducible refine atWorld w8 ?_); refine wpList_storeRow (w := w8) entTy rfl (.tmp 2) (.tmp 55) rfl w.heap.size (entN (pl : Int) (n : Int) A5 32 c5) entZ rfl rfl rfl rfl (entN_one _ _ _ _ _) z8.out ?_; (intro w9 b9 B9 s9 k9)))
          have rc9 : BytesAt w9 w9.heap.size A5 d := rc8.else_ s9 k9 fun ad e => by have := nw5.out ad e; omega
          exact bodyPost_ret (w := w9) (results_cell2 Tryd.results14 _ _ _ _ _ _ rfl rfl (loadRow entTy (by rfl) b9)) rfl (hp.out A5 c5 w9 hc5 rc9 (fun ad e => Nat.le_trans (Nat.le_of_lt L3) (nw5.out ad e)) (C8.trans B9))
        · have hright : Jn.right l = false := by
            rw [← Bool.not_eq_true, Jn.right_iff]
            exact fun x => hs x.2.2
          have hp : ∀ w', Below w.heap.size w w' → JrrPost l w (.returned (.tuple #[.agg entZ.toArray, .int .i64 11])) w' := fun w' hB => JrrPost.none_ hright (Jn.readE_bad hm hright) hB
          replace hp := Lib.hid hp
          obtain ⟨n, hn⟩ : ∃ n, n = Jn.num l := ⟨_, rfl⟩
          obtain ⟨pl, hpl⟩ : ∃ n, n = Jn.place l := ⟨_, rfl⟩
          obtain ⟨d, hd⟩ : ∃ x, x = Jn.dat l := ⟨_, rfl⟩
          rw [← hn] at zg hb
          rw [← hpl] at zt
          rw [← hd] at hcut hdl
          rw [← hn, ← hpl, ← hd] at zb hs hsl
          obtain ⟨s, hsx⟩ : ∃ x, x = Jn.sect pl n d := ⟨_, rfl⟩
          rw [← hsx] at zb hs hsl
          have h2 : ¬ (1099511627776 : Int) < (n : Int) := by omega
          have en : IntKind.i64.wrap (n : Int) = (n : Int) := IntWalk.i64_in _ (by omega)
          have HK := Lib.hid (And.intro hdl (And.intro hm hsl))
          have hsb : (s == l) = false := by simpa using hs
          have hsb' : (s != l) = true := by simpa using hs
          clear hm hn hd hpl hright hsl hdl hz e1 e2 hb hmc hR hR' hRd eL hsx
          go_enter Tryd.func14, Tryd.ntmps14
          go_wp2_with (first
            | ((with_reducible refine atWorld w ?_); refine wpList_allocRow (w := w) entTy rfl rfl ?_; (intro w0 b0 B0 s0; have r0 := hr.step B0; have b0 := Lib.hid b0))
            | (go_at_call 42; refine (zg w0 r0).mono ?_; (rintro e w2 ⟨rfl, B2⟩; have B2' := step_trans B0 (step_trans B2 (fault_below w2 0 0)); have r2 := (r0.step B2).step (fault_below w2 0 0); have b2 := Lib.hid ((b0.out.step B2).step (fault_below w2 0 0))))
            | (go_at_call 43; refine (zt _ r2).mono ?_; (rintro e w3 ⟨rfl, B3⟩; obtain ⟨o4, B4, hs4⟩ := own_behind w3 0 0; have C3 := step_trans B2' B3; have hs3 := C3.size; have L3 : w.heap.size < w3.heap.size := Nat.lt_of_lt_of_le (show w.heap.size < w0.heap.size by omega) (step_trans (step_trans B2 (fault_below w2 0 0)) B3).size; have C4 := step_trans C3 B4; have r3 := r2.step B3; have r4 := r3.step B4; have r3b := r3.below B4; have rc4 := hcut.out _ r4; have b3 := Lib.hid (b2.out.step B3); have C4 := Lib.hid C4))
            | (at_builtin; refine wpList_appendB rfl (.tmp 35) (.tmp 37) 22 rfl rfl w3.heap.size _ [] rfl o4 (cutA A 10 c) d 32 (c - 10) _ rfl HK.out.1 rc4 (by rw [HK.out.1]; decide) hs4 ?_; (intro v5 w5 ho5 hg5 hat5; have B5 := grown_step hg5 o4 hs4; have C5 := C4.out.trans (B5.mono hs3); have r5 : BytesAt w5 w5.heap.size A l := (r3b.below B5).more (Nat.le_trans hs4 B5.size); rw [List.nil_append] at ho5; obtain ⟨A5, c5, rfl, hc5⟩ := ho5.form; rw [HK.out.1] at ho5 hc5 ⊢; have rc5 := ho5.bytes; have nw5 := Lib.hid (fun ad (e : A5 = some ad) => ho5.new ad e (by intro h; have := HK.out.1; rw [h] at this; exact absurd this (by decide))); have b5 := Lib.hid ((b3.out.step B4).below B5 L3); clear ho5))
            | ((with_reducible refine atWorld w5 ?_); refine wpList_allocRow (w := w5) entTy rfl rfl ?_; (intro w6 b6 B6 s6; have b6 := Lib.hid b6; have z6 := Lib.hid (b5.out.step B6); have C6 := step_trans C5 B6))
            | ((with_reducible refine atWorld w6 ?_); refine wpList_storeRow (w := w6) entTy rfl (.tmp 10) (.tmp 39) rfl w5.heap.size (entN (pl : Int) (n : Int) A5 32 c5) entZ rfl rfl rfl rfl (entN_one _ _ _ _ _) b6.out ?_; (intro w7 b7 B7 s7 k7; have B57 := B6.trans B7; have z7 := Lib.hid (b5.out.step B57); have C7 := step_trans C5 B57; have r7 := r5.step B57; have rc7 := rc5.step B57; have b7 := Lib.hid b7))
            | ((with_reducible refine atWorld w7 ?_); refine wpList_loadRow (w := w7) entTy rfl (.tmp 10) rfl w5.heap.size 0 (entN (pl : Int) (n : Int) A5 32 c5) rfl rfl (rangeOf b7.out) ?_)
            | (go_at_call 12; refine (zb A5 c5 w7 rc7).mono ?_; (rintro e w8 ⟨A8, c8, rfl, hc8, r8, _, B8⟩; have rr8 := r7.step B8; have qs := str_of r8 64 HK.out.2.2 c8; have qt := str_of rr8 64 HK.out.2.1 c; have C8 := step_trans C7 B8; have z8 := Lib.hid (z7.out.step B8)))
            | ((with_reducible refine atWorld w8 ?_); refine wpList_storeRow (w := w8) entTy rfl (.tmp 2) (.tmp 54) rfl w.heap.size entZ entZ rfl rfl rfl rfl (ent_one Jn.zero none 0) z8.out ?_; (intro w9 b9 B9 s9 k9)))
          exact bodyPost_ret (w := w9) (results_cell2 Tryd.results14 _ _ _ _ _ _ rfl rfl (loadRow entTy (by rfl) b9)) rfl (hp.out w9 (C8.trans B9))
      | false =>
        have hright : Jn.right l = false := by
          rw [← Bool.not_eq_true, Jn.right_iff, ← hR, hz]
          exact fun x => by cases x.2.1
        have hp : ∀ w', Below w.heap.size w w' → JrrPost l w (.returned (.tuple #[.agg entZ.toArray, .int .i64 11])) w' := fun w' hB => JrrPost.none_ hright (Jn.readE_bad hm hright) hB
        replace hp := Lib.hid hp
        rw [Jn.bytesE_no hz, Jn.bytesB_no hz] at zb
        obtain ⟨n, hn⟩ : ∃ n, n = Jn.num l := ⟨_, rfl⟩
        obtain ⟨pl, hpl⟩ : ∃ n, n = Jn.place l := ⟨_, rfl⟩
        obtain ⟨d, hd⟩ : ∃ x, x = Jn.dat l := ⟨_, rfl⟩
        rw [← hn] at zg hb
        rw [← hpl] at zt
        rw [← hd] at hcut hdl
        rw [← hn, ← hpl, ← hd] at zb
        have h2 : ¬ (1099511627776 : Int) < (n : Int) := by omega
        have en : IntKind.i64.wrap (n : Int) = (n : Int) := IntWalk.i64_in _ (by omega)
        have HK := Lib.hid (And.intro hdl hm)
        clear hm hn hd hpl hright hdl hz hb hmc hR hR' hRd eL
        go_enter Tryd.func14, Tryd.ntmps14
        go_wp2_with (first
          | ((with_reducible refine atWorld w ?_); refine wpList_allocRow (w := w) entTy rfl rfl ?_; (intro w0 b0 B0 s0; have r0 := hr.step B0; have b0 := Lib.hid b0))
          | (go_at_call 42; refine (zg w0 r0).mono ?_; (rintro e w2 ⟨rfl, B2⟩; have B2' := step_trans B0 (step_trans B2 (fault_below w2 0 0)); have r2 := (r0.step B2).step (fault_below w2 0 0); have b2 := Lib.hid ((b0.out.step B2).step (fault_below w2 0 0))))
          | (go_at_call 43; refine (zt _ r2).mono ?_; (rintro e w3 ⟨rfl, B3⟩; obtain ⟨o4, B4, hs4⟩ := own_behind w3 0 0; have C3 := step_trans B2' B3; have hs3 := C3.size; have L3 : w.heap.size < w3.heap.size := Nat.lt_of_lt_of_le (show w.heap.size < w0.heap.size by omega) (step_trans (step_trans B2 (fault_below w2 0 0)) B3).size; have C4 := step_trans C3 B4; have r3 := r2.step B3; have r4 := r3.step B4; have r3b := r3.below B4; have rc4 := hcut.out _ r4; have b3 := Lib.hid (b2.out.step B3); have C4 := Lib.hid C4))
          | (at_builtin; refine wpList_appendB rfl (.tmp 35) (.tmp 37) 22 rfl rfl w3.heap.size _ [] rfl o4 (cutA A 10 c) d 32 (c - 10) _ rfl HK.out.1 rc4 (by rw [HK.out.1]; decide) hs4 ?_; (intro v5 w5 ho5 hg5 hat5; have B5 := grown_step hg5 o4 hs4; have C5 := C4.out.trans (B5.mono hs3); have r5 : BytesAt w5 w5.heap.size A l := (r3b.below B5).more (Nat.le_trans hs4 B5.size); rw [List.nil_append] at ho5; obtain ⟨A5, c5, rfl, hc5⟩ := ho5.form; rw [HK.out.1] at ho5 hc5 ⊢; have rc5 := ho5.bytes; have nw5 := Lib.hid (fun ad (e : A5 = some ad) => ho5.new ad e (by intro h; have := HK.out.1; rw [h] at this; exact absurd this (by decide))); have b5 := Lib.hid ((b3.out.step B4).below B5 L3); clear ho5))
          | ((with_reducible refine atWorld w5 ?_); refine wpList_allocRow (w := w5) entTy rfl rfl ?_; (intro w6 b6 B6 s6; have b6 := Lib.hid b6; have z6 := Lib.hid (b5.out.step B6); have C6 := step_trans C5 B6))
          | ((with_reducible refine atWorld w6 ?_); refine wpList_storeRow (w := w6) entTy rfl (.tmp 10) (.tmp 39) rfl w5.heap.size (entN (pl : Int) (n : Int) A5 32 c5) entZ rfl rfl rfl rfl (entN_one _ _ _ _ _) b6.out ?_; (intro w7 b7 B7 s7 k7; have B57 := B6.trans B7; have z7 := Lib.hid (b5.out.step B57); have C7 := step_trans C5 B57; have r7 := r5.step B57; have rc7 := rc5.step B57; have b7 := Lib.hid b7))
          | ((with_reducible refine atWorld w7 ?_); refine wpList_loadRow (w := w7) entTy rfl (.tmp 10) rfl w5.heap.size 0 (entN (pl : Int) (n : Int) A5 32 c5) rfl rfl (rangeOf b7.out) ?_)
          | (go_at_call 12; refine (zb A5 c5 w7 rc7).mono ?_; (rintro e w8 ⟨A8, c8, rfl, hc8, r8, _, B8⟩; have C8 := step_trans C7 B8; have z8 := Lib.hid (z7.out.step B8)))
          | ((with_reducible refine atWorld w8 ?_); refine wpList_storeRow (w := w8) entTy rfl (.tmp 2) (.tmp 54) rfl w.heap.size entZ entZ rfl rfl rfl rfl (ent_one Jn.zero none 0) z8.out ?_; (intro w9 b9 B9 s9 k9)))
        exact bodyPost_ret (w := w9) (results_cell2 Tryd.results14 _ _ _ _ _ _ rfl rfl (loadRow entTy (by rfl) b9)) rfl (hp.out w9 (C8.trans B9))
  · have hne : ((m : Int) != 64) = true := by simp; omega
    have hp : ∀ w', Below w.heap.size w w' → JrrPost l w (.returned (.tuple #[.agg entZ.toArray, .int .i64 4])) w' := fun w' hB => JrrPost.none_ (Jn.right_len (b := l) (by rw [hm]; exact h64)) (Jn.readE_len (by rw [hm]; exact h64)) hB
    replace hp := Lib.hid hp
    clear hr hm h64
    go_enter Tryd.func14, Tryd.ntmps14
    go_wp2_with (first
      | ((with_reducible refine atWorld w ?_); refine wpList_allocRow (w := w) entTy rfl rfl ?_; (intro w0 b0 B0 s0; have b0 := Lib.hid b0))
      | ((with_reducible refine atWorld w0 ?_); refine wpList_storeRow (w := w0) entTy rfl (.tmp 2) (.tmp 16) rfl w.heap.size entZ entZ rfl rfl rfl rfl (ent_one Jn.zero none 0) b0.out ?_; (intro w9 b9 B9 s9 k9)))
    exact bodyPost_ret (w := w9) (results_cell2 Tryd.results14 _ _ _ _ _ _ rfl rfl (loadRow entTy (by rfl) b9)) rfl (hp.out _ (B0.trans B9))
end Go.Proofs.YtliiejdhbkmifaaDoor
