/-
  The document's Read for meta (tandemref06): what it returns. Conditions: the bytes can be read.
-/
import Derived.Test.YtebicjblplkdeaaGreatDoorMetaRef
namespace Go.Proofs.YtebicjblplkdeaaGreatDoor
open Go.RowKit Fix

theorem rget_yes (A : Option Addr) (l : List UInt8) (c : Nat) (oi si : Int) (o s e : Nat) (ho : oi = (o : Int)) (hs : si = (s : Int)) (he : e = o + s) (h1 : 1 ≤ s) (h7 : s ≤ 7) (h : e ≤ l.length) (n : Nat) (hn : l.length = n) (w : World) (hc : l.length ≤ 140737488351232) (hr : BytesAt w w.heap.size A l) :
    Calls Tryz.prog 55 #[.slice A n c, .int .i64 oi, .int .i64 si] w fun x w' => x = .returned (.tuple #[.int .i64 (Mt.at_ l o s : Int), .int .i64 (e : Int), .agg #[.int .i64 0, .int .i64 0]]) ∧ Below w.heap.size w w' := by
  subst hn
  have z := refGet_any A l c oi si w hc hr
  subst ho; subst hs; subst he
  have hz : isz (s : Int) = true := (isz_iff _).2 ⟨by omega, by omega⟩
  have hR : inR l.length (o : Int) = true := by simp [inR]; omega
  have hI : inN l.length (o : Int) s = true := by simp [inN, inR]; omega
  have e1 : getsN l (o : Int) (s : Int) = Mt.at_ l o s := by simp [getsN, hz, getN, hI, Mt.at_]
  have e2 : getsP l.length (o : Int) (s : Int) = ((o + s : Nat) : Int) := by simp [getsP, hz, getP, hI]
  have e3 : getsE l.length (o : Int) (s : Int) = 0 := by simp [getsE, hz, getE, hI, hR]
  have e4 : getsA l.length (o : Int) (s : Int) = 0 := by simp [getsA, hz, getA, hI, hR]
  rw [e1, e2, e3, e4] at z
  exact z
def fltO : Obj := .cells #[.int .i64 0, .int .i64 0] 102
theorem at_one (l : List UInt8) (k : Nat) (h : k < l.length) : (Mt.at_ l k 1 : Int) = ((l.getD k 0).toNat : Int) := by
  unfold Mt.at_
  rw [List.drop_eq_getElem_cons h, List.take_succ_cons, List.take_zero]
  simp [le, h]
theorem refRead_any (A : Option Addr) (l : List UInt8) (c : Nat) (w : World) (hlc : l.length ≤ c) (hcm : l.length ≤ 140737488351232) (hr : BytesAt w w.heap.size A l) :
    Calls Tryz.prog 25 #[.slice A l.length c] w (MtRd l w) := by
  unfold MtRd
  by_cases hlen : l.length = 26
  · obtain ⟨ad, rfl, hlt, hcell⟩ := hr (by rintro rfl; simp at hlen)
    have z0 := fun w hr => rget_yes (some ad) l c 0 6 0 6 6 rfl rfl rfl (by decide) (by decide) (by omega) 26 hlen w hcm hr
    have z7 := fun w hr => rget_yes (some ad) l c 7 6 7 6 13 rfl rfl rfl (by decide) (by decide) (by omega) 26 hlen w hcm hr
    have z13 := fun w hr => rget_yes (some ad) l c 13 6 13 6 19 rfl rfl rfl (by decide) (by decide) (by omega) 26 hlen w hcm hr
    have z20 := fun w hr => rget_yes (some ad) l c 20 6 20 6 26 rfl rfl rfl (by decide) (by decide) (by omega) 26 hlen w hcm hr
    have c6 : Hid (∀ w', Below w.heap.size w w' → w'.cell? ⟨ad.block, ad.off + 6, none⟩ = some (.int .u8 (Mt.at_ l 6 1 : Int)) ∧ w'.cell? ⟨ad.block, ad.off + 19, none⟩ = some (.int .u8 (Mt.at_ l 19 1 : Int))) := Lib.hid fun w' hb => by
      rw [at_one l 6 (by omega), at_one l 19 (by omega)]
      exact ⟨(hb.cell (p := ⟨ad.block, ad.off + 6, none⟩) hlt).trans (by have := hcell 6 (by omega); simpa [Addr.add] using this), (hb.cell (p := ⟨ad.block, ad.off + 19, none⟩) hlt).trans (by have := hcell 19 (by omega); simpa [Addr.add] using this)⟩
    have hc26 : 26 ≤ c := by omega
    have zc := fun w => refCheck_any (Mt.dec l) w
    have w6 := at_lt l 6 1
    have w19 := at_lt l 19 1
    have e1 : IntKind.i64.wrap ((Mt.at_ l 6 1 : Int) - 1) = (Mt.at_ l 6 1 : Int) - 1 := IntWalk.i64_in _ (by omega)
    have e2 : IntKind.i64.wrap (Mt.at_ l 6 1 : Int) = (Mt.at_ l 6 1 : Int) := IntWalk.i64_in _ (by omega)
    have e3 : IntKind.i64.wrap (Mt.at_ l 19 1 : Int) = (Mt.at_ l 19 1 : Int) := IntWalk.i64_in _ (by omega)
    have hMM : Mt.dec l = ⟨Mt.at_ l 0 6, (Mt.at_ l 6 1 : Int) - 1, Mt.at_ l 7 6, Mt.at_ l 13 6, Mt.at_ l 19 1, Mt.at_ l 20 6⟩ := rfl
    obtain ⟨n0, hn0⟩ : ∃ n, n = Mt.at_ l 0 6 := ⟨_, rfl⟩
    obtain ⟨n6, hn6⟩ : ∃ n, n = Mt.at_ l 6 1 := ⟨_, rfl⟩
    obtain ⟨n7, hn7⟩ : ∃ n, n = Mt.at_ l 7 6 := ⟨_, rfl⟩
    obtain ⟨n13, hn13⟩ : ∃ n, n = Mt.at_ l 13 6 := ⟨_, rfl⟩
    obtain ⟨n19, hn19⟩ : ∃ n, n = Mt.at_ l 19 1 := ⟨_, rfl⟩
    obtain ⟨n20, hn20⟩ : ∃ n, n = Mt.at_ l 20 6 := ⟨_, rfl⟩
    rw [← hn0] at z0 hMM
    rw [← hn6] at c6 e1 e2 w6 hMM
    rw [← hn7] at z7 hMM
    rw [← hn13] at z13 hMM
    rw [← hn19] at c6 e3 w19 hMM
    rw [← hn20] at z20 hMM
    have hgood : Mt.good l = (Mt.dec l).ok := by simp [Mt.good, hlen]
    obtain ⟨M, hM⟩ : ∃ M, M = Mt.dec l := ⟨_, rfl⟩
    rw [← hM] at zc hMM hgood
    have HE : (M.ok = true → Mt.readE l = 0 ∧ Mt.readM l = M) ∧ (M.ok = false → Mt.readE l = 4 ∧ Mt.readM l = Mt.zero) := by
      refine ⟨fun h => ?_, fun h => ?_⟩
      · rw [h] at hgood; simp [Mt.readE, Mt.readM, hgood, hM]
      · rw [h] at hgood; simp [Mt.readE, Mt.readM, hgood]
    have HE := Lib.hid HE
    clear hn0 hn6 hn7 hn13 hn19 hn20 hgood hM
    rw [hlen] at hcm hlc ⊢
    have RX : Hid (∀ w', Below w.heap.size w w' → BytesAt w' w'.heap.size (some ad) l) := Lib.hid fun w' B => (hr.below B).more B.size
    clear hr hcell
    go_enter Tryz.func25, Tryz.ntmps25
    go_wp2_with (first
      | ((with_reducible refine atWorld w ?_); refine wpList_allocRow (w := w) metaTy rfl rfl ?_; (intro w0 b0 B0 s0; have b0 := Lib.hid b0; have r0 := RX.out w0 B0; have RX0 := Lib.hid (fun w' (C : Below w0.heap.size w0 w') => RX.out w' (B0.trans (C.mono B0.size))); have c60 := Lib.hid (fun w' (C : Below w0.heap.size w0 w') => c6.out w' (B0.trans (C.mono B0.size)))))
      | (go_at_call 55; first
        | ((with_reducible refine (z0 w0 r0).mono ?_); (rintro e w1 ⟨rfl, D⟩; have C1 := (D).alloc (D.size) (.cells #[.int .i64 0, .int .i64 0] 102); have r1 := RX0.out _ C1))
        | ((with_reducible refine (z7 _ r1).mono ?_); (rintro e w2 ⟨rfl, D⟩; have C2 := (C1.trans (D.mono C1.size)).alloc (Nat.le_trans C1.size D.size) (.cells #[.int .i64 0, .int .i64 0] 102); have r2 := RX0.out _ C2))
        | ((with_reducible refine (z13 _ r2).mono ?_); (rintro e w3 ⟨rfl, D⟩; have C3 := (C2.trans (D.mono C2.size)).alloc (Nat.le_trans C2.size D.size) (.cells #[.int .i64 0, .int .i64 0] 102); have r3 := RX0.out _ C3))
        | ((with_reducible refine (z20 _ r3).mono ?_); (rintro e w4 ⟨rfl, D⟩; have C4 := (C3.trans (D.mono C3.size)).alloc (Nat.le_trans C3.size D.size) (.cells #[.int .i64 0, .int .i64 0] 102); obtain ⟨k6, k19⟩ := c60.out _ C4))))
    go_region_held3 (fun w' => w'.cell? ⟨ad.block, ad.off + 6, none⟩ = some (.int .u8 (n6 : Int)) ∧ w'.cell? ⟨ad.block, ad.off + 19, none⟩ = some (.int .u8 (n19 : Int))) (first | assumption | exact ⟨k6, k19⟩ | exact c60.out _ C4.drew | exact c60.out _ (C4.alloc C4.size _).drew) (fail)
    have C5 : Below w0.heap.size w0 ((w4.alloc (.cells #[.int .i64 0, .int .i64 0] 102)).alloc (.cells #[.int .i64 (n0 : Int), .int .i64 ((n6 : Int) - 1), .int .i64 (n7 : Int), .int .i64 (n13 : Int), .int .i64 (n19 : Int), .int .i64 (n20 : Int)] 39)).drew := (C4.alloc C4.size _).drew
    have z5 : BlkR 39 ((w4.alloc (.cells #[.int .i64 0, .int .i64 0] 102)).alloc (.cells #[.int .i64 (n0 : Int), .int .i64 ((n6 : Int) - 1), .int .i64 (n7 : Int), .int .i64 (n13 : Int), .int .i64 (n19 : Int), .int .i64 (n20 : Int)] 39)).drew w.heap.size (mtL Mt.zero) := b0.out.below C5 (by omega)
    have m5 : BlkR 39 ((w4.alloc (.cells #[.int .i64 0, .int .i64 0] 102)).alloc (.cells #[.int .i64 (n0 : Int), .int .i64 ((n6 : Int) - 1), .int .i64 (n7 : Int), .int .i64 (n13 : Int), .int .i64 (n19 : Int), .int .i64 (n20 : Int)] 39)).drew (w4.heap.size + 1) (mtL M) := by
      have := heap_alloc_new (w4.alloc (.cells #[.int .i64 0, .int .i64 0] 102)) (.cells #[.int .i64 (n0 : Int), .int .i64 ((n6 : Int) - 1), .int .i64 (n7 : Int), .int .i64 (n13 : Int), .int .i64 (n19 : Int), .int .i64 (n20 : Int)] 39)
      rw [World.size_alloc] at this
      rw [hMM]
      exact this
    obtain ⟨w5, hw5⟩ : ∃ w5, w5 = ((w4.alloc (.cells #[.int .i64 0, .int .i64 0] 102)).alloc (.cells #[.int .i64 (n0 : Int), .int .i64 ((n6 : Int) - 1), .int .i64 (n7 : Int), .int .i64 (n13 : Int), .int .i64 (n19 : Int), .int .i64 (n20 : Int)] 39)).drew := ⟨_, rfl⟩
    obtain ⟨g, hg⟩ : ∃ g, g = w4.heap.size + 1 := ⟨_, rfl⟩
    have hgw : w.heap.size < g := by have := C4.size; simp at this; omega
    rw [← hw5] at C5 z5 m5 ⊢
    rw [← hg] at m5 ⊢
    have B5 := B0.trans (C5.mono B0.size)
    clear hw5 hg C5 k6 k19 C1 C2 C3 C4 z0 z7 z13 z20 c6 RX r0 r1 r2 r3 e1 e2 e3 hMM b0 B0 RX0 c60 s0
    cases hok : M.ok with
    | true =>
      rw [Mt.err_ok hok] at zc
      have HE := Lib.hid (HE.out.1 hok)
      clear hok
      go_wp2_with (first
        | ((with_reducible refine atWorld w5 ?_); refine wpList_loadRow (w := w5) metaTy rfl (.tmp 16) rfl g 0 (mtL M) rfl rfl (rangeOf m5) ?_)
        | (go_at_call 50; refine (zc w5).mono ?_; (rintro e w6 ⟨rfl, D⟩; have B6 := B5.trans (D.mono B5.size); have z6 := z5.go D; have m6 := m5.go D))
        | ((with_reducible refine atWorld w6 ?_); refine wpList_loadRow (w := w6) metaTy rfl (.tmp 16) rfl g 0 (mtL M) rfl rfl (rangeOf m6) ?_)
        | ((with_reducible refine atWorld w6 ?_); refine wpList_storeRow (w := w6) metaTy rfl (.tmp 2) (.tmp 64) rfl w.heap.size (mtL M) (mtL Mt.zero) rfl rfl rfl rfl (mtL_one _) z6 ?_; (intro w9 b9 B9 s9 k9)))
      refine bodyPost_ret (w := w9) (results_cell2 Tryz.results25 _ _ _ _ _ _ rfl rfl (loadRow metaTy (by rfl) b9)) rfl ⟨?_, B6.trans B9⟩
      rw [HE.out.1, HE.out.2]; rfl
    | false =>
      rw [Mt.err_no hok] at zc
      have HE := Lib.hid (HE.out.2 hok)
      clear hok
      go_wp2_with (first
        | ((with_reducible refine atWorld w5 ?_); refine wpList_loadRow (w := w5) metaTy rfl (.tmp 16) rfl g 0 (mtL M) rfl rfl (rangeOf m5) ?_)
        | (go_at_call 50; refine (zc w5).mono ?_; (rintro e w6 ⟨rfl, D⟩; have B6 := B5.trans (D.mono B5.size); have z6 := z5.go D))
        | ((with_reducible refine atWorld w6 ?_); refine wpList_storeRow (w := w6) metaTy rfl (.tmp 2) (.tmp 63) rfl w.heap.size (mtL Mt.zero) (mtL Mt.zero) rfl rfl rfl rfl (mtL_one _) z6 ?_; (intro w9 b9 B9 s9 k9)))
      refine bodyPost_ret (w := w9) (results_cell2 Tryz.results25 _ _ _ _ _ _ rfl rfl (loadRow metaTy (by rfl) b9)) rfl ⟨?_, B6.trans B9⟩
      rw [HE.out.1, HE.out.2]; rfl
  · have HE := Lib.hid (rd_short (l := l) hlen)
    have hne : ((l.length : Int) != 26) = true := by simp; omega
    clear hlen
    go_enter Tryz.func25, Tryz.ntmps25
    go_wp2_with (first
      | ((with_reducible refine atWorld w ?_); refine wpList_allocRow (w := w) metaTy rfl rfl ?_; (intro w0 b0 B0 s0; have b0 := Lib.hid b0))
      | ((with_reducible refine atWorld w0 ?_); refine wpList_storeRow (w := w0) metaTy rfl (.tmp 2) (.tmp 20) rfl w.heap.size (mtL Mt.zero) (mtL Mt.zero) rfl rfl rfl rfl (mtL_one _) b0.out ?_; (intro w9 b9 B9 s9 k9)))
    refine bodyPost_ret (w := w9) (results_cell2 Tryz.results25 _ _ _ _ _ _ rfl rfl (loadRow metaTy (by rfl) b9)) rfl ⟨?_, B0.trans B9⟩
    rw [HE.out.1, HE.out.2]; rfl
end Go.Proofs.YtebicjblplkdeaaGreatDoor
