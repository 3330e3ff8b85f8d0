/-
  The walk of MetaBack. Conditions: the bytes can be read.
-/
import Derived.Test.YtebicjblplkdeaaMetaAwake
import Derived.Test.YtebicjblplkdeaaMetaRead
import Derived.Test.YtebicjblplkdeaaMetaDec
namespace Go.Proofs.Ytebicjblplkdeaa
open Go.RowKit Fix

theorem readB_yes (A : Option Addr) (l : List UInt8) (c : Nat) (hlc : l.length ≤ c) (hcm : l.length ≤ 140737488351232) (M : Mt) (E : Int) (hM : Mt.readM l = M) (hE : Mt.readE l = E) (n : Nat) (hn : l.length = n) (w : World) (hr : BytesAt w w.heap.size A l) :
    Calls Try.prog 9 #[.slice A n c] w fun e w' => e = .returned (.tuple #[.agg (mtL M).toArray, .int .i64 E]) ∧ Below w.heap.size w w' := by
  subst hM; subst hE; subst hn
  exact metaRead_any A l c w hlc hcm hr
theorem bytesM_yes (m : Mt) (l : List UInt8) (E : Int) (hb : m.bytes = l) (hE : m.err = E) (n : Nat) (hn : l.length = n) (w : World) :
    Calls Try.prog 7 #[.agg (mtL m).toArray] w fun e w' => ∃ A c, e = .returned (.tuple #[.slice A n c, .int .i64 E]) ∧ n ≤ c ∧ OwnB w' w.heap.size (.slice A n c) l ∧ Below w.heap.size w w' := by
  subst hb; subst hE; subst hn
  exact (metaBytes_any m w).mono fun e w' ⟨A, c, h1, h2, h3, h4⟩ => ⟨A, c, h1, h2, h3.own, h4⟩
theorem boxLe {w : World} {m : Mt} {w1 : World} (h : Below (w.heap.size + 1) (w.alloc (.cells (mtL m).toArray 25)) w1) : w.heap.size + 1 ≤ w1.heap.size := by have := h.size; simpa using this
theorem boxGo {w : World} {m : Mt} {w1 w2 : World} (h : Below (w.heap.size + 1) (w.alloc (.cells (mtL m).toArray 25)) w1) (h2 : Below w1.heap.size w1 w2) : Below (w.heap.size + 1) (w.alloc (.cells (mtL m).toArray 25)) w2 := h.trans (h2.mono (by have := h.size; simpa using this))
theorem boxStart {w : World} {m : Mt} {w2 : World} (h2 : Below (w.alloc (.cells (mtL m).toArray 25)).heap.size (w.alloc (.cells (mtL m).toArray 25)) w2) : Below (w.heap.size + 1) (w.alloc (.cells (mtL m).toArray 25)) w2 := by simpa using h2
set_option maxHeartbeats 1000000 in
theorem back_long (m : Mt) (A : Option Addr) (l : List UInt8) (c : Nat) (w : World) (hr : BytesAt w w.heap.size A l) (h100 : (100 : Int) < (l.length : Int)) :
    Calls Try.prog 4 #[.agg (mtL m).toArray, .slice A l.length c] w fun e w' => e = .returned (.bool true) ∧ Below w.heap.size w w' := by
  have zw := fun w => awake_any w
  have S0 := boxM m w
  have _hrX := Lib.hid (fun (w' : World) (B : Below (w.heap.size + 1) (w.alloc (.cells (mtL m).toArray 25)) w') => (hr.step (below_box B) : BytesAt w' w'.heap.size A l))
  go_enter Try.func4, Try.ntmps4
  go_wp2_with (first
    | (go_at_call 20; refine (zw _).mono ?_; (rintro e w1 ⟨rfl, B1⟩; have B := boxStart B1)))
  go_ret
  exact ⟨rfl, below_box B⟩
set_option maxHeartbeats 1000000 in
theorem back_yes_yes (m : Mt) (A : Option Addr) (l : List UInt8) (c : Nat) (w : World) (hlc : l.length ≤ c) (hcm : l.length ≤ 140737488351232) (hr : BytesAt w w.heap.size A l) (h100 : ¬ (100 : Int) < (l.length : Int)) (hm : m.ok = true) (hl : Mt.readE l = 0) :
    Calls Try.prog 4 #[.agg (mtL m).toArray, .slice A l.length c] w fun e w' => e = .returned (.bool true) ∧ Below w.heap.size w w' := by
  have zw := fun w => awake_any w
  have S0 := boxM m w
  have hrX := Lib.hid (fun (w' : World) (B : Below (w.heap.size + 1) (w.alloc (.cells (mtL m).toArray 25)) w') => (hr.step (below_box B) : BytesAt w' w'.heap.size A l))
  have zb := fun w => bytesM_yes m m.enc 0 (by unfold Mt.bytes; rw [if_pos hm]) (Mt.err_ok hm) 26 (Mt.enc_length m) w
  have zc := fun w => check_any m w
  rw [Mt.err_ok hm] at zc
  have zx := fun A c hc w hr => readB_yes A m.enc c (by rw [Mt.enc_length]; exact hc) (by rw [Mt.enc_length]; omega) m 0 (Mt.read_enc m hm).2 (Mt.read_enc m hm).1 26 (Mt.enc_length m) w hr
  obtain ⟨Y, hY⟩ : ∃ Y, Mt.readM l = Y := ⟨_, rfl⟩
  have zl := fun w hr => readB_yes A l c hlc hcm Y 0 hY hl l.length rfl w hr
  have hbr := Mt.bytes_read l hl
  rw [hY] at hbr
  have zy := fun w => bytesM_yes Y l 0 hbr.1 hbr.2 l.length rfl w
  clear hbr hY hl hm hr
  unfold mtL at zb zc zy
  go_enter Try.func4, Try.ntmps4
  go_wp2_with (first
    | (go_at_call 20; refine (zw _).mono ?_; (rintro e w1 ⟨rfl, B1⟩; have B := boxStart B1; obtain ⟨y0, y1, y2, y3, y4, y5⟩ := S0.out w1 B))
    | (go_at_call 7; (with_reducible refine (zb w1).mono ?_); (rintro e w2 ⟨A2, c2, rfl, hc2, o2, B2⟩; have o2 := o2.bytes; have B := boxGo B B2; obtain ⟨y0, y1, y2, y3, y4, y5⟩ := S0.out w2 B))
    | (go_at_call 11; refine (zc w2).mono ?_; (rintro e w3 ⟨rfl, B3⟩; have B := boxGo B B3; have r3 := hrX.out _ B; have o2 := o2.step B3; ))
    | (go_at_call 9; (with_reducible refine (zx A2 c2 hc2 w3 o2).mono ?_); (rintro e w4 ⟨rfl, B4⟩; have B := boxGo B B4; have q4 := boxLe B))
    | ((with_reducible refine atWorld w4 ?_); refine wpList_allocRow (w := w4) metaTy rfl rfl ?_; (intro w5 b5 B5 s5; have b5 := Lib.hid b5; have B := boxGo B B5))
    | ((with_reducible refine atWorld w5 ?_); refine wpList_storeRow (w := w5) metaTy rfl (.tmp 8) (.tmp 35) rfl w4.heap.size (mtL m) (mtL Mt.zero) rfl rfl rfl rfl (mtL_one _) b5.out ?_; (intro w6 b6 B6 s6 k6; obtain ⟨x0, x1, x2, x3, x4, x5⟩ := mt_cells b6; have B := B.trans (B6.mono q4); have r6 := hrX.out _ B; obtain ⟨y0, y1, y2, y3, y4, y5⟩ := S0.out w6 B))
    | (go_at_call 9; (with_reducible refine (zl w6 r6).mono ?_); (rintro e w7 ⟨rfl, B7⟩; have B := boxGo B B7; have q7 := boxLe B))
    | ((with_reducible refine atWorld w7 ?_); refine wpList_allocRow (w := w7) metaTy rfl rfl ?_; (intro w8 b8 B8 s8; have b8 := Lib.hid b8; have B := boxGo B B8))
    | ((with_reducible refine atWorld w8 ?_); refine wpList_storeRow (w := w8) metaTy rfl (.tmp 10) (.tmp 52) rfl w7.heap.size (mtL Y) (mtL Mt.zero) rfl rfl rfl rfl (mtL_one _) b8.out ?_; (intro w9 b9 B9 s9 k9; obtain ⟨x0, x1, x2, x3, x4, x5⟩ := mt_cells b9; have B := B.trans (B9.mono q7); have r9 := hrX.out _ B))
    | (go_at_call 7; (with_reducible refine (zy w9).mono ?_); (rintro e w10 ⟨A10, c10, rfl, hc10, o10, B10⟩; have o10 := o10.bytes; have B := boxGo B B10; have r10 := hrX.out _ B))
    | (go_at_call 13; refine (same_yes A10 l l.length c10 rfl A l l.length c rfl w10 o10 r10 rfl).mono ?_; (rintro e w11 ⟨rfl, rfl⟩)))
  go_ret
  exact ⟨rfl, below_box B⟩
set_option maxHeartbeats 1000000 in
theorem back_yes_no (m : Mt) (A : Option Addr) (l : List UInt8) (c : Nat) (w : World) (hlc : l.length ≤ c) (hcm : l.length ≤ 140737488351232) (hr : BytesAt w w.heap.size A l) (h100 : ¬ (100 : Int) < (l.length : Int)) (hm : m.ok = true) (hl : ¬ Mt.readE l = 0) :
    Calls Try.prog 4 #[.agg (mtL m).toArray, .slice A l.length c] w fun e w' => e = .returned (.bool true) ∧ Below w.heap.size w w' := by
  have zw := fun w => awake_any w
  have S0 := boxM m w
  have hrX := Lib.hid (fun (w' : World) (B : Below (w.heap.size + 1) (w.alloc (.cells (mtL m).toArray 25)) w') => (hr.step (below_box B) : BytesAt w' w'.heap.size A l))
  have zb := fun w => bytesM_yes m m.enc 0 (by unfold Mt.bytes; rw [if_pos hm]) (Mt.err_ok hm) 26 (Mt.enc_length m) w
  have zc := fun w => check_any m w
  rw [Mt.err_ok hm] at zc
  have zx := fun A c hc w hr => readB_yes A m.enc c (by rw [Mt.enc_length]; exact hc) (by rw [Mt.enc_length]; omega) m 0 (Mt.read_enc m hm).2 (Mt.read_enc m hm).1 26 (Mt.enc_length m) w hr
  obtain ⟨Y, hY⟩ : ∃ Y, Mt.readM l = Y := ⟨_, rfl⟩
  obtain ⟨E, hE⟩ : ∃ E, Mt.readE l = E := ⟨_, rfl⟩
  have zl := fun w hr => readB_yes A l c hlc hcm Y E hY hE l.length rfl w hr
  rw [hE] at hl
  have hEn : (E != 0) = true := by simpa using hl
  clear hE hY hl hm hr
  unfold mtL at zb zc
  go_enter Try.func4, Try.ntmps4
  go_wp2_with (first
    | (go_at_call 20; refine (zw _).mono ?_; (rintro e w1 ⟨rfl, B1⟩; have B := boxStart B1; obtain ⟨y0, y1, y2, y3, y4, y5⟩ := S0.out w1 B))
    | (go_at_call 7; (with_reducible refine (zb w1).mono ?_); (rintro e w2 ⟨A2, c2, rfl, hc2, o2, B2⟩; have o2 := o2.bytes; have B := boxGo B B2; obtain ⟨y0, y1, y2, y3, y4, y5⟩ := S0.out w2 B))
    | (go_at_call 11; refine (zc w2).mono ?_; (rintro e w3 ⟨rfl, B3⟩; have B := boxGo B B3; have r3 := hrX.out _ B; have o2 := o2.step B3; ))
    | (go_at_call 9; (with_reducible refine (zx A2 c2 hc2 w3 o2).mono ?_); (rintro e w4 ⟨rfl, B4⟩; have B := boxGo B B4; have q4 := boxLe B))
    | ((with_reducible refine atWorld w4 ?_); refine wpList_allocRow (w := w4) metaTy rfl rfl ?_; (intro w5 b5 B5 s5; have b5 := Lib.hid b5; have B := boxGo B B5))
    | ((with_reducible refine atWorld w5 ?_); refine wpList_storeRow (w := w5) metaTy rfl (.tmp 8) (.tmp 35) rfl w4.heap.size (mtL m) (mtL Mt.zero) rfl rfl rfl rfl (mtL_one _) b5.out ?_; (intro w6 b6 B6 s6 k6; obtain ⟨x0, x1, x2, x3, x4, x5⟩ := mt_cells b6; have B := B.trans (B6.mono q4); have r6 := hrX.out _ B; obtain ⟨y0, y1, y2, y3, y4, y5⟩ := S0.out w6 B))
    | (go_at_call 9; (with_reducible refine (zl w6 r6).mono ?_); (rintro e w7 ⟨rfl, B7⟩; have B := boxGo B B7; have q7 := boxLe B))
    | ((with_reducible refine atWorld w7 ?_); refine wpList_allocRow (w := w7) metaTy rfl rfl ?_; (intro w8 b8 B8 s8; have b8 := Lib.hid b8; have B := boxGo B B8))
    | ((with_reducible refine atWorld w8 ?_); refine wpList_storeRow (w := w8) metaTy rfl (.tmp 10) (.tmp 52) rfl w7.heap.size (mtL Y) (mtL Mt.zero) rfl rfl rfl rfl (mtL_one _) b8.out ?_; (intro w9 b9 B9 s9 k9; obtain ⟨x0, x1, x2, x3, x4, x5⟩ := mt_cells b9; have B := B.trans (B9.mono q7); have r9 := hrX.out _ B)))
  go_ret
  exact ⟨rfl, below_box B⟩
set_option maxHeartbeats 1000000 in
theorem back_no_yes (m : Mt) (A : Option Addr) (l : List UInt8) (c : Nat) (w : World) (hlc : l.length ≤ c) (hcm : l.length ≤ 140737488351232) (hr : BytesAt w w.heap.size A l) (h100 : ¬ (100 : Int) < (l.length : Int)) (hm : m.ok = false) (hl : Mt.readE l = 0) :
    Calls Try.prog 4 #[.agg (mtL m).toArray, .slice A l.length c] w fun e w' => e = .returned (.bool true) ∧ Below w.heap.size w w' := by
  have zw := fun w => awake_any w
  have S0 := boxM m w
  have hrX := Lib.hid (fun (w' : World) (B : Below (w.heap.size + 1) (w.alloc (.cells (mtL m).toArray 25)) w') => (hr.step (below_box B) : BytesAt w' w'.heap.size A l))
  have zb := fun w => bytesM_yes m [] 2 (by unfold Mt.bytes; rw [if_neg (by rw [hm]; decide)]) (Mt.err_no hm) 0 rfl w
  have zc := fun w => check_any m w
  rw [Mt.err_no hm] at zc
  obtain ⟨Y, hY⟩ : ∃ Y, Mt.readM l = Y := ⟨_, rfl⟩
  have zl := fun w hr => readB_yes A l c hlc hcm Y 0 hY hl l.length rfl w hr
  have hbr := Mt.bytes_read l hl
  rw [hY] at hbr
  have zy := fun w => bytesM_yes Y l 0 hbr.1 hbr.2 l.length rfl w
  clear hbr hY hl hm hr
  unfold mtL at zb zc zy
  go_enter Try.func4, Try.ntmps4
  go_wp2_with (first
    | (go_at_call 20; refine (zw _).mono ?_; (rintro e w1 ⟨rfl, B1⟩; have B := boxStart B1; obtain ⟨y0, y1, y2, y3, y4, y5⟩ := S0.out w1 B))
    | (go_at_call 7; (with_reducible refine (zb w1).mono ?_); (rintro e w2 ⟨A2, c2, rfl, hc2, o2, B2⟩; have o2 := o2.bytes; have B := boxGo B B2; obtain ⟨y0, y1, y2, y3, y4, y5⟩ := S0.out w2 B))
    | (go_at_call 11; refine (zc w2).mono ?_; (rintro e w3 ⟨rfl, B3⟩; have B := boxGo B B3; have r3 := hrX.out _ B; ))
    | (go_at_call 9; (with_reducible refine (zl w3 r3).mono ?_); (rintro e w7 ⟨rfl, B7⟩; have B := boxGo B B7; have q7 := boxLe B))
    | ((with_reducible refine atWorld w7 ?_); refine wpList_allocRow (w := w7) metaTy rfl rfl ?_; (intro w8 b8 B8 s8; have b8 := Lib.hid b8; have B := boxGo B B8))
    | ((with_reducible refine atWorld w8 ?_); refine wpList_storeRow (w := w8) metaTy rfl (.tmp 10) (.tmp 52) rfl w7.heap.size (mtL Y) (mtL Mt.zero) rfl rfl rfl rfl (mtL_one _) b8.out ?_; (intro w9 b9 B9 s9 k9; obtain ⟨x0, x1, x2, x3, x4, x5⟩ := mt_cells b9; have B := B.trans (B9.mono q7); have r9 := hrX.out _ B))
    | (go_at_call 7; (with_reducible refine (zy w9).mono ?_); (rintro e w10 ⟨A10, c10, rfl, hc10, o10, B10⟩; have o10 := o10.bytes; have B := boxGo B B10; have r10 := hrX.out _ B))
    | (go_at_call 13; refine (same_yes A10 l l.length c10 rfl A l l.length c rfl w10 o10 r10 rfl).mono ?_; (rintro e w11 ⟨rfl, rfl⟩)))
  go_ret
  exact ⟨rfl, below_box B⟩
set_option maxHeartbeats 1000000 in
theorem back_no_no (m : Mt) (A : Option Addr) (l : List UInt8) (c : Nat) (w : World) (hlc : l.length ≤ c) (hcm : l.length ≤ 140737488351232) (hr : BytesAt w w.heap.size A l) (h100 : ¬ (100 : Int) < (l.length : Int)) (hm : m.ok = false) (hl : ¬ Mt.readE l = 0) :
    Calls Try.prog 4 #[.agg (mtL m).toArray, .slice A l.length c] w fun e w' => e = .returned (.bool true) ∧ Below w.heap.size w w' := by
  have zw := fun w => awake_any w
  have S0 := boxM m w
  have hrX := Lib.hid (fun (w' : World) (B : Below (w.heap.size + 1) (w.alloc (.cells (mtL m).toArray 25)) w') => (hr.step (below_box B) : BytesAt w' w'.heap.size A l))
  have zb := fun w => bytesM_yes m [] 2 (by unfold Mt.bytes; rw [if_neg (by rw [hm]; decide)]) (Mt.err_no hm) 0 rfl w
  have zc := fun w => check_any m w
  rw [Mt.err_no hm] at zc
  obtain ⟨Y, hY⟩ : ∃ Y, Mt.readM l = Y := ⟨_, rfl⟩
  obtain ⟨E, hE⟩ : ∃ E, Mt.readE l = E := ⟨_, rfl⟩
  have zl := fun w hr => readB_yes A l c hlc hcm Y E hY hE l.length rfl w hr
  rw [hE] at hl
  have hEn : (E != 0) = true := by simpa using hl
  clear hE hY hl hm hr
  unfold mtL at zb zc
  go_enter Try.func4, Try.ntmps4
  go_wp2_with (first
    | (go_at_call 20; refine (zw _).mono ?_; (rintro e w1 ⟨rfl, B1⟩; have B := boxStart B1; obtain ⟨y0, y1, y2, y3, y4, y5⟩ := S0.out w1 B))
    | (go_at_call 7; (with_reducible refine (zb w1).mono ?_); (rintro e w2 ⟨A2, c2, rfl, hc2, o2, B2⟩; have o2 := o2.bytes; have B := boxGo B B2; obtain ⟨y0, y1, y2, y3, y4, y5⟩ := S0.out w2 B))
    | (go_at_call 11; refine (zc w2).mono ?_; (rintro e w3 ⟨rfl, B3⟩; have B := boxGo B B3; have r3 := hrX.out _ B; ))
    | (go_at_call 9; (with_reducible refine (zl w3 r3).mono ?_); (rintro e w7 ⟨rfl, B7⟩; have B := boxGo B B7; have q7 := boxLe B))
    | ((with_reducible refine atWorld w7 ?_); refine wpList_allocRow (w := w7) metaTy rfl rfl ?_; (intro w8 b8 B8 s8; have b8 := Lib.hid b8; have B := boxGo B B8))
    | ((with_reducible refine atWorld w8 ?_); refine wpList_storeRow (w := w8) metaTy rfl (.tmp 10) (.tmp 52) rfl w7.heap.size (mtL Y) (mtL Mt.zero) rfl rfl rfl rfl (mtL_one _) b8.out ?_; (intro w9 b9 B9 s9 k9; obtain ⟨x0, x1, x2, x3, x4, x5⟩ := mt_cells b9; have B := B.trans (B9.mono q7); have r9 := hrX.out _ B)))
  go_ret
  exact ⟨rfl, below_box B⟩
theorem back_any (m : Mt) (A : Option Addr) (l : List UInt8) (c : Nat) (w : World) (hlc : l.length ≤ c) (hcm : l.length ≤ 140737488351232) (hr : BytesAt w w.heap.size A l) :
    Calls Try.prog 4 #[.agg (mtL m).toArray, .slice A l.length c] w fun e w' => e = .returned (.bool true) ∧ Below w.heap.size w w' := by
  by_cases h100 : (100 : Int) < (l.length : Int)
  · exact back_long m A l c w hr h100
  · cases hm : m.ok with
    | true =>
      by_cases hl : Mt.readE l = 0
      · exact back_yes_yes m A l c w hlc hcm hr h100 hm hl
      · exact back_yes_no m A l c w hlc hcm hr h100 hm hl
    | false =>
      by_cases hl : Mt.readE l = 0
      · exact back_no_yes m A l c w hlc hcm hr h100 hm hl
      · exact back_no_no m A l c w hlc hcm hr h100 hm hl
end Go.Proofs.Ytebicjblplkdeaa
