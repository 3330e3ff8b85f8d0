/-
  The document's own: Check. Conditions: the bytes can be read.
-/
import Derived.Test.YtfiijnpabmocdaaMgRefB
import Derived.Test.YtfiijnpabmocdaaMgBackKit
import Derived.Laws.Closers25
namespace Go.Proofs.Ytfiijnpabmocdaa
open Go.RowKit Mg

theorem str_empty (S : ByteArray) (l : List UInt8) (h : S.size = l.length) : S.toList.isEmpty = l.isEmpty := by
  rw [← Go.decide_eq_emptyBytes]
  cases l with
  | nil =>
    have e : S = ByteArray.empty := by
      apply ByteArray.ext
      exact Array.eq_empty_of_size_eq_zero h
    rw [decide_eq_true e]; rfl
  | cons a r =>
    have e : S ≠ ByteArray.empty := fun e => by
      rw [e] at h
      simp at h
    rw [decide_eq_false e]; rfl
abbrev rO (m : M) : Obj := .cells #[.int .i64 m.rt, .int .i64 m.rn, .int .i64 m.rs] 23

set_option maxRecDepth 100000 in
set_option maxHeartbeats 4000000 in
theorem chk_0_1_1_1 (m : M) (A : Option Addr) (c : Nat) (w : World) (hr : BytesAt w w.heap.size A m.data) (h0 : (fls m.kind).isEmpty = true) (hd : hasB m.kind 100 = true) :
    Calls Try.prog 9 #[mVal m A c] w fun e w' => e = .returned (.int .i64 2) ∧ Below w.heap.size w w' := by
  obtain ⟨S, hsz, _, _, _, zf⟩ := refFields_str m.kind
  have hS := str_empty S _ hsz
  rw [show ((fls m.kind).map fch).isEmpty = (fls m.kind).isEmpty by simp, h0] at hS
  clear hsz
  have yd : ∀ w, Calls Try.prog 25 #[.int .i64 m.kind, .int .u8 100] w (fun e w' => e = .returned (.bool (hasB m.kind 100)) ∧ w = w') := fun w => refHas_any m.kind 100 w
  rw [hd] at yd
  obtain ⟨⟨a0, a1, a2, a3, a4, a5, a6, a7, a8, a9, a10, a11⟩, _, _, _⟩ := back_at m A c [] none w hr bytes_nil ((w.alloc (mObj m A c)).alloc (rO m)) (step_alloc (Below.refl _ _) _)
  clear hr h0 hd
  go_enter Try.func9, Try.ntmps9
  go_wp2_with (first
    | (go_at_call 21; (with_reducible refine (zf _).mono ?_); (rintro e wf ⟨rfl, rfl⟩))
    | (go_at_call 25; first | ((with_reducible refine (yd _).mono ?_); (rintro e wv ⟨rfl, rfl⟩))))
  go_ret
  exact ⟨rfl, step_alloc (step_alloc (Below.refl _ w) _) _⟩

set_option maxRecDepth 100000 in
set_option maxHeartbeats 4000000 in
theorem chk_0_1_1_0 (m : M) (A : Option Addr) (c : Nat) (w : World) (hr : BytesAt w w.heap.size A m.data) (h0 : (fls m.kind).isEmpty = true) (hd : hasB m.kind 100 = false) :
    Calls Try.prog 9 #[mVal m A c] w fun e w' => e = .returned (.int .i64 2) ∧ Below w.heap.size w w' := by
  obtain ⟨S, hsz, _, _, _, zf⟩ := refFields_str m.kind
  have hS := str_empty S _ hsz
  rw [show ((fls m.kind).map fch).isEmpty = (fls m.kind).isEmpty by simp, h0] at hS
  clear hsz
  have yd : ∀ w, Calls Try.prog 25 #[.int .i64 m.kind, .int .u8 100] w (fun e w' => e = .returned (.bool (hasB m.kind 100)) ∧ w = w') := fun w => refHas_any m.kind 100 w
  rw [hd] at yd
  obtain ⟨⟨a0, a1, a2, a3, a4, a5, a6, a7, a8, a9, a10, a11⟩, _, _, _⟩ := back_at m A c [] none w hr bytes_nil ((w.alloc (mObj m A c)).alloc (rO m)) (step_alloc (Below.refl _ _) _)
  clear hr h0 hd
  go_enter Try.func9, Try.ntmps9
  go_wp2_with (first
    | (go_at_call 21; (with_reducible refine (zf _).mono ?_); (rintro e wf ⟨rfl, rfl⟩))
    | (go_at_call 25; first | ((with_reducible refine (yd _).mono ?_); (rintro e wv ⟨rfl, rfl⟩))))
  go_ret
  exact ⟨rfl, step_alloc (step_alloc (Below.refl _ w) _) _⟩

set_option maxRecDepth 100000 in
set_option maxHeartbeats 4000000 in
theorem chk_1_1_1_1 (m : M) (A : Option Addr) (c : Nat) (w : World) (hr : BytesAt w w.heap.size A m.data) (h0 : (fls m.kind).isEmpty = false) (h1 : m.src < 0) (hd : hasB m.kind 100 = true) :
    Calls Try.prog 9 #[mVal m A c] w fun e w' => e = .returned (.int .i64 2) ∧ Below w.heap.size w w' := by
  obtain ⟨S, hsz, _, _, _, zf⟩ := refFields_str m.kind
  have hS := str_empty S _ hsz
  rw [show ((fls m.kind).map fch).isEmpty = (fls m.kind).isEmpty by simp, h0] at hS
  clear hsz
  have yd : ∀ w, Calls Try.prog 25 #[.int .i64 m.kind, .int .u8 100] w (fun e w' => e = .returned (.bool (hasB m.kind 100)) ∧ w = w') := fun w => refHas_any m.kind 100 w
  rw [hd] at yd
  obtain ⟨⟨a0, a1, a2, a3, a4, a5, a6, a7, a8, a9, a10, a11⟩, _, _, _⟩ := back_at m A c [] none w hr bytes_nil ((w.alloc (mObj m A c)).alloc (rO m)) (step_alloc (Below.refl _ _) _)
  clear hr h0 hd
  go_enter Try.func9, Try.ntmps9
  go_wp2_with (first
    | (go_at_call 21; (with_reducible refine (zf _).mono ?_); (rintro e wf ⟨rfl, rfl⟩))
    | (go_at_call 25; first | ((with_reducible refine (yd _).mono ?_); (rintro e wv ⟨rfl, rfl⟩))))
  go_ret
  exact ⟨rfl, step_alloc (step_alloc (Below.refl _ w) _) _⟩

set_option maxRecDepth 100000 in
set_option maxHeartbeats 4000000 in
theorem chk_1_1_1_0 (m : M) (A : Option Addr) (c : Nat) (w : World) (hr : BytesAt w w.heap.size A m.data) (h0 : (fls m.kind).isEmpty = false) (h1 : m.src < 0) (hd : hasB m.kind 100 = false) :
    Calls Try.prog 9 #[mVal m A c] w fun e w' => e = .returned (.int .i64 2) ∧ Below w.heap.size w w' := by
  obtain ⟨S, hsz, _, _, _, zf⟩ := refFields_str m.kind
  have hS := str_empty S _ hsz
  rw [show ((fls m.kind).map fch).isEmpty = (fls m.kind).isEmpty by simp, h0] at hS
  clear hsz
  have yd : ∀ w, Calls Try.prog 25 #[.int .i64 m.kind, .int .u8 100] w (fun e w' => e = .returned (.bool (hasB m.kind 100)) ∧ w = w') := fun w => refHas_any m.kind 100 w
  rw [hd] at yd
  obtain ⟨⟨a0, a1, a2, a3, a4, a5, a6, a7, a8, a9, a10, a11⟩, _, _, _⟩ := back_at m A c [] none w hr bytes_nil ((w.alloc (mObj m A c)).alloc (rO m)) (step_alloc (Below.refl _ _) _)
  clear hr h0 hd
  go_enter Try.func9, Try.ntmps9
  go_wp2_with (first
    | (go_at_call 21; (with_reducible refine (zf _).mono ?_); (rintro e wf ⟨rfl, rfl⟩))
    | (go_at_call 25; first | ((with_reducible refine (yd _).mono ?_); (rintro e wv ⟨rfl, rfl⟩))))
  go_ret
  exact ⟨rfl, step_alloc (step_alloc (Below.refl _ w) _) _⟩

set_option maxRecDepth 100000 in
set_option maxHeartbeats 4000000 in
theorem chk_2_1_1_1 (m : M) (A : Option Addr) (c : Nat) (w : World) (hr : BytesAt w w.heap.size A m.data) (h0 : (fls m.kind).isEmpty = false) (h1 : 0 ≤ m.src) (h2 : 3 ≤ m.src) (hd : hasB m.kind 100 = true) :
    Calls Try.prog 9 #[mVal m A c] w fun e w' => e = .returned (.int .i64 2) ∧ Below w.heap.size w w' := by
  obtain ⟨S, hsz, _, _, _, zf⟩ := refFields_str m.kind
  have hS := str_empty S _ hsz
  rw [show ((fls m.kind).map fch).isEmpty = (fls m.kind).isEmpty by simp, h0] at hS
  clear hsz
  have yd : ∀ w, Calls Try.prog 25 #[.int .i64 m.kind, .int .u8 100] w (fun e w' => e = .returned (.bool (hasB m.kind 100)) ∧ w = w') := fun w => refHas_any m.kind 100 w
  rw [hd] at yd
  obtain ⟨⟨a0, a1, a2, a3, a4, a5, a6, a7, a8, a9, a10, a11⟩, _, _, _⟩ := back_at m A c [] none w hr bytes_nil ((w.alloc (mObj m A c)).alloc (rO m)) (step_alloc (Below.refl _ _) _)
  clear hr h0 hd
  go_enter Try.func9, Try.ntmps9
  go_wp2_with (first
    | (go_at_call 21; (with_reducible refine (zf _).mono ?_); (rintro e wf ⟨rfl, rfl⟩))
    | (go_at_call 25; first | ((with_reducible refine (yd _).mono ?_); (rintro e wv ⟨rfl, rfl⟩))))
  go_ret
  exact ⟨rfl, step_alloc (step_alloc (Below.refl _ w) _) _⟩

set_option maxRecDepth 100000 in
set_option maxHeartbeats 4000000 in
theorem chk_2_1_1_0 (m : M) (A : Option Addr) (c : Nat) (w : World) (hr : BytesAt w w.heap.size A m.data) (h0 : (fls m.kind).isEmpty = false) (h1 : 0 ≤ m.src) (h2 : 3 ≤ m.src) (hd : hasB m.kind 100 = false) :
    Calls Try.prog 9 #[mVal m A c] w fun e w' => e = .returned (.int .i64 2) ∧ Below w.heap.size w w' := by
  obtain ⟨S, hsz, _, _, _, zf⟩ := refFields_str m.kind
  have hS := str_empty S _ hsz
  rw [show ((fls m.kind).map fch).isEmpty = (fls m.kind).isEmpty by simp, h0] at hS
  clear hsz
  have yd : ∀ w, Calls Try.prog 25 #[.int .i64 m.kind, .int .u8 100] w (fun e w' => e = .returned (.bool (hasB m.kind 100)) ∧ w = w') := fun w => refHas_any m.kind 100 w
  rw [hd] at yd
  obtain ⟨⟨a0, a1, a2, a3, a4, a5, a6, a7, a8, a9, a10, a11⟩, _, _, _⟩ := back_at m A c [] none w hr bytes_nil ((w.alloc (mObj m A c)).alloc (rO m)) (step_alloc (Below.refl _ _) _)
  clear hr h0 hd
  go_enter Try.func9, Try.ntmps9
  go_wp2_with (first
    | (go_at_call 21; (with_reducible refine (zf _).mono ?_); (rintro e wf ⟨rfl, rfl⟩))
    | (go_at_call 25; first | ((with_reducible refine (yd _).mono ?_); (rintro e wv ⟨rfl, rfl⟩))))
  go_ret
  exact ⟨rfl, step_alloc (step_alloc (Below.refl _ w) _) _⟩

set_option maxRecDepth 100000 in
set_option maxHeartbeats 4000000 in
theorem chk_3_1_1_1 (m : M) (A : Option Addr) (c : Nat) (w : World) (hr : BytesAt w w.heap.size A m.data) (h0 : (fls m.kind).isEmpty = false) (h1 : 0 ≤ m.src) (h2 : m.src < 3) (g0 : withinB m.kind 116 m.term 1099511627776 = false) (hd : hasB m.kind 100 = true) :
    Calls Try.prog 9 #[mVal m A c] w fun e w' => e = .returned (.int .i64 2) ∧ Below w.heap.size w w' := by
  obtain ⟨S, hsz, _, _, _, zf⟩ := refFields_str m.kind
  have hS := str_empty S _ hsz
  rw [show ((fls m.kind).map fch).isEmpty = (fls m.kind).isEmpty by simp, h0] at hS
  clear hsz
  have z0 : ∀ w, Calls Try.prog 24 #[.int .i64 m.kind, .int .u8 116, .int .i64 m.term, .int .i64 1099511627776] w (fun e w' => e = .returned (.bool (withinB m.kind 116 m.term 1099511627776)) ∧ w = w') := fun w => refWithin_any m.kind 116 m.term 1099511627776 w
  rw [g0] at z0
  have yd : ∀ w, Calls Try.prog 25 #[.int .i64 m.kind, .int .u8 100] w (fun e w' => e = .returned (.bool (hasB m.kind 100)) ∧ w = w') := fun w => refHas_any m.kind 100 w
  rw [hd] at yd
  obtain ⟨⟨a0, a1, a2, a3, a4, a5, a6, a7, a8, a9, a10, a11⟩, _, _, _⟩ := back_at m A c [] none w hr bytes_nil ((w.alloc (mObj m A c)).alloc (rO m)) (step_alloc (Below.refl _ _) _)
  clear hr h0 g0 hd
  go_enter Try.func9, Try.ntmps9
  go_wp2_with (first
    | (go_at_call 21; (with_reducible refine (zf _).mono ?_); (rintro e wf ⟨rfl, rfl⟩))
    | (go_at_call 24; first | ((with_reducible refine (z0 _).mono ?_); (rintro e wv ⟨rfl, rfl⟩)))
    | (go_at_call 25; first | ((with_reducible refine (yd _).mono ?_); (rintro e wv ⟨rfl, rfl⟩))))
  go_ret
  exact ⟨rfl, step_alloc (step_alloc (Below.refl _ w) _) _⟩

set_option maxRecDepth 100000 in
set_option maxHeartbeats 4000000 in
theorem chk_3_1_1_0 (m : M) (A : Option Addr) (c : Nat) (w : World) (hr : BytesAt w w.heap.size A m.data) (h0 : (fls m.kind).isEmpty = false) (h1 : 0 ≤ m.src) (h2 : m.src < 3) (g0 : withinB m.kind 116 m.term 1099511627776 = false) (hd : hasB m.kind 100 = false) :
    Calls Try.prog 9 #[mVal m A c] w fun e w' => e = .returned (.int .i64 2) ∧ Below w.heap.size w w' := by
  obtain ⟨S, hsz, _, _, _, zf⟩ := refFields_str m.kind
  have hS := str_empty S _ hsz
  rw [show ((fls m.kind).map fch).isEmpty = (fls m.kind).isEmpty by simp, h0] at hS
  clear hsz
  have z0 : ∀ w, Calls Try.prog 24 #[.int .i64 m.kind, .int .u8 116, .int .i64 m.term, .int .i64 1099511627776] w (fun e w' => e = .returned (.bool (withinB m.kind 116 m.term 1099511627776)) ∧ w = w') := fun w => refWithin_any m.kind 116 m.term 1099511627776 w
  rw [g0] at z0
  have yd : ∀ w, Calls Try.prog 25 #[.int .i64 m.kind, .int .u8 100] w (fun e w' => e = .returned (.bool (hasB m.kind 100)) ∧ w = w') := fun w => refHas_any m.kind 100 w
  rw [hd] at yd
  obtain ⟨⟨a0, a1, a2, a3, a4, a5, a6, a7, a8, a9, a10, a11⟩, _, _, _⟩ := back_at m A c [] none w hr bytes_nil ((w.alloc (mObj m A c)).alloc (rO m)) (step_alloc (Below.refl _ _) _)
  clear hr h0 g0 hd
  go_enter Try.func9, Try.ntmps9
  go_wp2_with (first
    | (go_at_call 21; (with_reducible refine (zf _).mono ?_); (rintro e wf ⟨rfl, rfl⟩))
    | (go_at_call 24; first | ((with_reducible refine (z0 _).mono ?_); (rintro e wv ⟨rfl, rfl⟩)))
    | (go_at_call 25; first | ((with_reducible refine (yd _).mono ?_); (rintro e wv ⟨rfl, rfl⟩))))
  go_ret
  exact ⟨rfl, step_alloc (step_alloc (Below.refl _ w) _) _⟩

set_option maxRecDepth 100000 in
set_option maxHeartbeats 4000000 in
theorem chk_4_1_1_1 (m : M) (A : Option Addr) (c : Nat) (w : World) (hr : BytesAt w w.heap.size A m.data) (h0 : (fls m.kind).isEmpty = false) (h1 : 0 ≤ m.src) (h2 : m.src < 3) (g0 : withinB m.kind 116 m.term 1099511627776 = true) (g1 : withinB m.kind 113 m.seq 1099511627776 = false) (hd : hasB m.kind 100 = true) :
    Calls Try.prog 9 #[mVal m A c] w fun e w' => e = .returned (.int .i64 2) ∧ Below w.heap.size w w' := by
  obtain ⟨S, hsz, _, _, _, zf⟩ := refFields_str m.kind
  have hS := str_empty S _ hsz
  rw [show ((fls m.kind).map fch).isEmpty = (fls m.kind).isEmpty by simp, h0] at hS
  clear hsz
  have z0 : ∀ w, Calls Try.prog 24 #[.int .i64 m.kind, .int .u8 116, .int .i64 m.term, .int .i64 1099511627776] w (fun e w' => e = .returned (.bool (withinB m.kind 116 m.term 1099511627776)) ∧ w = w') := fun w => refWithin_any m.kind 116 m.term 1099511627776 w
  rw [g0] at z0
  have z1 : ∀ w, Calls Try.prog 24 #[.int .i64 m.kind, .int .u8 113, .int .i64 m.seq, .int .i64 1099511627776] w (fun e w' => e = .returned (.bool (withinB m.kind 113 m.seq 1099511627776)) ∧ w = w') := fun w => refWithin_any m.kind 113 m.seq 1099511627776 w
  rw [g1] at z1
  have yd : ∀ w, Calls Try.prog 25 #[.int .i64 m.kind, .int .u8 100] w (fun e w' => e = .returned (.bool (hasB m.kind 100)) ∧ w = w') := fun w => refHas_any m.kind 100 w
  rw [hd] at yd
  obtain ⟨⟨a0, a1, a2, a3, a4, a5, a6, a7, a8, a9, a10, a11⟩, _, _, _⟩ := back_at m A c [] none w hr bytes_nil ((w.alloc (mObj m A c)).alloc (rO m)) (step_alloc (Below.refl _ _) _)
  clear hr h0 g0 g1 hd
  go_enter Try.func9, Try.ntmps9
  go_wp2_with (first
    | (go_at_call 21; (with_reducible refine (zf _).mono ?_); (rintro e wf ⟨rfl, rfl⟩))
    | (go_at_call 24; first | ((with_reducible refine (z0 _).mono ?_); (rintro e wv ⟨rfl, rfl⟩)) | ((with_reducible refine (z1 _).mono ?_); (rintro e wv ⟨rfl, rfl⟩)))
    | (go_at_call 25; first | ((with_reducible refine (yd _).mono ?_); (rintro e wv ⟨rfl, rfl⟩))))
  go_ret
  exact ⟨rfl, step_alloc (step_alloc (Below.refl _ w) _) _⟩

set_option maxRecDepth 100000 in
set_option maxHeartbeats 4000000 in
theorem chk_4_1_1_0 (m : M) (A : Option Addr) (c : Nat) (w : World) (hr : BytesAt w w.heap.size A m.data) (h0 : (fls m.kind).isEmpty = false) (h1 : 0 ≤ m.src) (h2 : m.src < 3) (g0 : withinB m.kind 116 m.term 1099511627776 = true) (g1 : withinB m.kind 113 m.seq 1099511627776 = false) (hd : hasB m.kind 100 = false) :
    Calls Try.prog 9 #[mVal m A c] w fun e w' => e = .returned (.int .i64 2) ∧ Below w.heap.size w w' := by
  obtain ⟨S, hsz, _, _, _, zf⟩ := refFields_str m.kind
  have hS := str_empty S _ hsz
  rw [show ((fls m.kind).map fch).isEmpty = (fls m.kind).isEmpty by simp, h0] at hS
  clear hsz
  have z0 : ∀ w, Calls Try.prog 24 #[.int .i64 m.kind, .int .u8 116, .int .i64 m.term, .int .i64 1099511627776] w (fun e w' => e = .returned (.bool (withinB m.kind 116 m.term 1099511627776)) ∧ w = w') := fun w => refWithin_any m.kind 116 m.term 1099511627776 w
  rw [g0] at z0
  have z1 : ∀ w, Calls Try.prog 24 #[.int .i64 m.kind, .int .u8 113, .int .i64 m.seq, .int .i64 1099511627776] w (fun e w' => e = .returned (.bool (withinB m.kind 113 m.seq 1099511627776)) ∧ w = w') := fun w => refWithin_any m.kind 113 m.seq 1099511627776 w
  rw [g1] at z1
  have yd : ∀ w, Calls Try.prog 25 #[.int .i64 m.kind, .int .u8 100] w (fun e w' => e = .returned (.bool (hasB m.kind 100)) ∧ w = w') := fun w => refHas_any m.kind 100 w
  rw [hd] at yd
  obtain ⟨⟨a0, a1, a2, a3, a4, a5, a6, a7, a8, a9, a10, a11⟩, _, _, _⟩ := back_at m A c [] none w hr bytes_nil ((w.alloc (mObj m A c)).alloc (rO m)) (step_alloc (Below.refl _ _) _)
  clear hr h0 g0 g1 hd
  go_enter Try.func9, Try.ntmps9
  go_wp2_with (first
    | (go_at_call 21; (with_reducible refine (zf _).mono ?_); (rintro e wf ⟨rfl, rfl⟩))
    | (go_at_call 24; first | ((with_reducible refine (z0 _).mono ?_); (rintro e wv ⟨rfl, rfl⟩)) | ((with_reducible refine (z1 _).mono ?_); (rintro e wv ⟨rfl, rfl⟩)))
    | (go_at_call 25; first | ((with_reducible refine (yd _).mono ?_); (rintro e wv ⟨rfl, rfl⟩))))
  go_ret
  exact ⟨rfl, step_alloc (step_alloc (Below.refl _ w) _) _⟩

set_option maxRecDepth 100000 in
set_option maxHeartbeats 4000000 in
theorem chk_5_1_1_1 (m : M) (A : Option Addr) (c : Nat) (w : World) (hr : BytesAt w w.heap.size A m.data) (h0 : (fls m.kind).isEmpty = false) (h1 : 0 ≤ m.src) (h2 : m.src < 3) (g0 : withinB m.kind 116 m.term 1099511627776 = true) (g1 : withinB m.kind 113 m.seq 1099511627776 = true) (g2 : withinB m.kind 115 m.stamp 1099511627776 = false) (hd : hasB m.kind 100 = true) :
    Calls Try.prog 9 #[mVal m A c] w fun e w' => e = .returned (.int .i64 2) ∧ Below w.heap.size w w' := by
  obtain ⟨S, hsz, _, _, _, zf⟩ := refFields_str m.kind
  have hS := str_empty S _ hsz
  rw [show ((fls m.kind).map fch).isEmpty = (fls m.kind).isEmpty by simp, h0] at hS
  clear hsz
  have z0 : ∀ w, Calls Try.prog 24 #[.int .i64 m.kind, .int .u8 116, .int .i64 m.term, .int .i64 1099511627776] w (fun e w' => e = .returned (.bool (withinB m.kind 116 m.term 1099511627776)) ∧ w = w') := fun w => refWithin_any m.kind 116 m.term 1099511627776 w
  rw [g0] at z0
  have z1 : ∀ w, Calls Try.prog 24 #[.int .i64 m.kind, .int .u8 113, .int .i64 m.seq, .int .i64 1099511627776] w (fun e w' => e = .returned (.bool (withinB m.kind 113 m.seq 1099511627776)) ∧ w = w') := fun w => refWithin_any m.kind 113 m.seq 1099511627776 w
  rw [g1] at z1
  have z2 : ∀ w, Calls Try.prog 24 #[.int .i64 m.kind, .int .u8 115, .int .i64 m.stamp, .int .i64 1099511627776] w (fun e w' => e = .returned (.bool (withinB m.kind 115 m.stamp 1099511627776)) ∧ w = w') := fun w => refWithin_any m.kind 115 m.stamp 1099511627776 w
  rw [g2] at z2
  have yd : ∀ w, Calls Try.prog 25 #[.int .i64 m.kind, .int .u8 100] w (fun e w' => e = .returned (.bool (hasB m.kind 100)) ∧ w = w') := fun w => refHas_any m.kind 100 w
  rw [hd] at yd
  obtain ⟨⟨a0, a1, a2, a3, a4, a5, a6, a7, a8, a9, a10, a11⟩, _, _, _⟩ := back_at m A c [] none w hr bytes_nil ((w.alloc (mObj m A c)).alloc (rO m)) (step_alloc (Below.refl _ _) _)
  clear hr h0 g0 g1 g2 hd
  go_enter Try.func9, Try.ntmps9
  go_wp2_with (first
    | (go_at_call 21; (with_reducible refine (zf _).mono ?_); (rintro e wf ⟨rfl, rfl⟩))
    | (go_at_call 24; first | ((with_reducible refine (z0 _).mono ?_); (rintro e wv ⟨rfl, rfl⟩)) | ((with_reducible refine (z1 _).mono ?_); (rintro e wv ⟨rfl, rfl⟩)) | ((with_reducible refine (z2 _).mono ?_); (rintro e wv ⟨rfl, rfl⟩)))
    | (go_at_call 25; first | ((with_reducible refine (yd _).mono ?_); (rintro e wv ⟨rfl, rfl⟩))))
  go_ret
  exact ⟨rfl, step_alloc (step_alloc (Below.refl _ w) _) _⟩

set_option maxRecDepth 100000 in
set_option maxHeartbeats 4000000 in
theorem chk_5_1_1_0 (m : M) (A : Option Addr) (c : Nat) (w : World) (hr : BytesAt w w.heap.size A m.data) (h0 : (fls m.kind).isEmpty = false) (h1 : 0 ≤ m.src) (h2 : m.src < 3) (g0 : withinB m.kind 116 m.term 1099511627776 = true) (g1 : withinB m.kind 113 m.seq 1099511627776 = true) (g2 : withinB m.kind 115 m.stamp 1099511627776 = false) (hd : hasB m.kind 100 = false) :
    Calls Try.prog 9 #[mVal m A c] w fun e w' => e = .returned (.int .i64 2) ∧ Below w.heap.size w w' := by
  obtain ⟨S, hsz, _, _, _, zf⟩ := refFields_str m.kind
  have hS := str_empty S _ hsz
  rw [show ((fls m.kind).map fch).isEmpty = (fls m.kind).isEmpty by simp, h0] at hS
  clear hsz
  have z0 : ∀ w, Calls Try.prog 24 #[.int .i64 m.kind, .int .u8 116, .int .i64 m.term, .int .i64 1099511627776] w (fun e w' => e = .returned (.bool (withinB m.kind 116 m.term 1099511627776)) ∧ w = w') := fun w => refWithin_any m.kind 116 m.term 1099511627776 w
  rw [g0] at z0
  have z1 : ∀ w, Calls Try.prog 24 #[.int .i64 m.kind, .int .u8 113, .int .i64 m.seq, .int .i64 1099511627776] w (fun e w' => e = .returned (.bool (withinB m.kind 113 m.seq 1099511627776)) ∧ w = w') := fun w => refWithin_any m.kind 113 m.seq 1099511627776 w
  rw [g1] at z1
  have z2 : ∀ w, Calls Try.prog 24 #[.int .i64 m.kind, .int .u8 115, .int .i64 m.stamp, .int .i64 1099511627776] w (fun e w' => e = .returned (.bool (withinB m.kind 115 m.stamp 1099511627776)) ∧ w = w') := fun w => refWithin_any m.kind 115 m.stamp 1099511627776 w
  rw [g2] at z2
  have yd : ∀ w, Calls Try.prog 25 #[.int .i64 m.kind, .int .u8 100] w (fun e w' => e = .returned (.bool (hasB m.kind 100)) ∧ w = w') := fun w => refHas_any m.kind 100 w
  rw [hd] at yd
  obtain ⟨⟨a0, a1, a2, a3, a4, a5, a6, a7, a8, a9, a10, a11⟩, _, _, _⟩ := back_at m A c [] none w hr bytes_nil ((w.alloc (mObj m A c)).alloc (rO m)) (step_alloc (Below.refl _ _) _)
  clear hr h0 g0 g1 g2 hd
  go_enter Try.func9, Try.ntmps9
  go_wp2_with (first
    | (go_at_call 21; (with_reducible refine (zf _).mono ?_); (rintro e wf ⟨rfl, rfl⟩))
    | (go_at_call 24; first | ((with_reducible refine (z0 _).mono ?_); (rintro e wv ⟨rfl, rfl⟩)) | ((with_reducible refine (z1 _).mono ?_); (rintro e wv ⟨rfl, rfl⟩)) | ((with_reducible refine (z2 _).mono ?_); (rintro e wv ⟨rfl, rfl⟩)))
    | (go_at_call 25; first | ((with_reducible refine (yd _).mono ?_); (rintro e wv ⟨rfl, rfl⟩))))
  go_ret
  exact ⟨rfl, step_alloc (step_alloc (Below.refl _ w) _) _⟩

set_option maxRecDepth 100000 in
set_option maxHeartbeats 4000000 in
theorem chk_6_1_1_1 (m : M) (A : Option Addr) (c : Nat) (w : World) (hr : BytesAt w w.heap.size A m.data) (h0 : (fls m.kind).isEmpty = false) (h1 : 0 ≤ m.src) (h2 : m.src < 3) (g0 : withinB m.kind 116 m.term 1099511627776 = true) (g1 : withinB m.kind 113 m.seq 1099511627776 = true) (g2 : withinB m.kind 115 m.stamp 1099511627776 = true) (g3 : withinB m.kind 107 m.block 63 = false) (hd : hasB m.kind 100 = true) :
    Calls Try.prog 9 #[mVal m A c] w fun e w' => e = .returned (.int .i64 2) ∧ Below w.heap.size w w' := by
  obtain ⟨S, hsz, _, _, _, zf⟩ := refFields_str m.kind
  have hS := str_empty S _ hsz
  rw [show ((fls m.kind).map fch).isEmpty = (fls m.kind).isEmpty by simp, h0] at hS
  clear hsz
  have z0 : ∀ w, Calls Try.prog 24 #[.int .i64 m.kind, .int .u8 116, .int .i64 m.term, .int .i64 1099511627776] w (fun e w' => e = .returned (.bool (withinB m.kind 116 m.term 1099511627776)) ∧ w = w') := fun w => refWithin_any m.kind 116 m.term 1099511627776 w
  rw [g0] at z0
  have z1 : ∀ w, Calls Try.prog 24 #[.int .i64 m.kind, .int .u8 113, .int .i64 m.seq, .int .i64 1099511627776] w (fun e w' => e = .returned (.bool (withinB m.kind 113 m.seq 1099511627776)) ∧ w = w') := fun w => refWithin_any m.kind 113 m.seq 1099511627776 w
  rw [g1] at z1
  have z2 : ∀ w, Calls Try.prog 24 #[.int .i64 m.kind, .int .u8 115, .int .i64 m.stamp, .int .i64 1099511627776] w (fun e w' => e = .returned (.bool (withinB m.kind 115 m.stamp 1099511627776)) ∧ w = w') := fun w => refWithin_any m.kind 115 m.stamp 1099511627776 w
  rw [g2] at z2
  have z3 : ∀ w, Calls Try.prog 24 #[.int .i64 m.kind, .int .u8 107, .int .i64 m.block, .int .i64 63] w (fun e w' => e = .returned (.bool (withinB m.kind 107 m.block 63)) ∧ w = w') := fun w => refWithin_any m.kind 107 m.block 63 w
  rw [g3] at z3
  have yd : ∀ w, Calls Try.prog 25 #[.int .i64 m.kind, .int .u8 100] w (fun e w' => e = .returned (.bool (hasB m.kind 100)) ∧ w = w') := fun w => refHas_any m.kind 100 w
  rw [hd] at yd
  obtain ⟨⟨a0, a1, a2, a3, a4, a5, a6, a7, a8, a9, a10, a11⟩, _, _, _⟩ := back_at m A c [] none w hr bytes_nil ((w.alloc (mObj m A c)).alloc (rO m)) (step_alloc (Below.refl _ _) _)
  clear hr h0 g0 g1 g2 g3 hd
  go_enter Try.func9, Try.ntmps9
  go_wp2_with (first
    | (go_at_call 21; (with_reducible refine (zf _).mono ?_); (rintro e wf ⟨rfl, rfl⟩))
    | (go_at_call 24; first | ((with_reducible refine (z0 _).mono ?_); (rintro e wv ⟨rfl, rfl⟩)) | ((with_reducible refine (z1 _).mono ?_); (rintro e wv ⟨rfl, rfl⟩)) | ((with_reducible refine (z2 _).mono ?_); (rintro e wv ⟨rfl, rfl⟩)) | ((with_reducible refine (z3 _).mono ?_); (rintro e wv ⟨rfl, rfl⟩)))
    | (go_at_call 25; first | ((with_reducible refine (yd _).mono ?_); (rintro e wv ⟨rfl, rfl⟩))))
  go_ret
  exact ⟨rfl, step_alloc (step_alloc (Below.refl _ w) _) _⟩

set_option maxRecDepth 100000 in
set_option maxHeartbeats 4000000 in
theorem chk_6_1_1_0 (m : M) (A : Option Addr) (c : Nat) (w : World) (hr : BytesAt w w.heap.size A m.data) (h0 : (fls m.kind).isEmpty = false) (h1 : 0 ≤ m.src) (h2 : m.src < 3) (g0 : withinB m.kind 116 m.term 1099511627776 = true) (g1 : withinB m.kind 113 m.seq 1099511627776 = true) (g2 : withinB m.kind 115 m.stamp 1099511627776 = true) (g3 : withinB m.kind 107 m.block 63 = false) (hd : hasB m.kind 100 = false) :
    Calls Try.prog 9 #[mVal m A c] w fun e w' => e = .returned (.int .i64 2) ∧ Below w.heap.size w w' := by
  obtain ⟨S, hsz, _, _, _, zf⟩ := refFields_str m.kind
  have hS := str_empty S _ hsz
  rw [show ((fls m.kind).map fch).isEmpty = (fls m.kind).isEmpty by simp, h0] at hS
  clear hsz
  have z0 : ∀ w, Calls Try.prog 24 #[.int .i64 m.kind, .int .u8 116, .int .i64 m.term, .int .i64 1099511627776] w (fun e w' => e = .returned (.bool (withinB m.kind 116 m.term 1099511627776)) ∧ w = w') := fun w => refWithin_any m.kind 116 m.term 1099511627776 w
  rw [g0] at z0
  have z1 : ∀ w, Calls Try.prog 24 #[.int .i64 m.kind, .int .u8 113, .int .i64 m.seq, .int .i64 1099511627776] w (fun e w' => e = .returned (.bool (withinB m.kind 113 m.seq 1099511627776)) ∧ w = w') := fun w => refWithin_any m.kind 113 m.seq 1099511627776 w
  rw [g1] at z1
  have z2 : ∀ w, Calls Try.prog 24 #[.int .i64 m.kind, .int .u8 115, .int .i64 m.stamp, .int .i64 1099511627776] w (fun e w' => e = .returned (.bool (withinB m.kind 115 m.stamp 1099511627776)) ∧ w = w') := fun w => refWithin_any m.kind 115 m.stamp 1099511627776 w
  rw [g2] at z2
  have z3 : ∀ w, Calls Try.prog 24 #[.int .i64 m.kind, .int .u8 107, .int .i64 m.block, .int .i64 63] w (fun e w' => e = .returned (.bool (withinB m.kind 107 m.block 63)) ∧ w = w') := fun w => refWithin_any m.kind 107 m.block 63 w
  rw [g3] at z3
  have yd : ∀ w, Calls Try.prog 25 #[.int .i64 m.kind, .int .u8 100] w (fun e w' => e = .returned (.bool (hasB m.kind 100)) ∧ w = w') := fun w => refHas_any m.kind 100 w
  rw [hd] at yd
  obtain ⟨⟨a0, a1, a2, a3, a4, a5, a6, a7, a8, a9, a10, a11⟩, _, _, _⟩ := back_at m A c [] none w hr bytes_nil ((w.alloc (mObj m A c)).alloc (rO m)) (step_alloc (Below.refl _ _) _)
  clear hr h0 g0 g1 g2 g3 hd
  go_enter Try.func9, Try.ntmps9
  go_wp2_with (first
    | (go_at_call 21; (with_reducible refine (zf _).mono ?_); (rintro e wf ⟨rfl, rfl⟩))
    | (go_at_call 24; first | ((with_reducible refine (z0 _).mono ?_); (rintro e wv ⟨rfl, rfl⟩)) | ((with_reducible refine (z1 _).mono ?_); (rintro e wv ⟨rfl, rfl⟩)) | ((with_reducible refine (z2 _).mono ?_); (rintro e wv ⟨rfl, rfl⟩)) | ((with_reducible refine (z3 _).mono ?_); (rintro e wv ⟨rfl, rfl⟩)))
    | (go_at_call 25; first | ((with_reducible refine (yd _).mono ?_); (rintro e wv ⟨rfl, rfl⟩))))
  go_ret
  exact ⟨rfl, step_alloc (step_alloc (Below.refl _ w) _) _⟩

set_option maxRecDepth 100000 in
set_option maxHeartbeats 4000000 in
theorem chk_7_1_1_1 (m : M) (A : Option Addr) (c : Nat) (w : World) (hr : BytesAt w w.heap.size A m.data) (h0 : (fls m.kind).isEmpty = false) (h1 : 0 ≤ m.src) (h2 : m.src < 3) (g0 : withinB m.kind 116 m.term 1099511627776 = true) (g1 : withinB m.kind 113 m.seq 1099511627776 = true) (g2 : withinB m.kind 115 m.stamp 1099511627776 = true) (g3 : withinB m.kind 107 m.block 63 = true) (g4 : withinB m.kind 114 m.rt 1099511627776 = false) (hd : hasB m.kind 100 = true) :
    Calls Try.prog 9 #[mVal m A c] w fun e w' => e = .returned (.int .i64 2) ∧ Below w.heap.size w w' := by
  obtain ⟨S, hsz, _, _, _, zf⟩ := refFields_str m.kind
  have hS := str_empty S _ hsz
  rw [show ((fls m.kind).map fch).isEmpty = (fls m.kind).isEmpty by simp, h0] at hS
  clear hsz
  have z0 : ∀ w, Calls Try.prog 24 #[.int .i64 m.kind, .int .u8 116, .int .i64 m.term, .int .i64 1099511627776] w (fun e w' => e = .returned (.bool (withinB m.kind 116 m.term 1099511627776)) ∧ w = w') := fun w => refWithin_any m.kind 116 m.term 1099511627776 w
  rw [g0] at z0
  have z1 : ∀ w, Calls Try.prog 24 #[.int .i64 m.kind, .int .u8 113, .int .i64 m.seq, .int .i64 1099511627776] w (fun e w' => e = .returned (.bool (withinB m.kind 113 m.seq 1099511627776)) ∧ w = w') := fun w => refWithin_any m.kind 113 m.seq 1099511627776 w
  rw [g1] at z1
  have z2 : ∀ w, Calls Try.prog 24 #[.int .i64 m.kind, .int .u8 115, .int .i64 m.stamp, .int .i64 1099511627776] w (fun e w' => e = .returned (.bool (withinB m.kind 115 m.stamp 1099511627776)) ∧ w = w') := fun w => refWithin_any m.kind 115 m.stamp 1099511627776 w
  rw [g2] at z2
  have z3 : ∀ w, Calls Try.prog 24 #[.int .i64 m.kind, .int .u8 107, .int .i64 m.block, .int .i64 63] w (fun e w' => e = .returned (.bool (withinB m.kind 107 m.block 63)) ∧ w = w') := fun w => refWithin_any m.kind 107 m.block 63 w
  rw [g3] at z3
  have z4 : ∀ w, Calls Try.prog 24 #[.int .i64 m.kind, .int .u8 114, .int .i64 m.rt, .int .i64 1099511627776] w (fun e w' => e = .returned (.bool (withinB m.kind 114 m.rt 1099511627776)) ∧ w = w') := fun w => refWithin_any m.kind 114 m.rt 1099511627776 w
  rw [g4] at z4
  have yd : ∀ w, Calls Try.prog 25 #[.int .i64 m.kind, .int .u8 100] w (fun e w' => e = .returned (.bool (hasB m.kind 100)) ∧ w = w') := fun w => refHas_any m.kind 100 w
  rw [hd] at yd
  obtain ⟨⟨a0, a1, a2, a3, a4, a5, a6, a7, a8, a9, a10, a11⟩, _, _, _⟩ := back_at m A c [] none w hr bytes_nil ((w.alloc (mObj m A c)).alloc (rO m)) (step_alloc (Below.refl _ _) _)
  clear hr h0 g0 g1 g2 g3 g4 hd
  go_enter Try.func9, Try.ntmps9
  go_wp2_with (first
    | (go_at_call 21; (with_reducible refine (zf _).mono ?_); (rintro e wf ⟨rfl, rfl⟩))
    | (go_at_call 24; first | ((with_reducible refine (z0 _).mono ?_); (rintro e wv ⟨rfl, rfl⟩)) | ((with_reducible refine (z1 _).mono ?_); (rintro e wv ⟨rfl, rfl⟩)) | ((with_reducible refine (z2 _).mono ?_); (rintro e wv ⟨rfl, rfl⟩)) | ((with_reducible refine (z3 _).mono ?_); (rintro e wv ⟨rfl, rfl⟩)) | ((with_reducible refine (z4 _).mono ?_); (rintro e wv ⟨rfl, rfl⟩)))
    | (go_at_call 25; first | ((with_reducible refine (yd _).mono ?_); (rintro e wv ⟨rfl, rfl⟩))))
  go_ret
  exact ⟨rfl, step_alloc (step_alloc (Below.refl _ w) _) _⟩

set_option maxRecDepth 100000 in
set_option maxHeartbeats 4000000 in
theorem chk_7_1_1_0 (m : M) (A : Option Addr) (c : Nat) (w : World) (hr : BytesAt w w.heap.size A m.data) (h0 : (fls m.kind).isEmpty = false) (h1 : 0 ≤ m.src) (h2 : m.src < 3) (g0 : withinB m.kind 116 m.term 1099511627776 = true) (g1 : withinB m.kind 113 m.seq 1099511627776 = true) (g2 : withinB m.kind 115 m.stamp 1099511627776 = true) (g3 : withinB m.kind 107 m.block 63 = true) (g4 : withinB m.kind 114 m.rt 1099511627776 = false) (hd : hasB m.kind 100 = false) :
    Calls Try.prog 9 #[mVal m A c] w fun e w' => e = .returned (.int .i64 2) ∧ Below w.heap.size w w' := by
  obtain ⟨S, hsz, _, _, _, zf⟩ := refFields_str m.kind
  have hS := str_empty S _ hsz
  rw [show ((fls m.kind).map fch).isEmpty = (fls m.kind).isEmpty by simp, h0] at hS
  clear hsz
  have z0 : ∀ w, Calls Try.prog 24 #[.int .i64 m.kind, .int .u8 116, .int .i64 m.term, .int .i64 1099511627776] w (fun e w' => e = .returned (.bool (withinB m.kind 116 m.term 1099511627776)) ∧ w = w') := fun w => refWithin_any m.kind 116 m.term 1099511627776 w
  rw [g0] at z0
  have z1 : ∀ w, Calls Try.prog 24 #[.int .i64 m.kind, .int .u8 113, .int .i64 m.seq, .int .i64 1099511627776] w (fun e w' => e = .returned (.bool (withinB m.kind 113 m.seq 1099511627776)) ∧ w = w') := fun w => refWithin_any m.kind 113 m.seq 1099511627776 w
  rw [g1] at z1
  have z2 : ∀ w, Calls Try.prog 24 #[.int .i64 m.kind, .int .u8 115, .int .i64 m.stamp, .int .i64 1099511627776] w (fun e w' => e = .returned (.bool (withinB m.kind 115 m.stamp 1099511627776)) ∧ w = w') := fun w => refWithin_any m.kind 115 m.stamp 1099511627776 w
  rw [g2] at z2
  have z3 : ∀ w, Calls Try.prog 24 #[.int .i64 m.kind, .int .u8 107, .int .i64 m.block, .int .i64 63] w (fun e w' => e = .returned (.bool (withinB m.kind 107 m.block 63)) ∧ w = w') := fun w => refWithin_any m.kind 107 m.block 63 w
  rw [g3] at z3
  have z4 : ∀ w, Calls Try.prog 24 #[.int .i64 m.kind, .int .u8 114, .int .i64 m.rt, .int .i64 1099511627776] w (fun e w' => e = .returned (.bool (withinB m.kind 114 m.rt 1099511627776)) ∧ w = w') := fun w => refWithin_any m.kind 114 m.rt 1099511627776 w
  rw [g4] at z4
  have yd : ∀ w, Calls Try.prog 25 #[.int .i64 m.kind, .int .u8 100] w (fun e w' => e = .returned (.bool (hasB m.kind 100)) ∧ w = w') := fun w => refHas_any m.kind 100 w
  rw [hd] at yd
  obtain ⟨⟨a0, a1, a2, a3, a4, a5, a6, a7, a8, a9, a10, a11⟩, _, _, _⟩ := back_at m A c [] none w hr bytes_nil ((w.alloc (mObj m A c)).alloc (rO m)) (step_alloc (Below.refl _ _) _)
  clear hr h0 g0 g1 g2 g3 g4 hd
  go_enter Try.func9, Try.ntmps9
  go_wp2_with (first
    | (go_at_call 21; (with_reducible refine (zf _).mono ?_); (rintro e wf ⟨rfl, rfl⟩))
    | (go_at_call 24; first | ((with_reducible refine (z0 _).mono ?_); (rintro e wv ⟨rfl, rfl⟩)) | ((with_reducible refine (z1 _).mono ?_); (rintro e wv ⟨rfl, rfl⟩)) | ((with_reducible refine (z2 _).mono ?_); (rintro e wv ⟨rfl, rfl⟩)) | ((with_reducible refine (z3 _).mono ?_); (rintro e wv ⟨rfl, rfl⟩)) | ((with_reducible refine (z4 _).mono ?_); (rintro e wv ⟨rfl, rfl⟩)))
    | (go_at_call 25; first | ((with_reducible refine (yd _).mono ?_); (rintro e wv ⟨rfl, rfl⟩))))
  go_ret
  exact ⟨rfl, step_alloc (step_alloc (Below.refl _ w) _) _⟩

set_option maxRecDepth 100000 in
set_option maxHeartbeats 4000000 in
theorem chk_8_1_1_1 (m : M) (A : Option Addr) (c : Nat) (w : World) (hr : BytesAt w w.heap.size A m.data) (h0 : (fls m.kind).isEmpty = false) (h1 : 0 ≤ m.src) (h2 : m.src < 3) (g0 : withinB m.kind 116 m.term 1099511627776 = true) (g1 : withinB m.kind 113 m.seq 1099511627776 = true) (g2 : withinB m.kind 115 m.stamp 1099511627776 = true) (g3 : withinB m.kind 107 m.block 63 = true) (g4 : withinB m.kind 114 m.rt 1099511627776 = true) (g5 : withinB m.kind 114 m.rn 1099511627776 = false) (hd : hasB m.kind 100 = true) :
    Calls Try.prog 9 #[mVal m A c] w fun e w' => e = .returned (.int .i64 2) ∧ Below w.heap.size w w' := by
  obtain ⟨S, hsz, _, _, _, zf⟩ := refFields_str m.kind
  have hS := str_empty S _ hsz
  rw [show ((fls m.kind).map fch).isEmpty = (fls m.kind).isEmpty by simp, h0] at hS
  clear hsz
  have z0 : ∀ w, Calls Try.prog 24 #[.int .i64 m.kind, .int .u8 116, .int .i64 m.term, .int .i64 1099511627776] w (fun e w' => e = .returned (.bool (withinB m.kind 116 m.term 1099511627776)) ∧ w = w') := fun w => refWithin_any m.kind 116 m.term 1099511627776 w
  rw [g0] at z0
  have z1 : ∀ w, Calls Try.prog 24 #[.int .i64 m.kind, .int .u8 113, .int .i64 m.seq, .int .i64 1099511627776] w (fun e w' => e = .returned (.bool (withinB m.kind 113 m.seq 1099511627776)) ∧ w = w') := fun w => refWithin_any m.kind 113 m.seq 1099511627776 w
  rw [g1] at z1
  have z2 : ∀ w, Calls Try.prog 24 #[.int .i64 m.kind, .int .u8 115, .int .i64 m.stamp, .int .i64 1099511627776] w (fun e w' => e = .returned (.bool (withinB m.kind 115 m.stamp 1099511627776)) ∧ w = w') := fun w => refWithin_any m.kind 115 m.stamp 1099511627776 w
  rw [g2] at z2
  have z3 : ∀ w, Calls Try.prog 24 #[.int .i64 m.kind, .int .u8 107, .int .i64 m.block, .int .i64 63] w (fun e w' => e = .returned (.bool (withinB m.kind 107 m.block 63)) ∧ w = w') := fun w => refWithin_any m.kind 107 m.block 63 w
  rw [g3] at z3
  have z4 : ∀ w, Calls Try.prog 24 #[.int .i64 m.kind, .int .u8 114, .int .i64 m.rt, .int .i64 1099511627776] w (fun e w' => e = .returned (.bool (withinB m.kind 114 m.rt 1099511627776)) ∧ w = w') := fun w => refWithin_any m.kind 114 m.rt 1099511627776 w
  rw [g4] at z4
  have z5 : ∀ w, Calls Try.prog 24 #[.int .i64 m.kind, .int .u8 114, .int .i64 m.rn, .int .i64 1099511627776] w (fun e w' => e = .returned (.bool (withinB m.kind 114 m.rn 1099511627776)) ∧ w = w') := fun w => refWithin_any m.kind 114 m.rn 1099511627776 w
  rw [g5] at z5
  have yd : ∀ w, Calls Try.prog 25 #[.int .i64 m.kind, .int .u8 100] w (fun e w' => e = .returned (.bool (hasB m.kind 100)) ∧ w = w') := fun w => refHas_any m.kind 100 w
  rw [hd] at yd
  obtain ⟨⟨a0, a1, a2, a3, a4, a5, a6, a7, a8, a9, a10, a11⟩, _, _, _⟩ := back_at m A c [] none w hr bytes_nil ((w.alloc (mObj m A c)).alloc (rO m)) (step_alloc (Below.refl _ _) _)
  clear hr h0 g0 g1 g2 g3 g4 g5 hd
  go_enter Try.func9, Try.ntmps9
  go_wp2_with (first
    | (go_at_call 21; (with_reducible refine (zf _).mono ?_); (rintro e wf ⟨rfl, rfl⟩))
    | (go_at_call 24; first | ((with_reducible refine (z0 _).mono ?_); (rintro e wv ⟨rfl, rfl⟩)) | ((with_reducible refine (z1 _).mono ?_); (rintro e wv ⟨rfl, rfl⟩)) | ((with_reducible refine (z2 _).mono ?_); (rintro e wv ⟨rfl, rfl⟩)) | ((with_reducible refine (z3 _).mono ?_); (rintro e wv ⟨rfl, rfl⟩)) | ((with_reducible refine (z4 _).mono ?_); (rintro e wv ⟨rfl, rfl⟩)) | ((with_reducible refine (z5 _).mono ?_); (rintro e wv ⟨rfl, rfl⟩)))
    | (go_at_call 25; first | ((with_reducible refine (yd _).mono ?_); (rintro e wv ⟨rfl, rfl⟩))))
  go_ret
  exact ⟨rfl, step_alloc (step_alloc (Below.refl _ w) _) _⟩

set_option maxRecDepth 100000 in
set_option maxHeartbeats 4000000 in
theorem chk_8_1_1_0 (m : M) (A : Option Addr) (c : Nat) (w : World) (hr : BytesAt w w.heap.size A m.data) (h0 : (fls m.kind).isEmpty = false) (h1 : 0 ≤ m.src) (h2 : m.src < 3) (g0 : withinB m.kind 116 m.term 1099511627776 = true) (g1 : withinB m.kind 113 m.seq 1099511627776 = true) (g2 : withinB m.kind 115 m.stamp 1099511627776 = true) (g3 : withinB m.kind 107 m.block 63 = true) (g4 : withinB m.kind 114 m.rt 1099511627776 = true) (g5 : withinB m.kind 114 m.rn 1099511627776 = false) (hd : hasB m.kind 100 = false) :
    Calls Try.prog 9 #[mVal m A c] w fun e w' => e = .returned (.int .i64 2) ∧ Below w.heap.size w w' := by
  obtain ⟨S, hsz, _, _, _, zf⟩ := refFields_str m.kind
  have hS := str_empty S _ hsz
  rw [show ((fls m.kind).map fch).isEmpty = (fls m.kind).isEmpty by simp, h0] at hS
  clear hsz
  have z0 : ∀ w, Calls Try.prog 24 #[.int .i64 m.kind, .int .u8 116, .int .i64 m.term, .int .i64 1099511627776] w (fun e w' => e = .returned (.bool (withinB m.kind 116 m.term 1099511627776)) ∧ w = w') := fun w => refWithin_any m.kind 116 m.term 1099511627776 w
  rw [g0] at z0
  have z1 : ∀ w, Calls Try.prog 24 #[.int .i64 m.kind, .int .u8 113, .int .i64 m.seq, .int .i64 1099511627776] w (fun e w' => e = .returned (.bool (withinB m.kind 113 m.seq 1099511627776)) ∧ w = w') := fun w => refWithin_any m.kind 113 m.seq 1099511627776 w
  rw [g1] at z1
  have z2 : ∀ w, Calls Try.prog 24 #[.int .i64 m.kind, .int .u8 115, .int .i64 m.stamp, .int .i64 1099511627776] w (fun e w' => e = .returned (.bool (withinB m.kind 115 m.stamp 1099511627776)) ∧ w = w') := fun w => refWithin_any m.kind 115 m.stamp 1099511627776 w
  rw [g2] at z2
  have z3 : ∀ w, Calls Try.prog 24 #[.int .i64 m.kind, .int .u8 107, .int .i64 m.block, .int .i64 63] w (fun e w' => e = .returned (.bool (withinB m.kind 107 m.block 63)) ∧ w = w') := fun w => refWithin_any m.kind 107 m.block 63 w
  rw [g3] at z3
  have z4 : ∀ w, Calls Try.prog 24 #[.int .i64 m.kind, .int .u8 114, .int .i64 m.rt, .int .i64 1099511627776] w (fun e w' => e = .returned (.bool (withinB m.kind 114 m.rt 1099511627776)) ∧ w = w') := fun w => refWithin_any m.kind 114 m.rt 1099511627776 w
  rw [g4] at z4
  have z5 : ∀ w, Calls Try.prog 24 #[.int .i64 m.kind, .int .u8 114, .int .i64 m.rn, .int .i64 1099511627776] w (fun e w' => e = .returned (.bool (withinB m.kind 114 m.rn 1099511627776)) ∧ w = w') := fun w => refWithin_any m.kind 114 m.rn 1099511627776 w
  rw [g5] at z5
  have yd : ∀ w, Calls Try.prog 25 #[.int .i64 m.kind, .int .u8 100] w (fun e w' => e = .returned (.bool (hasB m.kind 100)) ∧ w = w') := fun w => refHas_any m.kind 100 w
  rw [hd] at yd
  obtain ⟨⟨a0, a1, a2, a3, a4, a5, a6, a7, a8, a9, a10, a11⟩, _, _, _⟩ := back_at m A c [] none w hr bytes_nil ((w.alloc (mObj m A c)).alloc (rO m)) (step_alloc (Below.refl _ _) _)
  clear hr h0 g0 g1 g2 g3 g4 g5 hd
  go_enter Try.func9, Try.ntmps9
  go_wp2_with (first
    | (go_at_call 21; (with_reducible refine (zf _).mono ?_); (rintro e wf ⟨rfl, rfl⟩))
    | (go_at_call 24; first | ((with_reducible refine (z0 _).mono ?_); (rintro e wv ⟨rfl, rfl⟩)) | ((with_reducible refine (z1 _).mono ?_); (rintro e wv ⟨rfl, rfl⟩)) | ((with_reducible refine (z2 _).mono ?_); (rintro e wv ⟨rfl, rfl⟩)) | ((with_reducible refine (z3 _).mono ?_); (rintro e wv ⟨rfl, rfl⟩)) | ((with_reducible refine (z4 _).mono ?_); (rintro e wv ⟨rfl, rfl⟩)) | ((with_reducible refine (z5 _).mono ?_); (rintro e wv ⟨rfl, rfl⟩)))
    | (go_at_call 25; first | ((with_reducible refine (yd _).mono ?_); (rintro e wv ⟨rfl, rfl⟩))))
  go_ret
  exact ⟨rfl, step_alloc (step_alloc (Below.refl _ w) _) _⟩

set_option maxRecDepth 100000 in
set_option maxHeartbeats 4000000 in
theorem chk_9_1_1_1 (m : M) (A : Option Addr) (c : Nat) (w : World) (hr : BytesAt w w.heap.size A m.data) (h0 : (fls m.kind).isEmpty = false) (h1 : 0 ≤ m.src) (h2 : m.src < 3) (g0 : withinB m.kind 116 m.term 1099511627776 = true) (g1 : withinB m.kind 113 m.seq 1099511627776 = true) (g2 : withinB m.kind 115 m.stamp 1099511627776 = true) (g3 : withinB m.kind 107 m.block 63 = true) (g4 : withinB m.kind 114 m.rt 1099511627776 = true) (g5 : withinB m.kind 114 m.rn 1099511627776 = true) (g6 : withinB m.kind 114 m.rs 3 = false) (hd : hasB m.kind 100 = true) :
    Calls Try.prog 9 #[mVal m A c] w fun e w' => e = .returned (.int .i64 2) ∧ Below w.heap.size w w' := by
  obtain ⟨S, hsz, _, _, _, zf⟩ := refFields_str m.kind
  have hS := str_empty S _ hsz
  rw [show ((fls m.kind).map fch).isEmpty = (fls m.kind).isEmpty by simp, h0] at hS
  clear hsz
  have z0 : ∀ w, Calls Try.prog 24 #[.int .i64 m.kind, .int .u8 116, .int .i64 m.term, .int .i64 1099511627776] w (fun e w' => e = .returned (.bool (withinB m.kind 116 m.term 1099511627776)) ∧ w = w') := fun w => refWithin_any m.kind 116 m.term 1099511627776 w
  rw [g0] at z0
  have z1 : ∀ w, Calls Try.prog 24 #[.int .i64 m.kind, .int .u8 113, .int .i64 m.seq, .int .i64 1099511627776] w (fun e w' => e = .returned (.bool (withinB m.kind 113 m.seq 1099511627776)) ∧ w = w') := fun w => refWithin_any m.kind 113 m.seq 1099511627776 w
  rw [g1] at z1
  have z2 : ∀ w, Calls Try.prog 24 #[.int .i64 m.kind, .int .u8 115, .int .i64 m.stamp, .int .i64 1099511627776] w (fun e w' => e = .returned (.bool (withinB m.kind 115 m.stamp 1099511627776)) ∧ w = w') := fun w => refWithin_any m.kind 115 m.stamp 1099511627776 w
  rw [g2] at z2
  have z3 : ∀ w, Calls Try.prog 24 #[.int .i64 m.kind, .int .u8 107, .int .i64 m.block, .int .i64 63] w (fun e w' => e = .returned (.bool (withinB m.kind 107 m.block 63)) ∧ w = w') := fun w => refWithin_any m.kind 107 m.block 63 w
  rw [g3] at z3
  have z4 : ∀ w, Calls Try.prog 24 #[.int .i64 m.kind, .int .u8 114, .int .i64 m.rt, .int .i64 1099511627776] w (fun e w' => e = .returned (.bool (withinB m.kind 114 m.rt 1099511627776)) ∧ w = w') := fun w => refWithin_any m.kind 114 m.rt 1099511627776 w
  rw [g4] at z4
  have z5 : ∀ w, Calls Try.prog 24 #[.int .i64 m.kind, .int .u8 114, .int .i64 m.rn, .int .i64 1099511627776] w (fun e w' => e = .returned (.bool (withinB m.kind 114 m.rn 1099511627776)) ∧ w = w') := fun w => refWithin_any m.kind 114 m.rn 1099511627776 w
  rw [g5] at z5
  have z6 : ∀ w, Calls Try.prog 24 #[.int .i64 m.kind, .int .u8 114, .int .i64 m.rs, .int .i64 3] w (fun e w' => e = .returned (.bool (withinB m.kind 114 m.rs 3)) ∧ w = w') := fun w => refWithin_any m.kind 114 m.rs 3 w
  rw [g6] at z6
  have yd : ∀ w, Calls Try.prog 25 #[.int .i64 m.kind, .int .u8 100] w (fun e w' => e = .returned (.bool (hasB m.kind 100)) ∧ w = w') := fun w => refHas_any m.kind 100 w
  rw [hd] at yd
  obtain ⟨⟨a0, a1, a2, a3, a4, a5, a6, a7, a8, a9, a10, a11⟩, _, _, _⟩ := back_at m A c [] none w hr bytes_nil ((w.alloc (mObj m A c)).alloc (rO m)) (step_alloc (Below.refl _ _) _)
  clear hr h0 g0 g1 g2 g3 g4 g5 g6 hd
  go_enter Try.func9, Try.ntmps9
  go_wp2_with (first
    | (go_at_call 21; (with_reducible refine (zf _).mono ?_); (rintro e wf ⟨rfl, rfl⟩))
    | (go_at_call 24; first | ((with_reducible refine (z0 _).mono ?_); (rintro e wv ⟨rfl, rfl⟩)) | ((with_reducible refine (z1 _).mono ?_); (rintro e wv ⟨rfl, rfl⟩)) | ((with_reducible refine (z2 _).mono ?_); (rintro e wv ⟨rfl, rfl⟩)) | ((with_reducible refine (z3 _).mono ?_); (rintro e wv ⟨rfl, rfl⟩)) | ((with_reducible refine (z4 _).mono ?_); (rintro e wv ⟨rfl, rfl⟩)) | ((with_reducible refine (z5 _).mono ?_); (rintro e wv ⟨rfl, rfl⟩)) | ((with_reducible refine (z6 _).mono ?_); (rintro e wv ⟨rfl, rfl⟩)))
    | (go_at_call 25; first | ((with_reducible refine (yd _).mono ?_); (rintro e wv ⟨rfl, rfl⟩))))
  go_ret
  exact ⟨rfl, step_alloc (step_alloc (Below.refl _ w) _) _⟩

set_option maxRecDepth 100000 in
set_option maxHeartbeats 4000000 in
theorem chk_9_1_1_0 (m : M) (A : Option Addr) (c : Nat) (w : World) (hr : BytesAt w w.heap.size A m.data) (h0 : (fls m.kind).isEmpty = false) (h1 : 0 ≤ m.src) (h2 : m.src < 3) (g0 : withinB m.kind 116 m.term 1099511627776 = true) (g1 : withinB m.kind 113 m.seq 1099511627776 = true) (g2 : withinB m.kind 115 m.stamp 1099511627776 = true) (g3 : withinB m.kind 107 m.block 63 = true) (g4 : withinB m.kind 114 m.rt 1099511627776 = true) (g5 : withinB m.kind 114 m.rn 1099511627776 = true) (g6 : withinB m.kind 114 m.rs 3 = false) (hd : hasB m.kind 100 = false) :
    Calls Try.prog 9 #[mVal m A c] w fun e w' => e = .returned (.int .i64 2) ∧ Below w.heap.size w w' := by
  obtain ⟨S, hsz, _, _, _, zf⟩ := refFields_str m.kind
  have hS := str_empty S _ hsz
  rw [show ((fls m.kind).map fch).isEmpty = (fls m.kind).isEmpty by simp, h0] at hS
  clear hsz
  have z0 : ∀ w, Calls Try.prog 24 #[.int .i64 m.kind, .int .u8 116, .int .i64 m.term, .int .i64 1099511627776] w (fun e w' => e = .returned (.bool (withinB m.kind 116 m.term 1099511627776)) ∧ w = w') := fun w => refWithin_any m.kind 116 m.term 1099511627776 w
  rw [g0] at z0
  have z1 : ∀ w, Calls Try.prog 24 #[.int .i64 m.kind, .int .u8 113, .int .i64 m.seq, .int .i64 1099511627776] w (fun e w' => e = .returned (.bool (withinB m.kind 113 m.seq 1099511627776)) ∧ w = w') := fun w => refWithin_any m.kind 113 m.seq 1099511627776 w
  rw [g1] at z1
  have z2 : ∀ w, Calls Try.prog 24 #[.int .i64 m.kind, .int .u8 115, .int .i64 m.stamp, .int .i64 1099511627776] w (fun e w' => e = .returned (.bool (withinB m.kind 115 m.stamp 1099511627776)) ∧ w = w') := fun w => refWithin_any m.kind 115 m.stamp 1099511627776 w
  rw [g2] at z2
  have z3 : ∀ w, Calls Try.prog 24 #[.int .i64 m.kind, .int .u8 107, .int .i64 m.block, .int .i64 63] w (fun e w' => e = .returned (.bool (withinB m.kind 107 m.block 63)) ∧ w = w') := fun w => refWithin_any m.kind 107 m.block 63 w
  rw [g3] at z3
  have z4 : ∀ w, Calls Try.prog 24 #[.int .i64 m.kind, .int .u8 114, .int .i64 m.rt, .int .i64 1099511627776] w (fun e w' => e = .returned (.bool (withinB m.kind 114 m.rt 1099511627776)) ∧ w = w') := fun w => refWithin_any m.kind 114 m.rt 1099511627776 w
  rw [g4] at z4
  have z5 : ∀ w, Calls Try.prog 24 #[.int .i64 m.kind, .int .u8 114, .int .i64 m.rn, .int .i64 1099511627776] w (fun e w' => e = .returned (.bool (withinB m.kind 114 m.rn 1099511627776)) ∧ w = w') := fun w => refWithin_any m.kind 114 m.rn 1099511627776 w
  rw [g5] at z5
  have z6 : ∀ w, Calls Try.prog 24 #[.int .i64 m.kind, .int .u8 114, .int .i64 m.rs, .int .i64 3] w (fun e w' => e = .returned (.bool (withinB m.kind 114 m.rs 3)) ∧ w = w') := fun w => refWithin_any m.kind 114 m.rs 3 w
  rw [g6] at z6
  have yd : ∀ w, Calls Try.prog 25 #[.int .i64 m.kind, .int .u8 100] w (fun e w' => e = .returned (.bool (hasB m.kind 100)) ∧ w = w') := fun w => refHas_any m.kind 100 w
  rw [hd] at yd
  obtain ⟨⟨a0, a1, a2, a3, a4, a5, a6, a7, a8, a9, a10, a11⟩, _, _, _⟩ := back_at m A c [] none w hr bytes_nil ((w.alloc (mObj m A c)).alloc (rO m)) (step_alloc (Below.refl _ _) _)
  clear hr h0 g0 g1 g2 g3 g4 g5 g6 hd
  go_enter Try.func9, Try.ntmps9
  go_wp2_with (first
    | (go_at_call 21; (with_reducible refine (zf _).mono ?_); (rintro e wf ⟨rfl, rfl⟩))
    | (go_at_call 24; first | ((with_reducible refine (z0 _).mono ?_); (rintro e wv ⟨rfl, rfl⟩)) | ((with_reducible refine (z1 _).mono ?_); (rintro e wv ⟨rfl, rfl⟩)) | ((with_reducible refine (z2 _).mono ?_); (rintro e wv ⟨rfl, rfl⟩)) | ((with_reducible refine (z3 _).mono ?_); (rintro e wv ⟨rfl, rfl⟩)) | ((with_reducible refine (z4 _).mono ?_); (rintro e wv ⟨rfl, rfl⟩)) | ((with_reducible refine (z5 _).mono ?_); (rintro e wv ⟨rfl, rfl⟩)) | ((with_reducible refine (z6 _).mono ?_); (rintro e wv ⟨rfl, rfl⟩)))
    | (go_at_call 25; first | ((with_reducible refine (yd _).mono ?_); (rintro e wv ⟨rfl, rfl⟩))))
  go_ret
  exact ⟨rfl, step_alloc (step_alloc (Below.refl _ w) _) _⟩

set_option maxRecDepth 100000 in
set_option maxHeartbeats 4000000 in
theorem chk_10_0_1_1 (m : M) (A : Option Addr) (c : Nat) (w : World) (hr : BytesAt w w.heap.size A m.data) (h0 : (fls m.kind).isEmpty = false) (h1 : 0 ≤ m.src) (h2 : m.src < 3) (g0 : withinB m.kind 116 m.term 1099511627776 = true) (g1 : withinB m.kind 113 m.seq 1099511627776 = true) (g2 : withinB m.kind 115 m.stamp 1099511627776 = true) (g3 : withinB m.kind 107 m.block 63 = true) (g4 : withinB m.kind 114 m.rt 1099511627776 = true) (g5 : withinB m.kind 114 m.rn 1099511627776 = true) (g6 : withinB m.kind 114 m.rs 3 = true) (ho : hasB m.kind 111 = false) (hok : m.ok = true) (hd : hasB m.kind 100 = true) :
    Calls Try.prog 9 #[mVal m A c] w fun e w' => e = .returned (.int .i64 2) ∧ Below w.heap.size w w' := by
  obtain ⟨S, hsz, _, _, _, zf⟩ := refFields_str m.kind
  have hS := str_empty S _ hsz
  rw [show ((fls m.kind).map fch).isEmpty = (fls m.kind).isEmpty by simp, h0] at hS
  clear hsz
  have z0 : ∀ w, Calls Try.prog 24 #[.int .i64 m.kind, .int .u8 116, .int .i64 m.term, .int .i64 1099511627776] w (fun e w' => e = .returned (.bool (withinB m.kind 116 m.term 1099511627776)) ∧ w = w') := fun w => refWithin_any m.kind 116 m.term 1099511627776 w
  rw [g0] at z0
  have z1 : ∀ w, Calls Try.prog 24 #[.int .i64 m.kind, .int .u8 113, .int .i64 m.seq, .int .i64 1099511627776] w (fun e w' => e = .returned (.bool (withinB m.kind 113 m.seq 1099511627776)) ∧ w = w') := fun w => refWithin_any m.kind 113 m.seq 1099511627776 w
  rw [g1] at z1
  have z2 : ∀ w, Calls Try.prog 24 #[.int .i64 m.kind, .int .u8 115, .int .i64 m.stamp, .int .i64 1099511627776] w (fun e w' => e = .returned (.bool (withinB m.kind 115 m.stamp 1099511627776)) ∧ w = w') := fun w => refWithin_any m.kind 115 m.stamp 1099511627776 w
  rw [g2] at z2
  have z3 : ∀ w, Calls Try.prog 24 #[.int .i64 m.kind, .int .u8 107, .int .i64 m.block, .int .i64 63] w (fun e w' => e = .returned (.bool (withinB m.kind 107 m.block 63)) ∧ w = w') := fun w => refWithin_any m.kind 107 m.block 63 w
  rw [g3] at z3
  have z4 : ∀ w, Calls Try.prog 24 #[.int .i64 m.kind, .int .u8 114, .int .i64 m.rt, .int .i64 1099511627776] w (fun e w' => e = .returned (.bool (withinB m.kind 114 m.rt 1099511627776)) ∧ w = w') := fun w => refWithin_any m.kind 114 m.rt 1099511627776 w
  rw [g4] at z4
  have z5 : ∀ w, Calls Try.prog 24 #[.int .i64 m.kind, .int .u8 114, .int .i64 m.rn, .int .i64 1099511627776] w (fun e w' => e = .returned (.bool (withinB m.kind 114 m.rn 1099511627776)) ∧ w = w') := fun w => refWithin_any m.kind 114 m.rn 1099511627776 w
  rw [g5] at z5
  have z6 : ∀ w, Calls Try.prog 24 #[.int .i64 m.kind, .int .u8 114, .int .i64 m.rs, .int .i64 3] w (fun e w' => e = .returned (.bool (withinB m.kind 114 m.rs 3)) ∧ w = w') := fun w => refWithin_any m.kind 114 m.rs 3 w
  rw [g6] at z6
  have yd : ∀ w, Calls Try.prog 25 #[.int .i64 m.kind, .int .u8 100] w (fun e w' => e = .returned (.bool (hasB m.kind 100)) ∧ w = w') := fun w => refHas_any m.kind 100 w
  rw [hd] at yd
  have yo : ∀ w, Calls Try.prog 25 #[.int .i64 m.kind, .int .u8 111] w (fun e w' => e = .returned (.bool (hasB m.kind 111)) ∧ w = w') := fun w => refHas_any m.kind 111 w
  rw [ho] at yo
  obtain ⟨⟨a0, a1, a2, a3, a4, a5, a6, a7, a8, a9, a10, a11⟩, _, _, _⟩ := back_at m A c [] none w hr bytes_nil ((w.alloc (mObj m A c)).alloc (rO m)) (step_alloc (Below.refl _ _) _)
  rw [hok] at a6
  clear hr h0 g0 g1 g2 g3 g4 g5 g6 ho hd
  go_enter Try.func9, Try.ntmps9
  go_wp2_with (first
    | (go_at_call 21; (with_reducible refine (zf _).mono ?_); (rintro e wf ⟨rfl, rfl⟩))
    | (go_at_call 24; first | ((with_reducible refine (z0 _).mono ?_); (rintro e wv ⟨rfl, rfl⟩)) | ((with_reducible refine (z1 _).mono ?_); (rintro e wv ⟨rfl, rfl⟩)) | ((with_reducible refine (z2 _).mono ?_); (rintro e wv ⟨rfl, rfl⟩)) | ((with_reducible refine (z3 _).mono ?_); (rintro e wv ⟨rfl, rfl⟩)) | ((with_reducible refine (z4 _).mono ?_); (rintro e wv ⟨rfl, rfl⟩)) | ((with_reducible refine (z5 _).mono ?_); (rintro e wv ⟨rfl, rfl⟩)) | ((with_reducible refine (z6 _).mono ?_); (rintro e wv ⟨rfl, rfl⟩)))
    | (go_at_call 25; first | ((with_reducible refine (yd _).mono ?_); (rintro e wv ⟨rfl, rfl⟩)) | ((with_reducible refine (yo _).mono ?_); (rintro e wv ⟨rfl, rfl⟩))))
  go_ret
  exact ⟨rfl, step_alloc (step_alloc (Below.refl _ w) _) _⟩

set_option maxRecDepth 100000 in
set_option maxHeartbeats 4000000 in
theorem chk_10_0_1_0 (m : M) (A : Option Addr) (c : Nat) (w : World) (hr : BytesAt w w.heap.size A m.data) (h0 : (fls m.kind).isEmpty = false) (h1 : 0 ≤ m.src) (h2 : m.src < 3) (g0 : withinB m.kind 116 m.term 1099511627776 = true) (g1 : withinB m.kind 113 m.seq 1099511627776 = true) (g2 : withinB m.kind 115 m.stamp 1099511627776 = true) (g3 : withinB m.kind 107 m.block 63 = true) (g4 : withinB m.kind 114 m.rt 1099511627776 = true) (g5 : withinB m.kind 114 m.rn 1099511627776 = true) (g6 : withinB m.kind 114 m.rs 3 = true) (ho : hasB m.kind 111 = false) (hok : m.ok = true) (hd : hasB m.kind 100 = false) :
    Calls Try.prog 9 #[mVal m A c] w fun e w' => e = .returned (.int .i64 2) ∧ Below w.heap.size w w' := by
  obtain ⟨S, hsz, _, _, _, zf⟩ := refFields_str m.kind
  have hS := str_empty S _ hsz
  rw [show ((fls m.kind).map fch).isEmpty = (fls m.kind).isEmpty by simp, h0] at hS
  clear hsz
  have z0 : ∀ w, Calls Try.prog 24 #[.int .i64 m.kind, .int .u8 116, .int .i64 m.term, .int .i64 1099511627776] w (fun e w' => e = .returned (.bool (withinB m.kind 116 m.term 1099511627776)) ∧ w = w') := fun w => refWithin_any m.kind 116 m.term 1099511627776 w
  rw [g0] at z0
  have z1 : ∀ w, Calls Try.prog 24 #[.int .i64 m.kind, .int .u8 113, .int .i64 m.seq, .int .i64 1099511627776] w (fun e w' => e = .returned (.bool (withinB m.kind 113 m.seq 1099511627776)) ∧ w = w') := fun w => refWithin_any m.kind 113 m.seq 1099511627776 w
  rw [g1] at z1
  have z2 : ∀ w, Calls Try.prog 24 #[.int .i64 m.kind, .int .u8 115, .int .i64 m.stamp, .int .i64 1099511627776] w (fun e w' => e = .returned (.bool (withinB m.kind 115 m.stamp 1099511627776)) ∧ w = w') := fun w => refWithin_any m.kind 115 m.stamp 1099511627776 w
  rw [g2] at z2
  have z3 : ∀ w, Calls Try.prog 24 #[.int .i64 m.kind, .int .u8 107, .int .i64 m.block, .int .i64 63] w (fun e w' => e = .returned (.bool (withinB m.kind 107 m.block 63)) ∧ w = w') := fun w => refWithin_any m.kind 107 m.block 63 w
  rw [g3] at z3
  have z4 : ∀ w, Calls Try.prog 24 #[.int .i64 m.kind, .int .u8 114, .int .i64 m.rt, .int .i64 1099511627776] w (fun e w' => e = .returned (.bool (withinB m.kind 114 m.rt 1099511627776)) ∧ w = w') := fun w => refWithin_any m.kind 114 m.rt 1099511627776 w
  rw [g4] at z4
  have z5 : ∀ w, Calls Try.prog 24 #[.int .i64 m.kind, .int .u8 114, .int .i64 m.rn, .int .i64 1099511627776] w (fun e w' => e = .returned (.bool (withinB m.kind 114 m.rn 1099511627776)) ∧ w = w') := fun w => refWithin_any m.kind 114 m.rn 1099511627776 w
  rw [g5] at z5
  have z6 : ∀ w, Calls Try.prog 24 #[.int .i64 m.kind, .int .u8 114, .int .i64 m.rs, .int .i64 3] w (fun e w' => e = .returned (.bool (withinB m.kind 114 m.rs 3)) ∧ w = w') := fun w => refWithin_any m.kind 114 m.rs 3 w
  rw [g6] at z6
  have yd : ∀ w, Calls Try.prog 25 #[.int .i64 m.kind, .int .u8 100] w (fun e w' => e = .returned (.bool (hasB m.kind 100)) ∧ w = w') := fun w => refHas_any m.kind 100 w
  rw [hd] at yd
  have yo : ∀ w, Calls Try.prog 25 #[.int .i64 m.kind, .int .u8 111] w (fun e w' => e = .returned (.bool (hasB m.kind 111)) ∧ w = w') := fun w => refHas_any m.kind 111 w
  rw [ho] at yo
  obtain ⟨⟨a0, a1, a2, a3, a4, a5, a6, a7, a8, a9, a10, a11⟩, _, _, _⟩ := back_at m A c [] none w hr bytes_nil ((w.alloc (mObj m A c)).alloc (rO m)) (step_alloc (Below.refl _ _) _)
  rw [hok] at a6
  clear hr h0 g0 g1 g2 g3 g4 g5 g6 ho hd
  go_enter Try.func9, Try.ntmps9
  go_wp2_with (first
    | (go_at_call 21; (with_reducible refine (zf _).mono ?_); (rintro e wf ⟨rfl, rfl⟩))
    | (go_at_call 24; first | ((with_reducible refine (z0 _).mono ?_); (rintro e wv ⟨rfl, rfl⟩)) | ((with_reducible refine (z1 _).mono ?_); (rintro e wv ⟨rfl, rfl⟩)) | ((with_reducible refine (z2 _).mono ?_); (rintro e wv ⟨rfl, rfl⟩)) | ((with_reducible refine (z3 _).mono ?_); (rintro e wv ⟨rfl, rfl⟩)) | ((with_reducible refine (z4 _).mono ?_); (rintro e wv ⟨rfl, rfl⟩)) | ((with_reducible refine (z5 _).mono ?_); (rintro e wv ⟨rfl, rfl⟩)) | ((with_reducible refine (z6 _).mono ?_); (rintro e wv ⟨rfl, rfl⟩)))
    | (go_at_call 25; first | ((with_reducible refine (yd _).mono ?_); (rintro e wv ⟨rfl, rfl⟩)) | ((with_reducible refine (yo _).mono ?_); (rintro e wv ⟨rfl, rfl⟩))))
  go_ret
  exact ⟨rfl, step_alloc (step_alloc (Below.refl _ w) _) _⟩

set_option maxRecDepth 100000 in
set_option maxHeartbeats 4000000 in
theorem chk_11_1_0_1 (m : M) (A : Option Addr) (c : Nat) (w : World) (hr : BytesAt w w.heap.size A m.data) (h0 : (fls m.kind).isEmpty = false) (h1 : 0 ≤ m.src) (h2 : m.src < 3) (g0 : withinB m.kind 116 m.term 1099511627776 = true) (g1 : withinB m.kind 113 m.seq 1099511627776 = true) (g2 : withinB m.kind 115 m.stamp 1099511627776 = true) (g3 : withinB m.kind 107 m.block 63 = true) (g4 : withinB m.kind 114 m.rt 1099511627776 = true) (g5 : withinB m.kind 114 m.rn 1099511627776 = true) (g6 : withinB m.kind 114 m.rs 3 = true) (ho : hasB m.kind 111 = true) (hb : hasB m.kind 98 = false) (hbz : ((m.bits : Int) == 0) = false) (hd : hasB m.kind 100 = true) :
    Calls Try.prog 9 #[mVal m A c] w fun e w' => e = .returned (.int .i64 2) ∧ Below w.heap.size w w' := by
  obtain ⟨S, hsz, _, _, _, zf⟩ := refFields_str m.kind
  have hS := str_empty S _ hsz
  rw [show ((fls m.kind).map fch).isEmpty = (fls m.kind).isEmpty by simp, h0] at hS
  clear hsz
  have z0 : ∀ w, Calls Try.prog 24 #[.int .i64 m.kind, .int .u8 116, .int .i64 m.term, .int .i64 1099511627776] w (fun e w' => e = .returned (.bool (withinB m.kind 116 m.term 1099511627776)) ∧ w = w') := fun w => refWithin_any m.kind 116 m.term 1099511627776 w
  rw [g0] at z0
  have z1 : ∀ w, Calls Try.prog 24 #[.int .i64 m.kind, .int .u8 113, .int .i64 m.seq, .int .i64 1099511627776] w (fun e w' => e = .returned (.bool (withinB m.kind 113 m.seq 1099511627776)) ∧ w = w') := fun w => refWithin_any m.kind 113 m.seq 1099511627776 w
  rw [g1] at z1
  have z2 : ∀ w, Calls Try.prog 24 #[.int .i64 m.kind, .int .u8 115, .int .i64 m.stamp, .int .i64 1099511627776] w (fun e w' => e = .returned (.bool (withinB m.kind 115 m.stamp 1099511627776)) ∧ w = w') := fun w => refWithin_any m.kind 115 m.stamp 1099511627776 w
  rw [g2] at z2
  have z3 : ∀ w, Calls Try.prog 24 #[.int .i64 m.kind, .int .u8 107, .int .i64 m.block, .int .i64 63] w (fun e w' => e = .returned (.bool (withinB m.kind 107 m.block 63)) ∧ w = w') := fun w => refWithin_any m.kind 107 m.block 63 w
  rw [g3] at z3
  have z4 : ∀ w, Calls Try.prog 24 #[.int .i64 m.kind, .int .u8 114, .int .i64 m.rt, .int .i64 1099511627776] w (fun e w' => e = .returned (.bool (withinB m.kind 114 m.rt 1099511627776)) ∧ w = w') := fun w => refWithin_any m.kind 114 m.rt 1099511627776 w
  rw [g4] at z4
  have z5 : ∀ w, Calls Try.prog 24 #[.int .i64 m.kind, .int .u8 114, .int .i64 m.rn, .int .i64 1099511627776] w (fun e w' => e = .returned (.bool (withinB m.kind 114 m.rn 1099511627776)) ∧ w = w') := fun w => refWithin_any m.kind 114 m.rn 1099511627776 w
  rw [g5] at z5
  have z6 : ∀ w, Calls Try.prog 24 #[.int .i64 m.kind, .int .u8 114, .int .i64 m.rs, .int .i64 3] w (fun e w' => e = .returned (.bool (withinB m.kind 114 m.rs 3)) ∧ w = w') := fun w => refWithin_any m.kind 114 m.rs 3 w
  rw [g6] at z6
  have yd : ∀ w, Calls Try.prog 25 #[.int .i64 m.kind, .int .u8 100] w (fun e w' => e = .returned (.bool (hasB m.kind 100)) ∧ w = w') := fun w => refHas_any m.kind 100 w
  rw [hd] at yd
  have yo : ∀ w, Calls Try.prog 25 #[.int .i64 m.kind, .int .u8 111] w (fun e w' => e = .returned (.bool (hasB m.kind 111)) ∧ w = w') := fun w => refHas_any m.kind 111 w
  rw [ho] at yo
  have yb : ∀ w, Calls Try.prog 25 #[.int .i64 m.kind, .int .u8 98] w (fun e w' => e = .returned (.bool (hasB m.kind 98)) ∧ w = w') := fun w => refHas_any m.kind 98 w
  rw [hb] at yb
  obtain ⟨⟨a0, a1, a2, a3, a4, a5, a6, a7, a8, a9, a10, a11⟩, _, _, _⟩ := back_at m A c [] none w hr bytes_nil ((w.alloc (mObj m A c)).alloc (rO m)) (step_alloc (Below.refl _ _) _)
  clear hr h0 g0 g1 g2 g3 g4 g5 g6 ho hb hd
  go_enter Try.func9, Try.ntmps9
  go_wp2_with (first
    | (go_at_call 21; (with_reducible refine (zf _).mono ?_); (rintro e wf ⟨rfl, rfl⟩))
    | (go_at_call 24; first | ((with_reducible refine (z0 _).mono ?_); (rintro e wv ⟨rfl, rfl⟩)) | ((with_reducible refine (z1 _).mono ?_); (rintro e wv ⟨rfl, rfl⟩)) | ((with_reducible refine (z2 _).mono ?_); (rintro e wv ⟨rfl, rfl⟩)) | ((with_reducible refine (z3 _).mono ?_); (rintro e wv ⟨rfl, rfl⟩)) | ((with_reducible refine (z4 _).mono ?_); (rintro e wv ⟨rfl, rfl⟩)) | ((with_reducible refine (z5 _).mono ?_); (rintro e wv ⟨rfl, rfl⟩)) | ((with_reducible refine (z6 _).mono ?_); (rintro e wv ⟨rfl, rfl⟩)))
    | (go_at_call 25; first | ((with_reducible refine (yd _).mono ?_); (rintro e wv ⟨rfl, rfl⟩)) | ((with_reducible refine (yo _).mono ?_); (rintro e wv ⟨rfl, rfl⟩)) | ((with_reducible refine (yb _).mono ?_); (rintro e wv ⟨rfl, rfl⟩))))
  go_ret
  exact ⟨rfl, step_alloc (step_alloc (Below.refl _ w) _) _⟩

set_option maxRecDepth 100000 in
set_option maxHeartbeats 4000000 in
theorem chk_11_1_0_0 (m : M) (A : Option Addr) (c : Nat) (w : World) (hr : BytesAt w w.heap.size A m.data) (h0 : (fls m.kind).isEmpty = false) (h1 : 0 ≤ m.src) (h2 : m.src < 3) (g0 : withinB m.kind 116 m.term 1099511627776 = true) (g1 : withinB m.kind 113 m.seq 1099511627776 = true) (g2 : withinB m.kind 115 m.stamp 1099511627776 = true) (g3 : withinB m.kind 107 m.block 63 = true) (g4 : withinB m.kind 114 m.rt 1099511627776 = true) (g5 : withinB m.kind 114 m.rn 1099511627776 = true) (g6 : withinB m.kind 114 m.rs 3 = true) (ho : hasB m.kind 111 = true) (hb : hasB m.kind 98 = false) (hbz : ((m.bits : Int) == 0) = false) (hd : hasB m.kind 100 = false) :
    Calls Try.prog 9 #[mVal m A c] w fun e w' => e = .returned (.int .i64 2) ∧ Below w.heap.size w w' := by
  obtain ⟨S, hsz, _, _, _, zf⟩ := refFields_str m.kind
  have hS := str_empty S _ hsz
  rw [show ((fls m.kind).map fch).isEmpty = (fls m.kind).isEmpty by simp, h0] at hS
  clear hsz
  have z0 : ∀ w, Calls Try.prog 24 #[.int .i64 m.kind, .int .u8 116, .int .i64 m.term, .int .i64 1099511627776] w (fun e w' => e = .returned (.bool (withinB m.kind 116 m.term 1099511627776)) ∧ w = w') := fun w => refWithin_any m.kind 116 m.term 1099511627776 w
  rw [g0] at z0
  have z1 : ∀ w, Calls Try.prog 24 #[.int .i64 m.kind, .int .u8 113, .int .i64 m.seq, .int .i64 1099511627776] w (fun e w' => e = .returned (.bool (withinB m.kind 113 m.seq 1099511627776)) ∧ w = w') := fun w => refWithin_any m.kind 113 m.seq 1099511627776 w
  rw [g1] at z1
  have z2 : ∀ w, Calls Try.prog 24 #[.int .i64 m.kind, .int .u8 115, .int .i64 m.stamp, .int .i64 1099511627776] w (fun e w' => e = .returned (.bool (withinB m.kind 115 m.stamp 1099511627776)) ∧ w = w') := fun w => refWithin_any m.kind 115 m.stamp 1099511627776 w
  rw [g2] at z2
  have z3 : ∀ w, Calls Try.prog 24 #[.int .i64 m.kind, .int .u8 107, .int .i64 m.block, .int .i64 63] w (fun e w' => e = .returned (.bool (withinB m.kind 107 m.block 63)) ∧ w = w') := fun w => refWithin_any m.kind 107 m.block 63 w
  rw [g3] at z3
  have z4 : ∀ w, Calls Try.prog 24 #[.int .i64 m.kind, .int .u8 114, .int .i64 m.rt, .int .i64 1099511627776] w (fun e w' => e = .returned (.bool (withinB m.kind 114 m.rt 1099511627776)) ∧ w = w') := fun w => refWithin_any m.kind 114 m.rt 1099511627776 w
  rw [g4] at z4
  have z5 : ∀ w, Calls Try.prog 24 #[.int .i64 m.kind, .int .u8 114, .int .i64 m.rn, .int .i64 1099511627776] w (fun e w' => e = .returned (.bool (withinB m.kind 114 m.rn 1099511627776)) ∧ w = w') := fun w => refWithin_any m.kind 114 m.rn 1099511627776 w
  rw [g5] at z5
  have z6 : ∀ w, Calls Try.prog 24 #[.int .i64 m.kind, .int .u8 114, .int .i64 m.rs, .int .i64 3] w (fun e w' => e = .returned (.bool (withinB m.kind 114 m.rs 3)) ∧ w = w') := fun w => refWithin_any m.kind 114 m.rs 3 w
  rw [g6] at z6
  have yd : ∀ w, Calls Try.prog 25 #[.int .i64 m.kind, .int .u8 100] w (fun e w' => e = .returned (.bool (hasB m.kind 100)) ∧ w = w') := fun w => refHas_any m.kind 100 w
  rw [hd] at yd
  have yo : ∀ w, Calls Try.prog 25 #[.int .i64 m.kind, .int .u8 111] w (fun e w' => e = .returned (.bool (hasB m.kind 111)) ∧ w = w') := fun w => refHas_any m.kind 111 w
  rw [ho] at yo
  have yb : ∀ w, Calls Try.prog 25 #[.int .i64 m.kind, .int .u8 98] w (fun e w' => e = .returned (.bool (hasB m.kind 98)) ∧ w = w') := fun w => refHas_any m.kind 98 w
  rw [hb] at yb
  obtain ⟨⟨a0, a1, a2, a3, a4, a5, a6, a7, a8, a9, a10, a11⟩, _, _, _⟩ := back_at m A c [] none w hr bytes_nil ((w.alloc (mObj m A c)).alloc (rO m)) (step_alloc (Below.refl _ _) _)
  clear hr h0 g0 g1 g2 g3 g4 g5 g6 ho hb hd
  go_enter Try.func9, Try.ntmps9
  go_wp2_with (first
    | (go_at_call 21; (with_reducible refine (zf _).mono ?_); (rintro e wf ⟨rfl, rfl⟩))
    | (go_at_call 24; first | ((with_reducible refine (z0 _).mono ?_); (rintro e wv ⟨rfl, rfl⟩)) | ((with_reducible refine (z1 _).mono ?_); (rintro e wv ⟨rfl, rfl⟩)) | ((with_reducible refine (z2 _).mono ?_); (rintro e wv ⟨rfl, rfl⟩)) | ((with_reducible refine (z3 _).mono ?_); (rintro e wv ⟨rfl, rfl⟩)) | ((with_reducible refine (z4 _).mono ?_); (rintro e wv ⟨rfl, rfl⟩)) | ((with_reducible refine (z5 _).mono ?_); (rintro e wv ⟨rfl, rfl⟩)) | ((with_reducible refine (z6 _).mono ?_); (rintro e wv ⟨rfl, rfl⟩)))
    | (go_at_call 25; first | ((with_reducible refine (yd _).mono ?_); (rintro e wv ⟨rfl, rfl⟩)) | ((with_reducible refine (yo _).mono ?_); (rintro e wv ⟨rfl, rfl⟩)) | ((with_reducible refine (yb _).mono ?_); (rintro e wv ⟨rfl, rfl⟩))))
  go_ret
  exact ⟨rfl, step_alloc (step_alloc (Below.refl _ w) _) _⟩

set_option maxRecDepth 100000 in
set_option maxHeartbeats 4000000 in
theorem chk_11_0_0_1 (m : M) (A : Option Addr) (c : Nat) (w : World) (hr : BytesAt w w.heap.size A m.data) (h0 : (fls m.kind).isEmpty = false) (h1 : 0 ≤ m.src) (h2 : m.src < 3) (g0 : withinB m.kind 116 m.term 1099511627776 = true) (g1 : withinB m.kind 113 m.seq 1099511627776 = true) (g2 : withinB m.kind 115 m.stamp 1099511627776 = true) (g3 : withinB m.kind 107 m.block 63 = true) (g4 : withinB m.kind 114 m.rt 1099511627776 = true) (g5 : withinB m.kind 114 m.rn 1099511627776 = true) (g6 : withinB m.kind 114 m.rs 3 = true) (ho : hasB m.kind 111 = false) (hok : m.ok = false) (hb : hasB m.kind 98 = false) (hbz : ((m.bits : Int) == 0) = false) (hd : hasB m.kind 100 = true) :
    Calls Try.prog 9 #[mVal m A c] w fun e w' => e = .returned (.int .i64 2) ∧ Below w.heap.size w w' := by
  obtain ⟨S, hsz, _, _, _, zf⟩ := refFields_str m.kind
  have hS := str_empty S _ hsz
  rw [show ((fls m.kind).map fch).isEmpty = (fls m.kind).isEmpty by simp, h0] at hS
  clear hsz
  have z0 : ∀ w, Calls Try.prog 24 #[.int .i64 m.kind, .int .u8 116, .int .i64 m.term, .int .i64 1099511627776] w (fun e w' => e = .returned (.bool (withinB m.kind 116 m.term 1099511627776)) ∧ w = w') := fun w => refWithin_any m.kind 116 m.term 1099511627776 w
  rw [g0] at z0
  have z1 : ∀ w, Calls Try.prog 24 #[.int .i64 m.kind, .int .u8 113, .int .i64 m.seq, .int .i64 1099511627776] w (fun e w' => e = .returned (.bool (withinB m.kind 113 m.seq 1099511627776)) ∧ w = w') := fun w => refWithin_any m.kind 113 m.seq 1099511627776 w
  rw [g1] at z1
  have z2 : ∀ w, Calls Try.prog 24 #[.int .i64 m.kind, .int .u8 115, .int .i64 m.stamp, .int .i64 1099511627776] w (fun e w' => e = .returned (.bool (withinB m.kind 115 m.stamp 1099511627776)) ∧ w = w') := fun w => refWithin_any m.kind 115 m.stamp 1099511627776 w
  rw [g2] at z2
  have z3 : ∀ w, Calls Try.prog 24 #[.int .i64 m.kind, .int .u8 107, .int .i64 m.block, .int .i64 63] w (fun e w' => e = .returned (.bool (withinB m.kind 107 m.block 63)) ∧ w = w') := fun w => refWithin_any m.kind 107 m.block 63 w
  rw [g3] at z3
  have z4 : ∀ w, Calls Try.prog 24 #[.int .i64 m.kind, .int .u8 114, .int .i64 m.rt, .int .i64 1099511627776] w (fun e w' => e = .returned (.bool (withinB m.kind 114 m.rt 1099511627776)) ∧ w = w') := fun w => refWithin_any m.kind 114 m.rt 1099511627776 w
  rw [g4] at z4
  have z5 : ∀ w, Calls Try.prog 24 #[.int .i64 m.kind, .int .u8 114, .int .i64 m.rn, .int .i64 1099511627776] w (fun e w' => e = .returned (.bool (withinB m.kind 114 m.rn 1099511627776)) ∧ w = w') := fun w => refWithin_any m.kind 114 m.rn 1099511627776 w
  rw [g5] at z5
  have z6 : ∀ w, Calls Try.prog 24 #[.int .i64 m.kind, .int .u8 114, .int .i64 m.rs, .int .i64 3] w (fun e w' => e = .returned (.bool (withinB m.kind 114 m.rs 3)) ∧ w = w') := fun w => refWithin_any m.kind 114 m.rs 3 w
  rw [g6] at z6
  have yd : ∀ w, Calls Try.prog 25 #[.int .i64 m.kind, .int .u8 100] w (fun e w' => e = .returned (.bool (hasB m.kind 100)) ∧ w = w') := fun w => refHas_any m.kind 100 w
  rw [hd] at yd
  have yo : ∀ w, Calls Try.prog 25 #[.int .i64 m.kind, .int .u8 111] w (fun e w' => e = .returned (.bool (hasB m.kind 111)) ∧ w = w') := fun w => refHas_any m.kind 111 w
  rw [ho] at yo
  have yb : ∀ w, Calls Try.prog 25 #[.int .i64 m.kind, .int .u8 98] w (fun e w' => e = .returned (.bool (hasB m.kind 98)) ∧ w = w') := fun w => refHas_any m.kind 98 w
  rw [hb] at yb
  obtain ⟨⟨a0, a1, a2, a3, a4, a5, a6, a7, a8, a9, a10, a11⟩, _, _, _⟩ := back_at m A c [] none w hr bytes_nil ((w.alloc (mObj m A c)).alloc (rO m)) (step_alloc (Below.refl _ _) _)
  rw [hok] at a6
  clear hr h0 g0 g1 g2 g3 g4 g5 g6 ho hb hd
  go_enter Try.func9, Try.ntmps9
  go_wp2_with (first
    | (go_at_call 21; (with_reducible refine (zf _).mono ?_); (rintro e wf ⟨rfl, rfl⟩))
    | (go_at_call 24; first | ((with_reducible refine (z0 _).mono ?_); (rintro e wv ⟨rfl, rfl⟩)) | ((with_reducible refine (z1 _).mono ?_); (rintro e wv ⟨rfl, rfl⟩)) | ((with_reducible refine (z2 _).mono ?_); (rintro e wv ⟨rfl, rfl⟩)) | ((with_reducible refine (z3 _).mono ?_); (rintro e wv ⟨rfl, rfl⟩)) | ((with_reducible refine (z4 _).mono ?_); (rintro e wv ⟨rfl, rfl⟩)) | ((with_reducible refine (z5 _).mono ?_); (rintro e wv ⟨rfl, rfl⟩)) | ((with_reducible refine (z6 _).mono ?_); (rintro e wv ⟨rfl, rfl⟩)))
    | (go_at_call 25; first | ((with_reducible refine (yd _).mono ?_); (rintro e wv ⟨rfl, rfl⟩)) | ((with_reducible refine (yo _).mono ?_); (rintro e wv ⟨rfl, rfl⟩)) | ((with_reducible refine (yb _).mono ?_); (rintro e wv ⟨rfl, rfl⟩))))
  go_ret
  exact ⟨rfl, step_alloc (step_alloc (Below.refl _ w) _) _⟩

set_option maxRecDepth 100000 in
set_option maxHeartbeats 4000000 in
theorem chk_11_0_0_0 (m : M) (A : Option Addr) (c : Nat) (w : World) (hr : BytesAt w w.heap.size A m.data) (h0 : (fls m.kind).isEmpty = false) (h1 : 0 ≤ m.src) (h2 : m.src < 3) (g0 : withinB m.kind 116 m.term 1099511627776 = true) (g1 : withinB m.kind 113 m.seq 1099511627776 = true) (g2 : withinB m.kind 115 m.stamp 1099511627776 = true) (g3 : withinB m.kind 107 m.block 63 = true) (g4 : withinB m.kind 114 m.rt 1099511627776 = true) (g5 : withinB m.kind 114 m.rn 1099511627776 = true) (g6 : withinB m.kind 114 m.rs 3 = true) (ho : hasB m.kind 111 = false) (hok : m.ok = false) (hb : hasB m.kind 98 = false) (hbz : ((m.bits : Int) == 0) = false) (hd : hasB m.kind 100 = false) :
    Calls Try.prog 9 #[mVal m A c] w fun e w' => e = .returned (.int .i64 2) ∧ Below w.heap.size w w' := by
  obtain ⟨S, hsz, _, _, _, zf⟩ := refFields_str m.kind
  have hS := str_empty S _ hsz
  rw [show ((fls m.kind).map fch).isEmpty = (fls m.kind).isEmpty by simp, h0] at hS
  clear hsz
  have z0 : ∀ w, Calls Try.prog 24 #[.int .i64 m.kind, .int .u8 116, .int .i64 m.term, .int .i64 1099511627776] w (fun e w' => e = .returned (.bool (withinB m.kind 116 m.term 1099511627776)) ∧ w = w') := fun w => refWithin_any m.kind 116 m.term 1099511627776 w
  rw [g0] at z0
  have z1 : ∀ w, Calls Try.prog 24 #[.int .i64 m.kind, .int .u8 113, .int .i64 m.seq, .int .i64 1099511627776] w (fun e w' => e = .returned (.bool (withinB m.kind 113 m.seq 1099511627776)) ∧ w = w') := fun w => refWithin_any m.kind 113 m.seq 1099511627776 w
  rw [g1] at z1
  have z2 : ∀ w, Calls Try.prog 24 #[.int .i64 m.kind, .int .u8 115, .int .i64 m.stamp, .int .i64 1099511627776] w (fun e w' => e = .returned (.bool (withinB m.kind 115 m.stamp 1099511627776)) ∧ w = w') := fun w => refWithin_any m.kind 115 m.stamp 1099511627776 w
  rw [g2] at z2
  have z3 : ∀ w, Calls Try.prog 24 #[.int .i64 m.kind, .int .u8 107, .int .i64 m.block, .int .i64 63] w (fun e w' => e = .returned (.bool (withinB m.kind 107 m.block 63)) ∧ w = w') := fun w => refWithin_any m.kind 107 m.block 63 w
  rw [g3] at z3
  have z4 : ∀ w, Calls Try.prog 24 #[.int .i64 m.kind, .int .u8 114, .int .i64 m.rt, .int .i64 1099511627776] w (fun e w' => e = .returned (.bool (withinB m.kind 114 m.rt 1099511627776)) ∧ w = w') := fun w => refWithin_any m.kind 114 m.rt 1099511627776 w
  rw [g4] at z4
  have z5 : ∀ w, Calls Try.prog 24 #[.int .i64 m.kind, .int .u8 114, .int .i64 m.rn, .int .i64 1099511627776] w (fun e w' => e = .returned (.bool (withinB m.kind 114 m.rn 1099511627776)) ∧ w = w') := fun w => refWithin_any m.kind 114 m.rn 1099511627776 w
  rw [g5] at z5
  have z6 : ∀ w, Calls Try.prog 24 #[.int .i64 m.kind, .int .u8 114, .int .i64 m.rs, .int .i64 3] w (fun e w' => e = .returned (.bool (withinB m.kind 114 m.rs 3)) ∧ w = w') := fun w => refWithin_any m.kind 114 m.rs 3 w
  rw [g6] at z6
  have yd : ∀ w, Calls Try.prog 25 #[.int .i64 m.kind, .int .u8 100] w (fun e w' => e = .returned (.bool (hasB m.kind 100)) ∧ w = w') := fun w => refHas_any m.kind 100 w
  rw [hd] at yd
  have yo : ∀ w, Calls Try.prog 25 #[.int .i64 m.kind, .int .u8 111] w (fun e w' => e = .returned (.bool (hasB m.kind 111)) ∧ w = w') := fun w => refHas_any m.kind 111 w
  rw [ho] at yo
  have yb : ∀ w, Calls Try.prog 25 #[.int .i64 m.kind, .int .u8 98] w (fun e w' => e = .returned (.bool (hasB m.kind 98)) ∧ w = w') := fun w => refHas_any m.kind 98 w
  rw [hb] at yb
  obtain ⟨⟨a0, a1, a2, a3, a4, a5, a6, a7, a8, a9, a10, a11⟩, _, _, _⟩ := back_at m A c [] none w hr bytes_nil ((w.alloc (mObj m A c)).alloc (rO m)) (step_alloc (Below.refl _ _) _)
  rw [hok] at a6
  clear hr h0 g0 g1 g2 g3 g4 g5 g6 ho hb hd
  go_enter Try.func9, Try.ntmps9
  go_wp2_with (first
    | (go_at_call 21; (with_reducible refine (zf _).mono ?_); (rintro e wf ⟨rfl, rfl⟩))
    | (go_at_call 24; first | ((with_reducible refine (z0 _).mono ?_); (rintro e wv ⟨rfl, rfl⟩)) | ((with_reducible refine (z1 _).mono ?_); (rintro e wv ⟨rfl, rfl⟩)) | ((with_reducible refine (z2 _).mono ?_); (rintro e wv ⟨rfl, rfl⟩)) | ((with_reducible refine (z3 _).mono ?_); (rintro e wv ⟨rfl, rfl⟩)) | ((with_reducible refine (z4 _).mono ?_); (rintro e wv ⟨rfl, rfl⟩)) | ((with_reducible refine (z5 _).mono ?_); (rintro e wv ⟨rfl, rfl⟩)) | ((with_reducible refine (z6 _).mono ?_); (rintro e wv ⟨rfl, rfl⟩)))
    | (go_at_call 25; first | ((with_reducible refine (yd _).mono ?_); (rintro e wv ⟨rfl, rfl⟩)) | ((with_reducible refine (yo _).mono ?_); (rintro e wv ⟨rfl, rfl⟩)) | ((with_reducible refine (yb _).mono ?_); (rintro e wv ⟨rfl, rfl⟩))))
  go_ret
  exact ⟨rfl, step_alloc (step_alloc (Below.refl _ w) _) _⟩

set_option maxRecDepth 100000 in
set_option maxHeartbeats 4000000 in
theorem chk_12_1_1_1 (m : M) (A : Option Addr) (c : Nat) (w : World) (hr : BytesAt w w.heap.size A m.data) (h0 : (fls m.kind).isEmpty = false) (h1 : 0 ≤ m.src) (h2 : m.src < 3) (g0 : withinB m.kind 116 m.term 1099511627776 = true) (g1 : withinB m.kind 113 m.seq 1099511627776 = true) (g2 : withinB m.kind 115 m.stamp 1099511627776 = true) (g3 : withinB m.kind 107 m.block 63 = true) (g4 : withinB m.kind 114 m.rt 1099511627776 = true) (g5 : withinB m.kind 114 m.rn 1099511627776 = true) (g6 : withinB m.kind 114 m.rs 3 = true) (ho : hasB m.kind 111 = true) (hb : hasB m.kind 98 = true) (hd : hasB m.kind 100 = true) (hl : ((m.data.length : Int) == 32) = false) :
    Calls Try.prog 9 #[mVal m A c] w fun e w' => e = .returned (.int .i64 2) ∧ Below w.heap.size w w' := by
  obtain ⟨S, hsz, _, _, _, zf⟩ := refFields_str m.kind
  have hS := str_empty S _ hsz
  rw [show ((fls m.kind).map fch).isEmpty = (fls m.kind).isEmpty by simp, h0] at hS
  clear hsz
  have z0 : ∀ w, Calls Try.prog 24 #[.int .i64 m.kind, .int .u8 116, .int .i64 m.term, .int .i64 1099511627776] w (fun e w' => e = .returned (.bool (withinB m.kind 116 m.term 1099511627776)) ∧ w = w') := fun w => refWithin_any m.kind 116 m.term 1099511627776 w
  rw [g0] at z0
  have z1 : ∀ w, Calls Try.prog 24 #[.int .i64 m.kind, .int .u8 113, .int .i64 m.seq, .int .i64 1099511627776] w (fun e w' => e = .returned (.bool (withinB m.kind 113 m.seq 1099511627776)) ∧ w = w') := fun w => refWithin_any m.kind 113 m.seq 1099511627776 w
  rw [g1] at z1
  have z2 : ∀ w, Calls Try.prog 24 #[.int .i64 m.kind, .int .u8 115, .int .i64 m.stamp, .int .i64 1099511627776] w (fun e w' => e = .returned (.bool (withinB m.kind 115 m.stamp 1099511627776)) ∧ w = w') := fun w => refWithin_any m.kind 115 m.stamp 1099511627776 w
  rw [g2] at z2
  have z3 : ∀ w, Calls Try.prog 24 #[.int .i64 m.kind, .int .u8 107, .int .i64 m.block, .int .i64 63] w (fun e w' => e = .returned (.bool (withinB m.kind 107 m.block 63)) ∧ w = w') := fun w => refWithin_any m.kind 107 m.block 63 w
  rw [g3] at z3
  have z4 : ∀ w, Calls Try.prog 24 #[.int .i64 m.kind, .int .u8 114, .int .i64 m.rt, .int .i64 1099511627776] w (fun e w' => e = .returned (.bool (withinB m.kind 114 m.rt 1099511627776)) ∧ w = w') := fun w => refWithin_any m.kind 114 m.rt 1099511627776 w
  rw [g4] at z4
  have z5 : ∀ w, Calls Try.prog 24 #[.int .i64 m.kind, .int .u8 114, .int .i64 m.rn, .int .i64 1099511627776] w (fun e w' => e = .returned (.bool (withinB m.kind 114 m.rn 1099511627776)) ∧ w = w') := fun w => refWithin_any m.kind 114 m.rn 1099511627776 w
  rw [g5] at z5
  have z6 : ∀ w, Calls Try.prog 24 #[.int .i64 m.kind, .int .u8 114, .int .i64 m.rs, .int .i64 3] w (fun e w' => e = .returned (.bool (withinB m.kind 114 m.rs 3)) ∧ w = w') := fun w => refWithin_any m.kind 114 m.rs 3 w
  rw [g6] at z6
  have yd : ∀ w, Calls Try.prog 25 #[.int .i64 m.kind, .int .u8 100] w (fun e w' => e = .returned (.bool (hasB m.kind 100)) ∧ w = w') := fun w => refHas_any m.kind 100 w
  rw [hd] at yd
  have yo : ∀ w, Calls Try.prog 25 #[.int .i64 m.kind, .int .u8 111] w (fun e w' => e = .returned (.bool (hasB m.kind 111)) ∧ w = w') := fun w => refHas_any m.kind 111 w
  rw [ho] at yo
  have yb : ∀ w, Calls Try.prog 25 #[.int .i64 m.kind, .int .u8 98] w (fun e w' => e = .returned (.bool (hasB m.kind 98)) ∧ w = w') := fun w => refHas_any m.kind 98 w
  rw [hb] at yb
  obtain ⟨⟨a0, a1, a2, a3, a4, a5, a6, a7, a8, a9, a10, a11⟩, _, _, _⟩ := back_at m A c [] none w hr bytes_nil ((w.alloc (mObj m A c)).alloc (rO m)) (step_alloc (Below.refl _ _) _)
  clear hr h0 g0 g1 g2 g3 g4 g5 g6 ho hb hd
  go_enter Try.func9, Try.ntmps9
  go_wp2_with (first
    | (go_at_call 21; (with_reducible refine (zf _).mono ?_); (rintro e wf ⟨rfl, rfl⟩))
    | (go_at_call 24; first | ((with_reducible refine (z0 _).mono ?_); (rintro e wv ⟨rfl, rfl⟩)) | ((with_reducible refine (z1 _).mono ?_); (rintro e wv ⟨rfl, rfl⟩)) | ((with_reducible refine (z2 _).mono ?_); (rintro e wv ⟨rfl, rfl⟩)) | ((with_reducible refine (z3 _).mono ?_); (rintro e wv ⟨rfl, rfl⟩)) | ((with_reducible refine (z4 _).mono ?_); (rintro e wv ⟨rfl, rfl⟩)) | ((with_reducible refine (z5 _).mono ?_); (rintro e wv ⟨rfl, rfl⟩)) | ((with_reducible refine (z6 _).mono ?_); (rintro e wv ⟨rfl, rfl⟩)))
    | (go_at_call 25; first | ((with_reducible refine (yd _).mono ?_); (rintro e wv ⟨rfl, rfl⟩)) | ((with_reducible refine (yo _).mono ?_); (rintro e wv ⟨rfl, rfl⟩)) | ((with_reducible refine (yb _).mono ?_); (rintro e wv ⟨rfl, rfl⟩))))
  go_ret
  exact ⟨rfl, step_alloc (step_alloc (Below.refl _ w) _) _⟩

set_option maxRecDepth 100000 in
set_option maxHeartbeats 4000000 in
theorem chk_12_1_1_0 (m : M) (A : Option Addr) (c : Nat) (w : World) (hr : BytesAt w w.heap.size A m.data) (h0 : (fls m.kind).isEmpty = false) (h1 : 0 ≤ m.src) (h2 : m.src < 3) (g0 : withinB m.kind 116 m.term 1099511627776 = true) (g1 : withinB m.kind 113 m.seq 1099511627776 = true) (g2 : withinB m.kind 115 m.stamp 1099511627776 = true) (g3 : withinB m.kind 107 m.block 63 = true) (g4 : withinB m.kind 114 m.rt 1099511627776 = true) (g5 : withinB m.kind 114 m.rn 1099511627776 = true) (g6 : withinB m.kind 114 m.rs 3 = true) (ho : hasB m.kind 111 = true) (hb : hasB m.kind 98 = true) (hd : hasB m.kind 100 = false) (hl : ((m.data.length : Int) == 0) = false) :
    Calls Try.prog 9 #[mVal m A c] w fun e w' => e = .returned (.int .i64 2) ∧ Below w.heap.size w w' := by
  obtain ⟨S, hsz, _, _, _, zf⟩ := refFields_str m.kind
  have hS := str_empty S _ hsz
  rw [show ((fls m.kind).map fch).isEmpty = (fls m.kind).isEmpty by simp, h0] at hS
  clear hsz
  have z0 : ∀ w, Calls Try.prog 24 #[.int .i64 m.kind, .int .u8 116, .int .i64 m.term, .int .i64 1099511627776] w (fun e w' => e = .returned (.bool (withinB m.kind 116 m.term 1099511627776)) ∧ w = w') := fun w => refWithin_any m.kind 116 m.term 1099511627776 w
  rw [g0] at z0
  have z1 : ∀ w, Calls Try.prog 24 #[.int .i64 m.kind, .int .u8 113, .int .i64 m.seq, .int .i64 1099511627776] w (fun e w' => e = .returned (.bool (withinB m.kind 113 m.seq 1099511627776)) ∧ w = w') := fun w => refWithin_any m.kind 113 m.seq 1099511627776 w
  rw [g1] at z1
  have z2 : ∀ w, Calls Try.prog 24 #[.int .i64 m.kind, .int .u8 115, .int .i64 m.stamp, .int .i64 1099511627776] w (fun e w' => e = .returned (.bool (withinB m.kind 115 m.stamp 1099511627776)) ∧ w = w') := fun w => refWithin_any m.kind 115 m.stamp 1099511627776 w
  rw [g2] at z2
  have z3 : ∀ w, Calls Try.prog 24 #[.int .i64 m.kind, .int .u8 107, .int .i64 m.block, .int .i64 63] w (fun e w' => e = .returned (.bool (withinB m.kind 107 m.block 63)) ∧ w = w') := fun w => refWithin_any m.kind 107 m.block 63 w
  rw [g3] at z3
  have z4 : ∀ w, Calls Try.prog 24 #[.int .i64 m.kind, .int .u8 114, .int .i64 m.rt, .int .i64 1099511627776] w (fun e w' => e = .returned (.bool (withinB m.kind 114 m.rt 1099511627776)) ∧ w = w') := fun w => refWithin_any m.kind 114 m.rt 1099511627776 w
  rw [g4] at z4
  have z5 : ∀ w, Calls Try.prog 24 #[.int .i64 m.kind, .int .u8 114, .int .i64 m.rn, .int .i64 1099511627776] w (fun e w' => e = .returned (.bool (withinB m.kind 114 m.rn 1099511627776)) ∧ w = w') := fun w => refWithin_any m.kind 114 m.rn 1099511627776 w
  rw [g5] at z5
  have z6 : ∀ w, Calls Try.prog 24 #[.int .i64 m.kind, .int .u8 114, .int .i64 m.rs, .int .i64 3] w (fun e w' => e = .returned (.bool (withinB m.kind 114 m.rs 3)) ∧ w = w') := fun w => refWithin_any m.kind 114 m.rs 3 w
  rw [g6] at z6
  have yd : ∀ w, Calls Try.prog 25 #[.int .i64 m.kind, .int .u8 100] w (fun e w' => e = .returned (.bool (hasB m.kind 100)) ∧ w = w') := fun w => refHas_any m.kind 100 w
  rw [hd] at yd
  have yo : ∀ w, Calls Try.prog 25 #[.int .i64 m.kind, .int .u8 111] w (fun e w' => e = .returned (.bool (hasB m.kind 111)) ∧ w = w') := fun w => refHas_any m.kind 111 w
  rw [ho] at yo
  have yb : ∀ w, Calls Try.prog 25 #[.int .i64 m.kind, .int .u8 98] w (fun e w' => e = .returned (.bool (hasB m.kind 98)) ∧ w = w') := fun w => refHas_any m.kind 98 w
  rw [hb] at yb
  obtain ⟨⟨a0, a1, a2, a3, a4, a5, a6, a7, a8, a9, a10, a11⟩, _, _, _⟩ := back_at m A c [] none w hr bytes_nil ((w.alloc (mObj m A c)).alloc (rO m)) (step_alloc (Below.refl _ _) _)
  clear hr h0 g0 g1 g2 g3 g4 g5 g6 ho hb hd
  go_enter Try.func9, Try.ntmps9
  go_wp2_with (first
    | (go_at_call 21; (with_reducible refine (zf _).mono ?_); (rintro e wf ⟨rfl, rfl⟩))
    | (go_at_call 24; first | ((with_reducible refine (z0 _).mono ?_); (rintro e wv ⟨rfl, rfl⟩)) | ((with_reducible refine (z1 _).mono ?_); (rintro e wv ⟨rfl, rfl⟩)) | ((with_reducible refine (z2 _).mono ?_); (rintro e wv ⟨rfl, rfl⟩)) | ((with_reducible refine (z3 _).mono ?_); (rintro e wv ⟨rfl, rfl⟩)) | ((with_reducible refine (z4 _).mono ?_); (rintro e wv ⟨rfl, rfl⟩)) | ((with_reducible refine (z5 _).mono ?_); (rintro e wv ⟨rfl, rfl⟩)) | ((with_reducible refine (z6 _).mono ?_); (rintro e wv ⟨rfl, rfl⟩)))
    | (go_at_call 25; first | ((with_reducible refine (yd _).mono ?_); (rintro e wv ⟨rfl, rfl⟩)) | ((with_reducible refine (yo _).mono ?_); (rintro e wv ⟨rfl, rfl⟩)) | ((with_reducible refine (yb _).mono ?_); (rintro e wv ⟨rfl, rfl⟩))))
  go_ret
  exact ⟨rfl, step_alloc (step_alloc (Below.refl _ w) _) _⟩

set_option maxRecDepth 100000 in
set_option maxHeartbeats 4000000 in
theorem chk_12_1_0_1 (m : M) (A : Option Addr) (c : Nat) (w : World) (hr : BytesAt w w.heap.size A m.data) (h0 : (fls m.kind).isEmpty = false) (h1 : 0 ≤ m.src) (h2 : m.src < 3) (g0 : withinB m.kind 116 m.term 1099511627776 = true) (g1 : withinB m.kind 113 m.seq 1099511627776 = true) (g2 : withinB m.kind 115 m.stamp 1099511627776 = true) (g3 : withinB m.kind 107 m.block 63 = true) (g4 : withinB m.kind 114 m.rt 1099511627776 = true) (g5 : withinB m.kind 114 m.rn 1099511627776 = true) (g6 : withinB m.kind 114 m.rs 3 = true) (ho : hasB m.kind 111 = true) (hb : hasB m.kind 98 = false) (hbz : ((m.bits : Int) == 0) = true) (hd : hasB m.kind 100 = true) (hl : ((m.data.length : Int) == 32) = false) :
    Calls Try.prog 9 #[mVal m A c] w fun e w' => e = .returned (.int .i64 2) ∧ Below w.heap.size w w' := by
  obtain ⟨S, hsz, _, _, _, zf⟩ := refFields_str m.kind
  have hS := str_empty S _ hsz
  rw [show ((fls m.kind).map fch).isEmpty = (fls m.kind).isEmpty by simp, h0] at hS
  clear hsz
  have z0 : ∀ w, Calls Try.prog 24 #[.int .i64 m.kind, .int .u8 116, .int .i64 m.term, .int .i64 1099511627776] w (fun e w' => e = .returned (.bool (withinB m.kind 116 m.term 1099511627776)) ∧ w = w') := fun w => refWithin_any m.kind 116 m.term 1099511627776 w
  rw [g0] at z0
  have z1 : ∀ w, Calls Try.prog 24 #[.int .i64 m.kind, .int .u8 113, .int .i64 m.seq, .int .i64 1099511627776] w (fun e w' => e = .returned (.bool (withinB m.kind 113 m.seq 1099511627776)) ∧ w = w') := fun w => refWithin_any m.kind 113 m.seq 1099511627776 w
  rw [g1] at z1
  have z2 : ∀ w, Calls Try.prog 24 #[.int .i64 m.kind, .int .u8 115, .int .i64 m.stamp, .int .i64 1099511627776] w (fun e w' => e = .returned (.bool (withinB m.kind 115 m.stamp 1099511627776)) ∧ w = w') := fun w => refWithin_any m.kind 115 m.stamp 1099511627776 w
  rw [g2] at z2
  have z3 : ∀ w, Calls Try.prog 24 #[.int .i64 m.kind, .int .u8 107, .int .i64 m.block, .int .i64 63] w (fun e w' => e = .returned (.bool (withinB m.kind 107 m.block 63)) ∧ w = w') := fun w => refWithin_any m.kind 107 m.block 63 w
  rw [g3] at z3
  have z4 : ∀ w, Calls Try.prog 24 #[.int .i64 m.kind, .int .u8 114, .int .i64 m.rt, .int .i64 1099511627776] w (fun e w' => e = .returned (.bool (withinB m.kind 114 m.rt 1099511627776)) ∧ w = w') := fun w => refWithin_any m.kind 114 m.rt 1099511627776 w
  rw [g4] at z4
  have z5 : ∀ w, Calls Try.prog 24 #[.int .i64 m.kind, .int .u8 114, .int .i64 m.rn, .int .i64 1099511627776] w (fun e w' => e = .returned (.bool (withinB m.kind 114 m.rn 1099511627776)) ∧ w = w') := fun w => refWithin_any m.kind 114 m.rn 1099511627776 w
  rw [g5] at z5
  have z6 : ∀ w, Calls Try.prog 24 #[.int .i64 m.kind, .int .u8 114, .int .i64 m.rs, .int .i64 3] w (fun e w' => e = .returned (.bool (withinB m.kind 114 m.rs 3)) ∧ w = w') := fun w => refWithin_any m.kind 114 m.rs 3 w
  rw [g6] at z6
  have yd : ∀ w, Calls Try.prog 25 #[.int .i64 m.kind, .int .u8 100] w (fun e w' => e = .returned (.bool (hasB m.kind 100)) ∧ w = w') := fun w => refHas_any m.kind 100 w
  rw [hd] at yd
  have yo : ∀ w, Calls Try.prog 25 #[.int .i64 m.kind, .int .u8 111] w (fun e w' => e = .returned (.bool (hasB m.kind 111)) ∧ w = w') := fun w => refHas_any m.kind 111 w
  rw [ho] at yo
  have yb : ∀ w, Calls Try.prog 25 #[.int .i64 m.kind, .int .u8 98] w (fun e w' => e = .returned (.bool (hasB m.kind 98)) ∧ w = w') := fun w => refHas_any m.kind 98 w
  rw [hb] at yb
  obtain ⟨⟨a0, a1, a2, a3, a4, a5, a6, a7, a8, a9, a10, a11⟩, _, _, _⟩ := back_at m A c [] none w hr bytes_nil ((w.alloc (mObj m A c)).alloc (rO m)) (step_alloc (Below.refl _ _) _)
  clear hr h0 g0 g1 g2 g3 g4 g5 g6 ho hb hd
  go_enter Try.func9, Try.ntmps9
  go_wp2_with (first
    | (go_at_call 21; (with_reducible refine (zf _).mono ?_); (rintro e wf ⟨rfl, rfl⟩))
    | (go_at_call 24; first | ((with_reducible refine (z0 _).mono ?_); (rintro e wv ⟨rfl, rfl⟩)) | ((with_reducible refine (z1 _).mono ?_); (rintro e wv ⟨rfl, rfl⟩)) | ((with_reducible refine (z2 _).mono ?_); (rintro e wv ⟨rfl, rfl⟩)) | ((with_reducible refine (z3 _).mono ?_); (rintro e wv ⟨rfl, rfl⟩)) | ((with_reducible refine (z4 _).mono ?_); (rintro e wv ⟨rfl, rfl⟩)) | ((with_reducible refine (z5 _).mono ?_); (rintro e wv ⟨rfl, rfl⟩)) | ((with_reducible refine (z6 _).mono ?_); (rintro e wv ⟨rfl, rfl⟩)))
    | (go_at_call 25; first | ((with_reducible refine (yd _).mono ?_); (rintro e wv ⟨rfl, rfl⟩)) | ((with_reducible refine (yo _).mono ?_); (rintro e wv ⟨rfl, rfl⟩)) | ((with_reducible refine (yb _).mono ?_); (rintro e wv ⟨rfl, rfl⟩))))
  go_ret
  exact ⟨rfl, step_alloc (step_alloc (Below.refl _ w) _) _⟩

set_option maxRecDepth 100000 in
set_option maxHeartbeats 4000000 in
theorem chk_12_1_0_0 (m : M) (A : Option Addr) (c : Nat) (w : World) (hr : BytesAt w w.heap.size A m.data) (h0 : (fls m.kind).isEmpty = false) (h1 : 0 ≤ m.src) (h2 : m.src < 3) (g0 : withinB m.kind 116 m.term 1099511627776 = true) (g1 : withinB m.kind 113 m.seq 1099511627776 = true) (g2 : withinB m.kind 115 m.stamp 1099511627776 = true) (g3 : withinB m.kind 107 m.block 63 = true) (g4 : withinB m.kind 114 m.rt 1099511627776 = true) (g5 : withinB m.kind 114 m.rn 1099511627776 = true) (g6 : withinB m.kind 114 m.rs 3 = true) (ho : hasB m.kind 111 = true) (hb : hasB m.kind 98 = false) (hbz : ((m.bits : Int) == 0) = true) (hd : hasB m.kind 100 = false) (hl : ((m.data.length : Int) == 0) = false) :
    Calls Try.prog 9 #[mVal m A c] w fun e w' => e = .returned (.int .i64 2) ∧ Below w.heap.size w w' := by
  obtain ⟨S, hsz, _, _, _, zf⟩ := refFields_str m.kind
  have hS := str_empty S _ hsz
  rw [show ((fls m.kind).map fch).isEmpty = (fls m.kind).isEmpty by simp, h0] at hS
  clear hsz
  have z0 : ∀ w, Calls Try.prog 24 #[.int .i64 m.kind, .int .u8 116, .int .i64 m.term, .int .i64 1099511627776] w (fun e w' => e = .returned (.bool (withinB m.kind 116 m.term 1099511627776)) ∧ w = w') := fun w => refWithin_any m.kind 116 m.term 1099511627776 w
  rw [g0] at z0
  have z1 : ∀ w, Calls Try.prog 24 #[.int .i64 m.kind, .int .u8 113, .int .i64 m.seq, .int .i64 1099511627776] w (fun e w' => e = .returned (.bool (withinB m.kind 113 m.seq 1099511627776)) ∧ w = w') := fun w => refWithin_any m.kind 113 m.seq 1099511627776 w
  rw [g1] at z1
  have z2 : ∀ w, Calls Try.prog 24 #[.int .i64 m.kind, .int .u8 115, .int .i64 m.stamp, .int .i64 1099511627776] w (fun e w' => e = .returned (.bool (withinB m.kind 115 m.stamp 1099511627776)) ∧ w = w') := fun w => refWithin_any m.kind 115 m.stamp 1099511627776 w
  rw [g2] at z2
  have z3 : ∀ w, Calls Try.prog 24 #[.int .i64 m.kind, .int .u8 107, .int .i64 m.block, .int .i64 63] w (fun e w' => e = .returned (.bool (withinB m.kind 107 m.block 63)) ∧ w = w') := fun w => refWithin_any m.kind 107 m.block 63 w
  rw [g3] at z3
  have z4 : ∀ w, Calls Try.prog 24 #[.int .i64 m.kind, .int .u8 114, .int .i64 m.rt, .int .i64 1099511627776] w (fun e w' => e = .returned (.bool (withinB m.kind 114 m.rt 1099511627776)) ∧ w = w') := fun w => refWithin_any m.kind 114 m.rt 1099511627776 w
  rw [g4] at z4
  have z5 : ∀ w, Calls Try.prog 24 #[.int .i64 m.kind, .int .u8 114, .int .i64 m.rn, .int .i64 1099511627776] w (fun e w' => e = .returned (.bool (withinB m.kind 114 m.rn 1099511627776)) ∧ w = w') := fun w => refWithin_any m.kind 114 m.rn 1099511627776 w
  rw [g5] at z5
  have z6 : ∀ w, Calls Try.prog 24 #[.int .i64 m.kind, .int .u8 114, .int .i64 m.rs, .int .i64 3] w (fun e w' => e = .returned (.bool (withinB m.kind 114 m.rs 3)) ∧ w = w') := fun w => refWithin_any m.kind 114 m.rs 3 w
  rw [g6] at z6
  have yd : ∀ w, Calls Try.prog 25 #[.int .i64 m.kind, .int .u8 100] w (fun e w' => e = .returned (.bool (hasB m.kind 100)) ∧ w = w') := fun w => refHas_any m.kind 100 w
  rw [hd] at yd
  have yo : ∀ w, Calls Try.prog 25 #[.int .i64 m.kind, .int .u8 111] w (fun e w' => e = .returned (.bool (hasB m.kind 111)) ∧ w = w') := fun w => refHas_any m.kind 111 w
  rw [ho] at yo
  have yb : ∀ w, Calls Try.prog 25 #[.int .i64 m.kind, .int .u8 98] w (fun e w' => e = .returned (.bool (hasB m.kind 98)) ∧ w = w') := fun w => refHas_any m.kind 98 w
  rw [hb] at yb
  obtain ⟨⟨a0, a1, a2, a3, a4, a5, a6, a7, a8, a9, a10, a11⟩, _, _, _⟩ := back_at m A c [] none w hr bytes_nil ((w.alloc (mObj m A c)).alloc (rO m)) (step_alloc (Below.refl _ _) _)
  clear hr h0 g0 g1 g2 g3 g4 g5 g6 ho hb hd
  go_enter Try.func9, Try.ntmps9
  go_wp2_with (first
    | (go_at_call 21; (with_reducible refine (zf _).mono ?_); (rintro e wf ⟨rfl, rfl⟩))
    | (go_at_call 24; first | ((with_reducible refine (z0 _).mono ?_); (rintro e wv ⟨rfl, rfl⟩)) | ((with_reducible refine (z1 _).mono ?_); (rintro e wv ⟨rfl, rfl⟩)) | ((with_reducible refine (z2 _).mono ?_); (rintro e wv ⟨rfl, rfl⟩)) | ((with_reducible refine (z3 _).mono ?_); (rintro e wv ⟨rfl, rfl⟩)) | ((with_reducible refine (z4 _).mono ?_); (rintro e wv ⟨rfl, rfl⟩)) | ((with_reducible refine (z5 _).mono ?_); (rintro e wv ⟨rfl, rfl⟩)) | ((with_reducible refine (z6 _).mono ?_); (rintro e wv ⟨rfl, rfl⟩)))
    | (go_at_call 25; first | ((with_reducible refine (yd _).mono ?_); (rintro e wv ⟨rfl, rfl⟩)) | ((with_reducible refine (yo _).mono ?_); (rintro e wv ⟨rfl, rfl⟩)) | ((with_reducible refine (yb _).mono ?_); (rintro e wv ⟨rfl, rfl⟩))))
  go_ret
  exact ⟨rfl, step_alloc (step_alloc (Below.refl _ w) _) _⟩

set_option maxRecDepth 100000 in
set_option maxHeartbeats 4000000 in
theorem chk_12_0_1_1 (m : M) (A : Option Addr) (c : Nat) (w : World) (hr : BytesAt w w.heap.size A m.data) (h0 : (fls m.kind).isEmpty = false) (h1 : 0 ≤ m.src) (h2 : m.src < 3) (g0 : withinB m.kind 116 m.term 1099511627776 = true) (g1 : withinB m.kind 113 m.seq 1099511627776 = true) (g2 : withinB m.kind 115 m.stamp 1099511627776 = true) (g3 : withinB m.kind 107 m.block 63 = true) (g4 : withinB m.kind 114 m.rt 1099511627776 = true) (g5 : withinB m.kind 114 m.rn 1099511627776 = true) (g6 : withinB m.kind 114 m.rs 3 = true) (ho : hasB m.kind 111 = false) (hok : m.ok = false) (hb : hasB m.kind 98 = true) (hd : hasB m.kind 100 = true) (hl : ((m.data.length : Int) == 32) = false) :
    Calls Try.prog 9 #[mVal m A c] w fun e w' => e = .returned (.int .i64 2) ∧ Below w.heap.size w w' := by
  obtain ⟨S, hsz, _, _, _, zf⟩ := refFields_str m.kind
  have hS := str_empty S _ hsz
  rw [show ((fls m.kind).map fch).isEmpty = (fls m.kind).isEmpty by simp, h0] at hS
  clear hsz
  have z0 : ∀ w, Calls Try.prog 24 #[.int .i64 m.kind, .int .u8 116, .int .i64 m.term, .int .i64 1099511627776] w (fun e w' => e = .returned (.bool (withinB m.kind 116 m.term 1099511627776)) ∧ w = w') := fun w => refWithin_any m.kind 116 m.term 1099511627776 w
  rw [g0] at z0
  have z1 : ∀ w, Calls Try.prog 24 #[.int .i64 m.kind, .int .u8 113, .int .i64 m.seq, .int .i64 1099511627776] w (fun e w' => e = .returned (.bool (withinB m.kind 113 m.seq 1099511627776)) ∧ w = w') := fun w => refWithin_any m.kind 113 m.seq 1099511627776 w
  rw [g1] at z1
  have z2 : ∀ w, Calls Try.prog 24 #[.int .i64 m.kind, .int .u8 115, .int .i64 m.stamp, .int .i64 1099511627776] w (fun e w' => e = .returned (.bool (withinB m.kind 115 m.stamp 1099511627776)) ∧ w = w') := fun w => refWithin_any m.kind 115 m.stamp 1099511627776 w
  rw [g2] at z2
  have z3 : ∀ w, Calls Try.prog 24 #[.int .i64 m.kind, .int .u8 107, .int .i64 m.block, .int .i64 63] w (fun e w' => e = .returned (.bool (withinB m.kind 107 m.block 63)) ∧ w = w') := fun w => refWithin_any m.kind 107 m.block 63 w
  rw [g3] at z3
  have z4 : ∀ w, Calls Try.prog 24 #[.int .i64 m.kind, .int .u8 114, .int .i64 m.rt, .int .i64 1099511627776] w (fun e w' => e = .returned (.bool (withinB m.kind 114 m.rt 1099511627776)) ∧ w = w') := fun w => refWithin_any m.kind 114 m.rt 1099511627776 w
  rw [g4] at z4
  have z5 : ∀ w, Calls Try.prog 24 #[.int .i64 m.kind, .int .u8 114, .int .i64 m.rn, .int .i64 1099511627776] w (fun e w' => e = .returned (.bool (withinB m.kind 114 m.rn 1099511627776)) ∧ w = w') := fun w => refWithin_any m.kind 114 m.rn 1099511627776 w
  rw [g5] at z5
  have z6 : ∀ w, Calls Try.prog 24 #[.int .i64 m.kind, .int .u8 114, .int .i64 m.rs, .int .i64 3] w (fun e w' => e = .returned (.bool (withinB m.kind 114 m.rs 3)) ∧ w = w') := fun w => refWithin_any m.kind 114 m.rs 3 w
  rw [g6] at z6
  have yd : ∀ w, Calls Try.prog 25 #[.int .i64 m.kind, .int .u8 100] w (fun e w' => e = .returned (.bool (hasB m.kind 100)) ∧ w = w') := fun w => refHas_any m.kind 100 w
  rw [hd] at yd
  have yo : ∀ w, Calls Try.prog 25 #[.int .i64 m.kind, .int .u8 111] w (fun e w' => e = .returned (.bool (hasB m.kind 111)) ∧ w = w') := fun w => refHas_any m.kind 111 w
  rw [ho] at yo
  have yb : ∀ w, Calls Try.prog 25 #[.int .i64 m.kind, .int .u8 98] w (fun e w' => e = .returned (.bool (hasB m.kind 98)) ∧ w = w') := fun w => refHas_any m.kind 98 w
  rw [hb] at yb
  obtain ⟨⟨a0, a1, a2, a3, a4, a5, a6, a7, a8, a9, a10, a11⟩, _, _, _⟩ := back_at m A c [] none w hr bytes_nil ((w.alloc (mObj m A c)).alloc (rO m)) (step_alloc (Below.refl _ _) _)
  rw [hok] at a6
  clear hr h0 g0 g1 g2 g3 g4 g5 g6 ho hb hd
  go_enter Try.func9, Try.ntmps9
  go_wp2_with (first
    | (go_at_call 21; (with_reducible refine (zf _).mono ?_); (rintro e wf ⟨rfl, rfl⟩))
    | (go_at_call 24; first | ((with_reducible refine (z0 _).mono ?_); (rintro e wv ⟨rfl, rfl⟩)) | ((with_reducible refine (z1 _).mono ?_); (rintro e wv ⟨rfl, rfl⟩)) | ((with_reducible refine (z2 _).mono ?_); (rintro e wv ⟨rfl, rfl⟩)) | ((with_reducible refine (z3 _).mono ?_); (rintro e wv ⟨rfl, rfl⟩)) | ((with_reducible refine (z4 _).mono ?_); (rintro e wv ⟨rfl, rfl⟩)) | ((with_reducible refine (z5 _).mono ?_); (rintro e wv ⟨rfl, rfl⟩)) | ((with_reducible refine (z6 _).mono ?_); (rintro e wv ⟨rfl, rfl⟩)))
    | (go_at_call 25; first | ((with_reducible refine (yd _).mono ?_); (rintro e wv ⟨rfl, rfl⟩)) | ((with_reducible refine (yo _).mono ?_); (rintro e wv ⟨rfl, rfl⟩)) | ((with_reducible refine (yb _).mono ?_); (rintro e wv ⟨rfl, rfl⟩))))
  go_ret
  exact ⟨rfl, step_alloc (step_alloc (Below.refl _ w) _) _⟩

set_option maxRecDepth 100000 in
set_option maxHeartbeats 4000000 in
theorem chk_12_0_1_0 (m : M) (A : Option Addr) (c : Nat) (w : World) (hr : BytesAt w w.heap.size A m.data) (h0 : (fls m.kind).isEmpty = false) (h1 : 0 ≤ m.src) (h2 : m.src < 3) (g0 : withinB m.kind 116 m.term 1099511627776 = true) (g1 : withinB m.kind 113 m.seq 1099511627776 = true) (g2 : withinB m.kind 115 m.stamp 1099511627776 = true) (g3 : withinB m.kind 107 m.block 63 = true) (g4 : withinB m.kind 114 m.rt 1099511627776 = true) (g5 : withinB m.kind 114 m.rn 1099511627776 = true) (g6 : withinB m.kind 114 m.rs 3 = true) (ho : hasB m.kind 111 = false) (hok : m.ok = false) (hb : hasB m.kind 98 = true) (hd : hasB m.kind 100 = false) (hl : ((m.data.length : Int) == 0) = false) :
    Calls Try.prog 9 #[mVal m A c] w fun e w' => e = .returned (.int .i64 2) ∧ Below w.heap.size w w' := by
  obtain ⟨S, hsz, _, _, _, zf⟩ := refFields_str m.kind
  have hS := str_empty S _ hsz
  rw [show ((fls m.kind).map fch).isEmpty = (fls m.kind).isEmpty by simp, h0] at hS
  clear hsz
  have z0 : ∀ w, Calls Try.prog 24 #[.int .i64 m.kind, .int .u8 116, .int .i64 m.term, .int .i64 1099511627776] w (fun e w' => e = .returned (.bool (withinB m.kind 116 m.term 1099511627776)) ∧ w = w') := fun w => refWithin_any m.kind 116 m.term 1099511627776 w
  rw [g0] at z0
  have z1 : ∀ w, Calls Try.prog 24 #[.int .i64 m.kind, .int .u8 113, .int .i64 m.seq, .int .i64 1099511627776] w (fun e w' => e = .returned (.bool (withinB m.kind 113 m.seq 1099511627776)) ∧ w = w') := fun w => refWithin_any m.kind 113 m.seq 1099511627776 w
  rw [g1] at z1
  have z2 : ∀ w, Calls Try.prog 24 #[.int .i64 m.kind, .int .u8 115, .int .i64 m.stamp, .int .i64 1099511627776] w (fun e w' => e = .returned (.bool (withinB m.kind 115 m.stamp 1099511627776)) ∧ w = w') := fun w => refWithin_any m.kind 115 m.stamp 1099511627776 w
  rw [g2] at z2
  have z3 : ∀ w, Calls Try.prog 24 #[.int .i64 m.kind, .int .u8 107, .int .i64 m.block, .int .i64 63] w (fun e w' => e = .returned (.bool (withinB m.kind 107 m.block 63)) ∧ w = w') := fun w => refWithin_any m.kind 107 m.block 63 w
  rw [g3] at z3
  have z4 : ∀ w, Calls Try.prog 24 #[.int .i64 m.kind, .int .u8 114, .int .i64 m.rt, .int .i64 1099511627776] w (fun e w' => e = .returned (.bool (withinB m.kind 114 m.rt 1099511627776)) ∧ w = w') := fun w => refWithin_any m.kind 114 m.rt 1099511627776 w
  rw [g4] at z4
  have z5 : ∀ w, Calls Try.prog 24 #[.int .i64 m.kind, .int .u8 114, .int .i64 m.rn, .int .i64 1099511627776] w (fun e w' => e = .returned (.bool (withinB m.kind 114 m.rn 1099511627776)) ∧ w = w') := fun w => refWithin_any m.kind 114 m.rn 1099511627776 w
  rw [g5] at z5
  have z6 : ∀ w, Calls Try.prog 24 #[.int .i64 m.kind, .int .u8 114, .int .i64 m.rs, .int .i64 3] w (fun e w' => e = .returned (.bool (withinB m.kind 114 m.rs 3)) ∧ w = w') := fun w => refWithin_any m.kind 114 m.rs 3 w
  rw [g6] at z6
  have yd : ∀ w, Calls Try.prog 25 #[.int .i64 m.kind, .int .u8 100] w (fun e w' => e = .returned (.bool (hasB m.kind 100)) ∧ w = w') := fun w => refHas_any m.kind 100 w
  rw [hd] at yd
  have yo : ∀ w, Calls Try.prog 25 #[.int .i64 m.kind, .int .u8 111] w (fun e w' => e = .returned (.bool (hasB m.kind 111)) ∧ w = w') := fun w => refHas_any m.kind 111 w
  rw [ho] at yo
  have yb : ∀ w, Calls Try.prog 25 #[.int .i64 m.kind, .int .u8 98] w (fun e w' => e = .returned (.bool (hasB m.kind 98)) ∧ w = w') := fun w => refHas_any m.kind 98 w
  rw [hb] at yb
  obtain ⟨⟨a0, a1, a2, a3, a4, a5, a6, a7, a8, a9, a10, a11⟩, _, _, _⟩ := back_at m A c [] none w hr bytes_nil ((w.alloc (mObj m A c)).alloc (rO m)) (step_alloc (Below.refl _ _) _)
  rw [hok] at a6
  clear hr h0 g0 g1 g2 g3 g4 g5 g6 ho hb hd
  go_enter Try.func9, Try.ntmps9
  go_wp2_with (first
    | (go_at_call 21; (with_reducible refine (zf _).mono ?_); (rintro e wf ⟨rfl, rfl⟩))
    | (go_at_call 24; first | ((with_reducible refine (z0 _).mono ?_); (rintro e wv ⟨rfl, rfl⟩)) | ((with_reducible refine (z1 _).mono ?_); (rintro e wv ⟨rfl, rfl⟩)) | ((with_reducible refine (z2 _).mono ?_); (rintro e wv ⟨rfl, rfl⟩)) | ((with_reducible refine (z3 _).mono ?_); (rintro e wv ⟨rfl, rfl⟩)) | ((with_reducible refine (z4 _).mono ?_); (rintro e wv ⟨rfl, rfl⟩)) | ((with_reducible refine (z5 _).mono ?_); (rintro e wv ⟨rfl, rfl⟩)) | ((with_reducible refine (z6 _).mono ?_); (rintro e wv ⟨rfl, rfl⟩)))
    | (go_at_call 25; first | ((with_reducible refine (yd _).mono ?_); (rintro e wv ⟨rfl, rfl⟩)) | ((with_reducible refine (yo _).mono ?_); (rintro e wv ⟨rfl, rfl⟩)) | ((with_reducible refine (yb _).mono ?_); (rintro e wv ⟨rfl, rfl⟩))))
  go_ret
  exact ⟨rfl, step_alloc (step_alloc (Below.refl _ w) _) _⟩

set_option maxRecDepth 100000 in
set_option maxHeartbeats 4000000 in
theorem chk_12_0_0_1 (m : M) (A : Option Addr) (c : Nat) (w : World) (hr : BytesAt w w.heap.size A m.data) (h0 : (fls m.kind).isEmpty = false) (h1 : 0 ≤ m.src) (h2 : m.src < 3) (g0 : withinB m.kind 116 m.term 1099511627776 = true) (g1 : withinB m.kind 113 m.seq 1099511627776 = true) (g2 : withinB m.kind 115 m.stamp 1099511627776 = true) (g3 : withinB m.kind 107 m.block 63 = true) (g4 : withinB m.kind 114 m.rt 1099511627776 = true) (g5 : withinB m.kind 114 m.rn 1099511627776 = true) (g6 : withinB m.kind 114 m.rs 3 = true) (ho : hasB m.kind 111 = false) (hok : m.ok = false) (hb : hasB m.kind 98 = false) (hbz : ((m.bits : Int) == 0) = true) (hd : hasB m.kind 100 = true) (hl : ((m.data.length : Int) == 32) = false) :
    Calls Try.prog 9 #[mVal m A c] w fun e w' => e = .returned (.int .i64 2) ∧ Below w.heap.size w w' := by
  obtain ⟨S, hsz, _, _, _, zf⟩ := refFields_str m.kind
  have hS := str_empty S _ hsz
  rw [show ((fls m.kind).map fch).isEmpty = (fls m.kind).isEmpty by simp, h0] at hS
  clear hsz
  have z0 : ∀ w, Calls Try.prog 24 #[.int .i64 m.kind, .int .u8 116, .int .i64 m.term, .int .i64 1099511627776] w (fun e w' => e = .returned (.bool (withinB m.kind 116 m.term 1099511627776)) ∧ w = w') := fun w => refWithin_any m.kind 116 m.term 1099511627776 w
  rw [g0] at z0
  have z1 : ∀ w, Calls Try.prog 24 #[.int .i64 m.kind, .int .u8 113, .int .i64 m.seq, .int .i64 1099511627776] w (fun e w' => e = .returned (.bool (withinB m.kind 113 m.seq 1099511627776)) ∧ w = w') := fun w => refWithin_any m.kind 113 m.seq 1099511627776 w
  rw [g1] at z1
  have z2 : ∀ w, Calls Try.prog 24 #[.int .i64 m.kind, .int .u8 115, .int .i64 m.stamp, .int .i64 1099511627776] w (fun e w' => e = .returned (.bool (withinB m.kind 115 m.stamp 1099511627776)) ∧ w = w') := fun w => refWithin_any m.kind 115 m.stamp 1099511627776 w
  rw [g2] at z2
  have z3 : ∀ w, Calls Try.prog 24 #[.int .i64 m.kind, .int .u8 107, .int .i64 m.block, .int .i64 63] w (fun e w' => e = .returned (.bool (withinB m.kind 107 m.block 63)) ∧ w = w') := fun w => refWithin_any m.kind 107 m.block 63 w
  rw [g3] at z3
  have z4 : ∀ w, Calls Try.prog 24 #[.int .i64 m.kind, .int .u8 114, .int .i64 m.rt, .int .i64 1099511627776] w (fun e w' => e = .returned (.bool (withinB m.kind 114 m.rt 1099511627776)) ∧ w = w') := fun w => refWithin_any m.kind 114 m.rt 1099511627776 w
  rw [g4] at z4
  have z5 : ∀ w, Calls Try.prog 24 #[.int .i64 m.kind, .int .u8 114, .int .i64 m.rn, .int .i64 1099511627776] w (fun e w' => e = .returned (.bool (withinB m.kind 114 m.rn 1099511627776)) ∧ w = w') := fun w => refWithin_any m.kind 114 m.rn 1099511627776 w
  rw [g5] at z5
  have z6 : ∀ w, Calls Try.prog 24 #[.int .i64 m.kind, .int .u8 114, .int .i64 m.rs, .int .i64 3] w (fun e w' => e = .returned (.bool (withinB m.kind 114 m.rs 3)) ∧ w = w') := fun w => refWithin_any m.kind 114 m.rs 3 w
  rw [g6] at z6
  have yd : ∀ w, Calls Try.prog 25 #[.int .i64 m.kind, .int .u8 100] w (fun e w' => e = .returned (.bool (hasB m.kind 100)) ∧ w = w') := fun w => refHas_any m.kind 100 w
  rw [hd] at yd
  have yo : ∀ w, Calls Try.prog 25 #[.int .i64 m.kind, .int .u8 111] w (fun e w' => e = .returned (.bool (hasB m.kind 111)) ∧ w = w') := fun w => refHas_any m.kind 111 w
  rw [ho] at yo
  have yb : ∀ w, Calls Try.prog 25 #[.int .i64 m.kind, .int .u8 98] w (fun e w' => e = .returned (.bool (hasB m.kind 98)) ∧ w = w') := fun w => refHas_any m.kind 98 w
  rw [hb] at yb
  obtain ⟨⟨a0, a1, a2, a3, a4, a5, a6, a7, a8, a9, a10, a11⟩, _, _, _⟩ := back_at m A c [] none w hr bytes_nil ((w.alloc (mObj m A c)).alloc (rO m)) (step_alloc (Below.refl _ _) _)
  rw [hok] at a6
  clear hr h0 g0 g1 g2 g3 g4 g5 g6 ho hb hd
  go_enter Try.func9, Try.ntmps9
  go_wp2_with (first
    | (go_at_call 21; (with_reducible refine (zf _).mono ?_); (rintro e wf ⟨rfl, rfl⟩))
    | (go_at_call 24; first | ((with_reducible refine (z0 _).mono ?_); (rintro e wv ⟨rfl, rfl⟩)) | ((with_reducible refine (z1 _).mono ?_); (rintro e wv ⟨rfl, rfl⟩)) | ((with_reducible refine (z2 _).mono ?_); (rintro e wv ⟨rfl, rfl⟩)) | ((with_reducible refine (z3 _).mono ?_); (rintro e wv ⟨rfl, rfl⟩)) | ((with_reducible refine (z4 _).mono ?_); (rintro e wv ⟨rfl, rfl⟩)) | ((with_reducible refine (z5 _).mono ?_); (rintro e wv ⟨rfl, rfl⟩)) | ((with_reducible refine (z6 _).mono ?_); (rintro e wv ⟨rfl, rfl⟩)))
    | (go_at_call 25; first | ((with_reducible refine (yd _).mono ?_); (rintro e wv ⟨rfl, rfl⟩)) | ((with_reducible refine (yo _).mono ?_); (rintro e wv ⟨rfl, rfl⟩)) | ((with_reducible refine (yb _).mono ?_); (rintro e wv ⟨rfl, rfl⟩))))
  go_ret
  exact ⟨rfl, step_alloc (step_alloc (Below.refl _ w) _) _⟩

set_option maxRecDepth 100000 in
set_option maxHeartbeats 4000000 in
theorem chk_12_0_0_0 (m : M) (A : Option Addr) (c : Nat) (w : World) (hr : BytesAt w w.heap.size A m.data) (h0 : (fls m.kind).isEmpty = false) (h1 : 0 ≤ m.src) (h2 : m.src < 3) (g0 : withinB m.kind 116 m.term 1099511627776 = true) (g1 : withinB m.kind 113 m.seq 1099511627776 = true) (g2 : withinB m.kind 115 m.stamp 1099511627776 = true) (g3 : withinB m.kind 107 m.block 63 = true) (g4 : withinB m.kind 114 m.rt 1099511627776 = true) (g5 : withinB m.kind 114 m.rn 1099511627776 = true) (g6 : withinB m.kind 114 m.rs 3 = true) (ho : hasB m.kind 111 = false) (hok : m.ok = false) (hb : hasB m.kind 98 = false) (hbz : ((m.bits : Int) == 0) = true) (hd : hasB m.kind 100 = false) (hl : ((m.data.length : Int) == 0) = false) :
    Calls Try.prog 9 #[mVal m A c] w fun e w' => e = .returned (.int .i64 2) ∧ Below w.heap.size w w' := by
  obtain ⟨S, hsz, _, _, _, zf⟩ := refFields_str m.kind
  have hS := str_empty S _ hsz
  rw [show ((fls m.kind).map fch).isEmpty = (fls m.kind).isEmpty by simp, h0] at hS
  clear hsz
  have z0 : ∀ w, Calls Try.prog 24 #[.int .i64 m.kind, .int .u8 116, .int .i64 m.term, .int .i64 1099511627776] w (fun e w' => e = .returned (.bool (withinB m.kind 116 m.term 1099511627776)) ∧ w = w') := fun w => refWithin_any m.kind 116 m.term 1099511627776 w
  rw [g0] at z0
  have z1 : ∀ w, Calls Try.prog 24 #[.int .i64 m.kind, .int .u8 113, .int .i64 m.seq, .int .i64 1099511627776] w (fun e w' => e = .returned (.bool (withinB m.kind 113 m.seq 1099511627776)) ∧ w = w') := fun w => refWithin_any m.kind 113 m.seq 1099511627776 w
  rw [g1] at z1
  have z2 : ∀ w, Calls Try.prog 24 #[.int .i64 m.kind, .int .u8 115, .int .i64 m.stamp, .int .i64 1099511627776] w (fun e w' => e = .returned (.bool (withinB m.kind 115 m.stamp 1099511627776)) ∧ w = w') := fun w => refWithin_any m.kind 115 m.stamp 1099511627776 w
  rw [g2] at z2
  have z3 : ∀ w, Calls Try.prog 24 #[.int .i64 m.kind, .int .u8 107, .int .i64 m.block, .int .i64 63] w (fun e w' => e = .returned (.bool (withinB m.kind 107 m.block 63)) ∧ w = w') := fun w => refWithin_any m.kind 107 m.block 63 w
  rw [g3] at z3
  have z4 : ∀ w, Calls Try.prog 24 #[.int .i64 m.kind, .int .u8 114, .int .i64 m.rt, .int .i64 1099511627776] w (fun e w' => e = .returned (.bool (withinB m.kind 114 m.rt 1099511627776)) ∧ w = w') := fun w => refWithin_any m.kind 114 m.rt 1099511627776 w
  rw [g4] at z4
  have z5 : ∀ w, Calls Try.prog 24 #[.int .i64 m.kind, .int .u8 114, .int .i64 m.rn, .int .i64 1099511627776] w (fun e w' => e = .returned (.bool (withinB m.kind 114 m.rn 1099511627776)) ∧ w = w') := fun w => refWithin_any m.kind 114 m.rn 1099511627776 w
  rw [g5] at z5
  have z6 : ∀ w, Calls Try.prog 24 #[.int .i64 m.kind, .int .u8 114, .int .i64 m.rs, .int .i64 3] w (fun e w' => e = .returned (.bool (withinB m.kind 114 m.rs 3)) ∧ w = w') := fun w => refWithin_any m.kind 114 m.rs 3 w
  rw [g6] at z6
  have yd : ∀ w, Calls Try.prog 25 #[.int .i64 m.kind, .int .u8 100] w (fun e w' => e = .returned (.bool (hasB m.kind 100)) ∧ w = w') := fun w => refHas_any m.kind 100 w
  rw [hd] at yd
  have yo : ∀ w, Calls Try.prog 25 #[.int .i64 m.kind, .int .u8 111] w (fun e w' => e = .returned (.bool (hasB m.kind 111)) ∧ w = w') := fun w => refHas_any m.kind 111 w
  rw [ho] at yo
  have yb : ∀ w, Calls Try.prog 25 #[.int .i64 m.kind, .int .u8 98] w (fun e w' => e = .returned (.bool (hasB m.kind 98)) ∧ w = w') := fun w => refHas_any m.kind 98 w
  rw [hb] at yb
  obtain ⟨⟨a0, a1, a2, a3, a4, a5, a6, a7, a8, a9, a10, a11⟩, _, _, _⟩ := back_at m A c [] none w hr bytes_nil ((w.alloc (mObj m A c)).alloc (rO m)) (step_alloc (Below.refl _ _) _)
  rw [hok] at a6
  clear hr h0 g0 g1 g2 g3 g4 g5 g6 ho hb hd
  go_enter Try.func9, Try.ntmps9
  go_wp2_with (first
    | (go_at_call 21; (with_reducible refine (zf _).mono ?_); (rintro e wf ⟨rfl, rfl⟩))
    | (go_at_call 24; first | ((with_reducible refine (z0 _).mono ?_); (rintro e wv ⟨rfl, rfl⟩)) | ((with_reducible refine (z1 _).mono ?_); (rintro e wv ⟨rfl, rfl⟩)) | ((with_reducible refine (z2 _).mono ?_); (rintro e wv ⟨rfl, rfl⟩)) | ((with_reducible refine (z3 _).mono ?_); (rintro e wv ⟨rfl, rfl⟩)) | ((with_reducible refine (z4 _).mono ?_); (rintro e wv ⟨rfl, rfl⟩)) | ((with_reducible refine (z5 _).mono ?_); (rintro e wv ⟨rfl, rfl⟩)) | ((with_reducible refine (z6 _).mono ?_); (rintro e wv ⟨rfl, rfl⟩)))
    | (go_at_call 25; first | ((with_reducible refine (yd _).mono ?_); (rintro e wv ⟨rfl, rfl⟩)) | ((with_reducible refine (yo _).mono ?_); (rintro e wv ⟨rfl, rfl⟩)) | ((with_reducible refine (yb _).mono ?_); (rintro e wv ⟨rfl, rfl⟩))))
  go_ret
  exact ⟨rfl, step_alloc (step_alloc (Below.refl _ w) _) _⟩

set_option maxRecDepth 100000 in
set_option maxHeartbeats 4000000 in
theorem chk_13_1_1_1 (m : M) (A : Option Addr) (c : Nat) (w : World) (hr : BytesAt w w.heap.size A m.data) (h0 : (fls m.kind).isEmpty = false) (h1 : 0 ≤ m.src) (h2 : m.src < 3) (g0 : withinB m.kind 116 m.term 1099511627776 = true) (g1 : withinB m.kind 113 m.seq 1099511627776 = true) (g2 : withinB m.kind 115 m.stamp 1099511627776 = true) (g3 : withinB m.kind 107 m.block 63 = true) (g4 : withinB m.kind 114 m.rt 1099511627776 = true) (g5 : withinB m.kind 114 m.rn 1099511627776 = true) (g6 : withinB m.kind 114 m.rs 3 = true) (ho : hasB m.kind 111 = true) (hb : hasB m.kind 98 = true) (hd : hasB m.kind 100 = true) (hl : ((m.data.length : Int) == 32) = true) :
    Calls Try.prog 9 #[mVal m A c] w fun e w' => e = .returned (.int .i64 0) ∧ Below w.heap.size w w' := by
  obtain ⟨S, hsz, _, _, _, zf⟩ := refFields_str m.kind
  have hS := str_empty S _ hsz
  rw [show ((fls m.kind).map fch).isEmpty = (fls m.kind).isEmpty by simp, h0] at hS
  clear hsz
  have z0 : ∀ w, Calls Try.prog 24 #[.int .i64 m.kind, .int .u8 116, .int .i64 m.term, .int .i64 1099511627776] w (fun e w' => e = .returned (.bool (withinB m.kind 116 m.term 1099511627776)) ∧ w = w') := fun w => refWithin_any m.kind 116 m.term 1099511627776 w
  rw [g0] at z0
  have z1 : ∀ w, Calls Try.prog 24 #[.int .i64 m.kind, .int .u8 113, .int .i64 m.seq, .int .i64 1099511627776] w (fun e w' => e = .returned (.bool (withinB m.kind 113 m.seq 1099511627776)) ∧ w = w') := fun w => refWithin_any m.kind 113 m.seq 1099511627776 w
  rw [g1] at z1
  have z2 : ∀ w, Calls Try.prog 24 #[.int .i64 m.kind, .int .u8 115, .int .i64 m.stamp, .int .i64 1099511627776] w (fun e w' => e = .returned (.bool (withinB m.kind 115 m.stamp 1099511627776)) ∧ w = w') := fun w => refWithin_any m.kind 115 m.stamp 1099511627776 w
  rw [g2] at z2
  have z3 : ∀ w, Calls Try.prog 24 #[.int .i64 m.kind, .int .u8 107, .int .i64 m.block, .int .i64 63] w (fun e w' => e = .returned (.bool (withinB m.kind 107 m.block 63)) ∧ w = w') := fun w => refWithin_any m.kind 107 m.block 63 w
  rw [g3] at z3
  have z4 : ∀ w, Calls Try.prog 24 #[.int .i64 m.kind, .int .u8 114, .int .i64 m.rt, .int .i64 1099511627776] w (fun e w' => e = .returned (.bool (withinB m.kind 114 m.rt 1099511627776)) ∧ w = w') := fun w => refWithin_any m.kind 114 m.rt 1099511627776 w
  rw [g4] at z4
  have z5 : ∀ w, Calls Try.prog 24 #[.int .i64 m.kind, .int .u8 114, .int .i64 m.rn, .int .i64 1099511627776] w (fun e w' => e = .returned (.bool (withinB m.kind 114 m.rn 1099511627776)) ∧ w = w') := fun w => refWithin_any m.kind 114 m.rn 1099511627776 w
  rw [g5] at z5
  have z6 : ∀ w, Calls Try.prog 24 #[.int .i64 m.kind, .int .u8 114, .int .i64 m.rs, .int .i64 3] w (fun e w' => e = .returned (.bool (withinB m.kind 114 m.rs 3)) ∧ w = w') := fun w => refWithin_any m.kind 114 m.rs 3 w
  rw [g6] at z6
  have yd : ∀ w, Calls Try.prog 25 #[.int .i64 m.kind, .int .u8 100] w (fun e w' => e = .returned (.bool (hasB m.kind 100)) ∧ w = w') := fun w => refHas_any m.kind 100 w
  rw [hd] at yd
  have yo : ∀ w, Calls Try.prog 25 #[.int .i64 m.kind, .int .u8 111] w (fun e w' => e = .returned (.bool (hasB m.kind 111)) ∧ w = w') := fun w => refHas_any m.kind 111 w
  rw [ho] at yo
  have yb : ∀ w, Calls Try.prog 25 #[.int .i64 m.kind, .int .u8 98] w (fun e w' => e = .returned (.bool (hasB m.kind 98)) ∧ w = w') := fun w => refHas_any m.kind 98 w
  rw [hb] at yb
  obtain ⟨⟨a0, a1, a2, a3, a4, a5, a6, a7, a8, a9, a10, a11⟩, _, _, _⟩ := back_at m A c [] none w hr bytes_nil ((w.alloc (mObj m A c)).alloc (rO m)) (step_alloc (Below.refl _ _) _)
  clear hr h0 g0 g1 g2 g3 g4 g5 g6 ho hb hd
  go_enter Try.func9, Try.ntmps9
  go_wp2_with (first
    | (go_at_call 21; (with_reducible refine (zf _).mono ?_); (rintro e wf ⟨rfl, rfl⟩))
    | (go_at_call 24; first | ((with_reducible refine (z0 _).mono ?_); (rintro e wv ⟨rfl, rfl⟩)) | ((with_reducible refine (z1 _).mono ?_); (rintro e wv ⟨rfl, rfl⟩)) | ((with_reducible refine (z2 _).mono ?_); (rintro e wv ⟨rfl, rfl⟩)) | ((with_reducible refine (z3 _).mono ?_); (rintro e wv ⟨rfl, rfl⟩)) | ((with_reducible refine (z4 _).mono ?_); (rintro e wv ⟨rfl, rfl⟩)) | ((with_reducible refine (z5 _).mono ?_); (rintro e wv ⟨rfl, rfl⟩)) | ((with_reducible refine (z6 _).mono ?_); (rintro e wv ⟨rfl, rfl⟩)))
    | (go_at_call 25; first | ((with_reducible refine (yd _).mono ?_); (rintro e wv ⟨rfl, rfl⟩)) | ((with_reducible refine (yo _).mono ?_); (rintro e wv ⟨rfl, rfl⟩)) | ((with_reducible refine (yb _).mono ?_); (rintro e wv ⟨rfl, rfl⟩))))
  go_ret
  exact ⟨rfl, step_alloc (step_alloc (Below.refl _ w) _) _⟩

set_option maxRecDepth 100000 in
set_option maxHeartbeats 4000000 in
theorem chk_13_1_1_0 (m : M) (A : Option Addr) (c : Nat) (w : World) (hr : BytesAt w w.heap.size A m.data) (h0 : (fls m.kind).isEmpty = false) (h1 : 0 ≤ m.src) (h2 : m.src < 3) (g0 : withinB m.kind 116 m.term 1099511627776 = true) (g1 : withinB m.kind 113 m.seq 1099511627776 = true) (g2 : withinB m.kind 115 m.stamp 1099511627776 = true) (g3 : withinB m.kind 107 m.block 63 = true) (g4 : withinB m.kind 114 m.rt 1099511627776 = true) (g5 : withinB m.kind 114 m.rn 1099511627776 = true) (g6 : withinB m.kind 114 m.rs 3 = true) (ho : hasB m.kind 111 = true) (hb : hasB m.kind 98 = true) (hd : hasB m.kind 100 = false) (hl : ((m.data.length : Int) == 0) = true) :
    Calls Try.prog 9 #[mVal m A c] w fun e w' => e = .returned (.int .i64 0) ∧ Below w.heap.size w w' := by
  obtain ⟨S, hsz, _, _, _, zf⟩ := refFields_str m.kind
  have hS := str_empty S _ hsz
  rw [show ((fls m.kind).map fch).isEmpty = (fls m.kind).isEmpty by simp, h0] at hS
  clear hsz
  have z0 : ∀ w, Calls Try.prog 24 #[.int .i64 m.kind, .int .u8 116, .int .i64 m.term, .int .i64 1099511627776] w (fun e w' => e = .returned (.bool (withinB m.kind 116 m.term 1099511627776)) ∧ w = w') := fun w => refWithin_any m.kind 116 m.term 1099511627776 w
  rw [g0] at z0
  have z1 : ∀ w, Calls Try.prog 24 #[.int .i64 m.kind, .int .u8 113, .int .i64 m.seq, .int .i64 1099511627776] w (fun e w' => e = .returned (.bool (withinB m.kind 113 m.seq 1099511627776)) ∧ w = w') := fun w => refWithin_any m.kind 113 m.seq 1099511627776 w
  rw [g1] at z1
  have z2 : ∀ w, Calls Try.prog 24 #[.int .i64 m.kind, .int .u8 115, .int .i64 m.stamp, .int .i64 1099511627776] w (fun e w' => e = .returned (.bool (withinB m.kind 115 m.stamp 1099511627776)) ∧ w = w') := fun w => refWithin_any m.kind 115 m.stamp 1099511627776 w
  rw [g2] at z2
  have z3 : ∀ w, Calls Try.prog 24 #[.int .i64 m.kind, .int .u8 107, .int .i64 m.block, .int .i64 63] w (fun e w' => e = .returned (.bool (withinB m.kind 107 m.block 63)) ∧ w = w') := fun w => refWithin_any m.kind 107 m.block 63 w
  rw [g3] at z3
  have z4 : ∀ w, Calls Try.prog 24 #[.int .i64 m.kind, .int .u8 114, .int .i64 m.rt, .int .i64 1099511627776] w (fun e w' => e = .returned (.bool (withinB m.kind 114 m.rt 1099511627776)) ∧ w = w') := fun w => refWithin_any m.kind 114 m.rt 1099511627776 w
  rw [g4] at z4
  have z5 : ∀ w, Calls Try.prog 24 #[.int .i64 m.kind, .int .u8 114, .int .i64 m.rn, .int .i64 1099511627776] w (fun e w' => e = .returned (.bool (withinB m.kind 114 m.rn 1099511627776)) ∧ w = w') := fun w => refWithin_any m.kind 114 m.rn 1099511627776 w
  rw [g5] at z5
  have z6 : ∀ w, Calls Try.prog 24 #[.int .i64 m.kind, .int .u8 114, .int .i64 m.rs, .int .i64 3] w (fun e w' => e = .returned (.bool (withinB m.kind 114 m.rs 3)) ∧ w = w') := fun w => refWithin_any m.kind 114 m.rs 3 w
  rw [g6] at z6
  have yd : ∀ w, Calls Try.prog 25 #[.int .i64 m.kind, .int .u8 100] w (fun e w' => e = .returned (.bool (hasB m.kind 100)) ∧ w = w') := fun w => refHas_any m.kind 100 w
  rw [hd] at yd
  have yo : ∀ w, Calls Try.prog 25 #[.int .i64 m.kind, .int .u8 111] w (fun e w' => e = .returned (.bool (hasB m.kind 111)) ∧ w = w') := fun w => refHas_any m.kind 111 w
  rw [ho] at yo
  have yb : ∀ w, Calls Try.prog 25 #[.int .i64 m.kind, .int .u8 98] w (fun e w' => e = .returned (.bool (hasB m.kind 98)) ∧ w = w') := fun w => refHas_any m.kind 98 w
  rw [hb] at yb
  obtain ⟨⟨a0, a1, a2, a3, a4, a5, a6, a7, a8, a9, a10, a11⟩, _, _, _⟩ := back_at m A c [] none w hr bytes_nil ((w.alloc (mObj m A c)).alloc (rO m)) (step_alloc (Below.refl _ _) _)
  clear hr h0 g0 g1 g2 g3 g4 g5 g6 ho hb hd
  go_enter Try.func9, Try.ntmps9
  go_wp2_with (first
    | (go_at_call 21; (with_reducible refine (zf _).mono ?_); (rintro e wf ⟨rfl, rfl⟩))
    | (go_at_call 24; first | ((with_reducible refine (z0 _).mono ?_); (rintro e wv ⟨rfl, rfl⟩)) | ((with_reducible refine (z1 _).mono ?_); (rintro e wv ⟨rfl, rfl⟩)) | ((with_reducible refine (z2 _).mono ?_); (rintro e wv ⟨rfl, rfl⟩)) | ((with_reducible refine (z3 _).mono ?_); (rintro e wv ⟨rfl, rfl⟩)) | ((with_reducible refine (z4 _).mono ?_); (rintro e wv ⟨rfl, rfl⟩)) | ((with_reducible refine (z5 _).mono ?_); (rintro e wv ⟨rfl, rfl⟩)) | ((with_reducible refine (z6 _).mono ?_); (rintro e wv ⟨rfl, rfl⟩)))
    | (go_at_call 25; first | ((with_reducible refine (yd _).mono ?_); (rintro e wv ⟨rfl, rfl⟩)) | ((with_reducible refine (yo _).mono ?_); (rintro e wv ⟨rfl, rfl⟩)) | ((with_reducible refine (yb _).mono ?_); (rintro e wv ⟨rfl, rfl⟩))))
  go_ret
  exact ⟨rfl, step_alloc (step_alloc (Below.refl _ w) _) _⟩

set_option maxRecDepth 100000 in
set_option maxHeartbeats 4000000 in
theorem chk_13_1_0_1 (m : M) (A : Option Addr) (c : Nat) (w : World) (hr : BytesAt w w.heap.size A m.data) (h0 : (fls m.kind).isEmpty = false) (h1 : 0 ≤ m.src) (h2 : m.src < 3) (g0 : withinB m.kind 116 m.term 1099511627776 = true) (g1 : withinB m.kind 113 m.seq 1099511627776 = true) (g2 : withinB m.kind 115 m.stamp 1099511627776 = true) (g3 : withinB m.kind 107 m.block 63 = true) (g4 : withinB m.kind 114 m.rt 1099511627776 = true) (g5 : withinB m.kind 114 m.rn 1099511627776 = true) (g6 : withinB m.kind 114 m.rs 3 = true) (ho : hasB m.kind 111 = true) (hb : hasB m.kind 98 = false) (hbz : ((m.bits : Int) == 0) = true) (hd : hasB m.kind 100 = true) (hl : ((m.data.length : Int) == 32) = true) :
    Calls Try.prog 9 #[mVal m A c] w fun e w' => e = .returned (.int .i64 0) ∧ Below w.heap.size w w' := by
  obtain ⟨S, hsz, _, _, _, zf⟩ := refFields_str m.kind
  have hS := str_empty S _ hsz
  rw [show ((fls m.kind).map fch).isEmpty = (fls m.kind).isEmpty by simp, h0] at hS
  clear hsz
  have z0 : ∀ w, Calls Try.prog 24 #[.int .i64 m.kind, .int .u8 116, .int .i64 m.term, .int .i64 1099511627776] w (fun e w' => e = .returned (.bool (withinB m.kind 116 m.term 1099511627776)) ∧ w = w') := fun w => refWithin_any m.kind 116 m.term 1099511627776 w
  rw [g0] at z0
  have z1 : ∀ w, Calls Try.prog 24 #[.int .i64 m.kind, .int .u8 113, .int .i64 m.seq, .int .i64 1099511627776] w (fun e w' => e = .returned (.bool (withinB m.kind 113 m.seq 1099511627776)) ∧ w = w') := fun w => refWithin_any m.kind 113 m.seq 1099511627776 w
  rw [g1] at z1
  have z2 : ∀ w, Calls Try.prog 24 #[.int .i64 m.kind, .int .u8 115, .int .i64 m.stamp, .int .i64 1099511627776] w (fun e w' => e = .returned (.bool (withinB m.kind 115 m.stamp 1099511627776)) ∧ w = w') := fun w => refWithin_any m.kind 115 m.stamp 1099511627776 w
  rw [g2] at z2
  have z3 : ∀ w, Calls Try.prog 24 #[.int .i64 m.kind, .int .u8 107, .int .i64 m.block, .int .i64 63] w (fun e w' => e = .returned (.bool (withinB m.kind 107 m.block 63)) ∧ w = w') := fun w => refWithin_any m.kind 107 m.block 63 w
  rw [g3] at z3
  have z4 : ∀ w, Calls Try.prog 24 #[.int .i64 m.kind, .int .u8 114, .int .i64 m.rt, .int .i64 1099511627776] w (fun e w' => e = .returned (.bool (withinB m.kind 114 m.rt 1099511627776)) ∧ w = w') := fun w => refWithin_any m.kind 114 m.rt 1099511627776 w
  rw [g4] at z4
  have z5 : ∀ w, Calls Try.prog 24 #[.int .i64 m.kind, .int .u8 114, .int .i64 m.rn, .int .i64 1099511627776] w (fun e w' => e = .returned (.bool (withinB m.kind 114 m.rn 1099511627776)) ∧ w = w') := fun w => refWithin_any m.kind 114 m.rn 1099511627776 w
  rw [g5] at z5
  have z6 : ∀ w, Calls Try.prog 24 #[.int .i64 m.kind, .int .u8 114, .int .i64 m.rs, .int .i64 3] w (fun e w' => e = .returned (.bool (withinB m.kind 114 m.rs 3)) ∧ w = w') := fun w => refWithin_any m.kind 114 m.rs 3 w
  rw [g6] at z6
  have yd : ∀ w, Calls Try.prog 25 #[.int .i64 m.kind, .int .u8 100] w (fun e w' => e = .returned (.bool (hasB m.kind 100)) ∧ w = w') := fun w => refHas_any m.kind 100 w
  rw [hd] at yd
  have yo : ∀ w, Calls Try.prog 25 #[.int .i64 m.kind, .int .u8 111] w (fun e w' => e = .returned (.bool (hasB m.kind 111)) ∧ w = w') := fun w => refHas_any m.kind 111 w
  rw [ho] at yo
  have yb : ∀ w, Calls Try.prog 25 #[.int .i64 m.kind, .int .u8 98] w (fun e w' => e = .returned (.bool (hasB m.kind 98)) ∧ w = w') := fun w => refHas_any m.kind 98 w
  rw [hb] at yb
  obtain ⟨⟨a0, a1, a2, a3, a4, a5, a6, a7, a8, a9, a10, a11⟩, _, _, _⟩ := back_at m A c [] none w hr bytes_nil ((w.alloc (mObj m A c)).alloc (rO m)) (step_alloc (Below.refl _ _) _)
  clear hr h0 g0 g1 g2 g3 g4 g5 g6 ho hb hd
  go_enter Try.func9, Try.ntmps9
  go_wp2_with (first
    | (go_at_call 21; (with_reducible refine (zf _).mono ?_); (rintro e wf ⟨rfl, rfl⟩))
    | (go_at_call 24; first | ((with_reducible refine (z0 _).mono ?_); (rintro e wv ⟨rfl, rfl⟩)) | ((with_reducible refine (z1 _).mono ?_); (rintro e wv ⟨rfl, rfl⟩)) | ((with_reducible refine (z2 _).mono ?_); (rintro e wv ⟨rfl, rfl⟩)) | ((with_reducible refine (z3 _).mono ?_); (rintro e wv ⟨rfl, rfl⟩)) | ((with_reducible refine (z4 _).mono ?_); (rintro e wv ⟨rfl, rfl⟩)) | ((with_reducible refine (z5 _).mono ?_); (rintro e wv ⟨rfl, rfl⟩)) | ((with_reducible refine (z6 _).mono ?_); (rintro e wv ⟨rfl, rfl⟩)))
    | (go_at_call 25; first | ((with_reducible refine (yd _).mono ?_); (rintro e wv ⟨rfl, rfl⟩)) | ((with_reducible refine (yo _).mono ?_); (rintro e wv ⟨rfl, rfl⟩)) | ((with_reducible refine (yb _).mono ?_); (rintro e wv ⟨rfl, rfl⟩))))
  go_ret
  exact ⟨rfl, step_alloc (step_alloc (Below.refl _ w) _) _⟩

set_option maxRecDepth 100000 in
set_option maxHeartbeats 4000000 in
theorem chk_13_1_0_0 (m : M) (A : Option Addr) (c : Nat) (w : World) (hr : BytesAt w w.heap.size A m.data) (h0 : (fls m.kind).isEmpty = false) (h1 : 0 ≤ m.src) (h2 : m.src < 3) (g0 : withinB m.kind 116 m.term 1099511627776 = true) (g1 : withinB m.kind 113 m.seq 1099511627776 = true) (g2 : withinB m.kind 115 m.stamp 1099511627776 = true) (g3 : withinB m.kind 107 m.block 63 = true) (g4 : withinB m.kind 114 m.rt 1099511627776 = true) (g5 : withinB m.kind 114 m.rn 1099511627776 = true) (g6 : withinB m.kind 114 m.rs 3 = true) (ho : hasB m.kind 111 = true) (hb : hasB m.kind 98 = false) (hbz : ((m.bits : Int) == 0) = true) (hd : hasB m.kind 100 = false) (hl : ((m.data.length : Int) == 0) = true) :
    Calls Try.prog 9 #[mVal m A c] w fun e w' => e = .returned (.int .i64 0) ∧ Below w.heap.size w w' := by
  obtain ⟨S, hsz, _, _, _, zf⟩ := refFields_str m.kind
  have hS := str_empty S _ hsz
  rw [show ((fls m.kind).map fch).isEmpty = (fls m.kind).isEmpty by simp, h0] at hS
  clear hsz
  have z0 : ∀ w, Calls Try.prog 24 #[.int .i64 m.kind, .int .u8 116, .int .i64 m.term, .int .i64 1099511627776] w (fun e w' => e = .returned (.bool (withinB m.kind 116 m.term 1099511627776)) ∧ w = w') := fun w => refWithin_any m.kind 116 m.term 1099511627776 w
  rw [g0] at z0
  have z1 : ∀ w, Calls Try.prog 24 #[.int .i64 m.kind, .int .u8 113, .int .i64 m.seq, .int .i64 1099511627776] w (fun e w' => e = .returned (.bool (withinB m.kind 113 m.seq 1099511627776)) ∧ w = w') := fun w => refWithin_any m.kind 113 m.seq 1099511627776 w
  rw [g1] at z1
  have z2 : ∀ w, Calls Try.prog 24 #[.int .i64 m.kind, .int .u8 115, .int .i64 m.stamp, .int .i64 1099511627776] w (fun e w' => e = .returned (.bool (withinB m.kind 115 m.stamp 1099511627776)) ∧ w = w') := fun w => refWithin_any m.kind 115 m.stamp 1099511627776 w
  rw [g2] at z2
  have z3 : ∀ w, Calls Try.prog 24 #[.int .i64 m.kind, .int .u8 107, .int .i64 m.block, .int .i64 63] w (fun e w' => e = .returned (.bool (withinB m.kind 107 m.block 63)) ∧ w = w') := fun w => refWithin_any m.kind 107 m.block 63 w
  rw [g3] at z3
  have z4 : ∀ w, Calls Try.prog 24 #[.int .i64 m.kind, .int .u8 114, .int .i64 m.rt, .int .i64 1099511627776] w (fun e w' => e = .returned (.bool (withinB m.kind 114 m.rt 1099511627776)) ∧ w = w') := fun w => refWithin_any m.kind 114 m.rt 1099511627776 w
  rw [g4] at z4
  have z5 : ∀ w, Calls Try.prog 24 #[.int .i64 m.kind, .int .u8 114, .int .i64 m.rn, .int .i64 1099511627776] w (fun e w' => e = .returned (.bool (withinB m.kind 114 m.rn 1099511627776)) ∧ w = w') := fun w => refWithin_any m.kind 114 m.rn 1099511627776 w
  rw [g5] at z5
  have z6 : ∀ w, Calls Try.prog 24 #[.int .i64 m.kind, .int .u8 114, .int .i64 m.rs, .int .i64 3] w (fun e w' => e = .returned (.bool (withinB m.kind 114 m.rs 3)) ∧ w = w') := fun w => refWithin_any m.kind 114 m.rs 3 w
  rw [g6] at z6
  have yd : ∀ w, Calls Try.prog 25 #[.int .i64 m.kind, .int .u8 100] w (fun e w' => e = .returned (.bool (hasB m.kind 100)) ∧ w = w') := fun w => refHas_any m.kind 100 w
  rw [hd] at yd
  have yo : ∀ w, Calls Try.prog 25 #[.int .i64 m.kind, .int .u8 111] w (fun e w' => e = .returned (.bool (hasB m.kind 111)) ∧ w = w') := fun w => refHas_any m.kind 111 w
  rw [ho] at yo
  have yb : ∀ w, Calls Try.prog 25 #[.int .i64 m.kind, .int .u8 98] w (fun e w' => e = .returned (.bool (hasB m.kind 98)) ∧ w = w') := fun w => refHas_any m.kind 98 w
  rw [hb] at yb
  obtain ⟨⟨a0, a1, a2, a3, a4, a5, a6, a7, a8, a9, a10, a11⟩, _, _, _⟩ := back_at m A c [] none w hr bytes_nil ((w.alloc (mObj m A c)).alloc (rO m)) (step_alloc (Below.refl _ _) _)
  clear hr h0 g0 g1 g2 g3 g4 g5 g6 ho hb hd
  go_enter Try.func9, Try.ntmps9
  go_wp2_with (first
    | (go_at_call 21; (with_reducible refine (zf _).mono ?_); (rintro e wf ⟨rfl, rfl⟩))
    | (go_at_call 24; first | ((with_reducible refine (z0 _).mono ?_); (rintro e wv ⟨rfl, rfl⟩)) | ((with_reducible refine (z1 _).mono ?_); (rintro e wv ⟨rfl, rfl⟩)) | ((with_reducible refine (z2 _).mono ?_); (rintro e wv ⟨rfl, rfl⟩)) | ((with_reducible refine (z3 _).mono ?_); (rintro e wv ⟨rfl, rfl⟩)) | ((with_reducible refine (z4 _).mono ?_); (rintro e wv ⟨rfl, rfl⟩)) | ((with_reducible refine (z5 _).mono ?_); (rintro e wv ⟨rfl, rfl⟩)) | ((with_reducible refine (z6 _).mono ?_); (rintro e wv ⟨rfl, rfl⟩)))
    | (go_at_call 25; first | ((with_reducible refine (yd _).mono ?_); (rintro e wv ⟨rfl, rfl⟩)) | ((with_reducible refine (yo _).mono ?_); (rintro e wv ⟨rfl, rfl⟩)) | ((with_reducible refine (yb _).mono ?_); (rintro e wv ⟨rfl, rfl⟩))))
  go_ret
  exact ⟨rfl, step_alloc (step_alloc (Below.refl _ w) _) _⟩

set_option maxRecDepth 100000 in
set_option maxHeartbeats 4000000 in
theorem chk_13_0_1_1 (m : M) (A : Option Addr) (c : Nat) (w : World) (hr : BytesAt w w.heap.size A m.data) (h0 : (fls m.kind).isEmpty = false) (h1 : 0 ≤ m.src) (h2 : m.src < 3) (g0 : withinB m.kind 116 m.term 1099511627776 = true) (g1 : withinB m.kind 113 m.seq 1099511627776 = true) (g2 : withinB m.kind 115 m.stamp 1099511627776 = true) (g3 : withinB m.kind 107 m.block 63 = true) (g4 : withinB m.kind 114 m.rt 1099511627776 = true) (g5 : withinB m.kind 114 m.rn 1099511627776 = true) (g6 : withinB m.kind 114 m.rs 3 = true) (ho : hasB m.kind 111 = false) (hok : m.ok = false) (hb : hasB m.kind 98 = true) (hd : hasB m.kind 100 = true) (hl : ((m.data.length : Int) == 32) = true) :
    Calls Try.prog 9 #[mVal m A c] w fun e w' => e = .returned (.int .i64 0) ∧ Below w.heap.size w w' := by
  obtain ⟨S, hsz, _, _, _, zf⟩ := refFields_str m.kind
  have hS := str_empty S _ hsz
  rw [show ((fls m.kind).map fch).isEmpty = (fls m.kind).isEmpty by simp, h0] at hS
  clear hsz
  have z0 : ∀ w, Calls Try.prog 24 #[.int .i64 m.kind, .int .u8 116, .int .i64 m.term, .int .i64 1099511627776] w (fun e w' => e = .returned (.bool (withinB m.kind 116 m.term 1099511627776)) ∧ w = w') := fun w => refWithin_any m.kind 116 m.term 1099511627776 w
  rw [g0] at z0
  have z1 : ∀ w, Calls Try.prog 24 #[.int .i64 m.kind, .int .u8 113, .int .i64 m.seq, .int .i64 1099511627776] w (fun e w' => e = .returned (.bool (withinB m.kind 113 m.seq 1099511627776)) ∧ w = w') := fun w => refWithin_any m.kind 113 m.seq 1099511627776 w
  rw [g1] at z1
  have z2 : ∀ w, Calls Try.prog 24 #[.int .i64 m.kind, .int .u8 115, .int .i64 m.stamp, .int .i64 1099511627776] w (fun e w' => e = .returned (.bool (withinB m.kind 115 m.stamp 1099511627776)) ∧ w = w') := fun w => refWithin_any m.kind 115 m.stamp 1099511627776 w
  rw [g2] at z2
  have z3 : ∀ w, Calls Try.prog 24 #[.int .i64 m.kind, .int .u8 107, .int .i64 m.block, .int .i64 63] w (fun e w' => e = .returned (.bool (withinB m.kind 107 m.block 63)) ∧ w = w') := fun w => refWithin_any m.kind 107 m.block 63 w
  rw [g3] at z3
  have z4 : ∀ w, Calls Try.prog 24 #[.int .i64 m.kind, .int .u8 114, .int .i64 m.rt, .int .i64 1099511627776] w (fun e w' => e = .returned (.bool (withinB m.kind 114 m.rt 1099511627776)) ∧ w = w') := fun w => refWithin_any m.kind 114 m.rt 1099511627776 w
  rw [g4] at z4
  have z5 : ∀ w, Calls Try.prog 24 #[.int .i64 m.kind, .int .u8 114, .int .i64 m.rn, .int .i64 1099511627776] w (fun e w' => e = .returned (.bool (withinB m.kind 114 m.rn 1099511627776)) ∧ w = w') := fun w => refWithin_any m.kind 114 m.rn 1099511627776 w
  rw [g5] at z5
  have z6 : ∀ w, Calls Try.prog 24 #[.int .i64 m.kind, .int .u8 114, .int .i64 m.rs, .int .i64 3] w (fun e w' => e = .returned (.bool (withinB m.kind 114 m.rs 3)) ∧ w = w') := fun w => refWithin_any m.kind 114 m.rs 3 w
  rw [g6] at z6
  have yd : ∀ w, Calls Try.prog 25 #[.int .i64 m.kind, .int .u8 100] w (fun e w' => e = .returned (.bool (hasB m.kind 100)) ∧ w = w') := fun w => refHas_any m.kind 100 w
  rw [hd] at yd
  have yo : ∀ w, Calls Try.prog 25 #[.int .i64 m.kind, .int .u8 111] w (fun e w' => e = .returned (.bool (hasB m.kind 111)) ∧ w = w') := fun w => refHas_any m.kind 111 w
  rw [ho] at yo
  have yb : ∀ w, Calls Try.prog 25 #[.int .i64 m.kind, .int .u8 98] w (fun e w' => e = .returned (.bool (hasB m.kind 98)) ∧ w = w') := fun w => refHas_any m.kind 98 w
  rw [hb] at yb
  obtain ⟨⟨a0, a1, a2, a3, a4, a5, a6, a7, a8, a9, a10, a11⟩, _, _, _⟩ := back_at m A c [] none w hr bytes_nil ((w.alloc (mObj m A c)).alloc (rO m)) (step_alloc (Below.refl _ _) _)
  rw [hok] at a6
  clear hr h0 g0 g1 g2 g3 g4 g5 g6 ho hb hd
  go_enter Try.func9, Try.ntmps9
  go_wp2_with (first
    | (go_at_call 21; (with_reducible refine (zf _).mono ?_); (rintro e wf ⟨rfl, rfl⟩))
    | (go_at_call 24; first | ((with_reducible refine (z0 _).mono ?_); (rintro e wv ⟨rfl, rfl⟩)) | ((with_reducible refine (z1 _).mono ?_); (rintro e wv ⟨rfl, rfl⟩)) | ((with_reducible refine (z2 _).mono ?_); (rintro e wv ⟨rfl, rfl⟩)) | ((with_reducible refine (z3 _).mono ?_); (rintro e wv ⟨rfl, rfl⟩)) | ((with_reducible refine (z4 _).mono ?_); (rintro e wv ⟨rfl, rfl⟩)) | ((with_reducible refine (z5 _).mono ?_); (rintro e wv ⟨rfl, rfl⟩)) | ((with_reducible refine (z6 _).mono ?_); (rintro e wv ⟨rfl, rfl⟩)))
    | (go_at_call 25; first | ((with_reducible refine (yd _).mono ?_); (rintro e wv ⟨rfl, rfl⟩)) | ((with_reducible refine (yo _).mono ?_); (rintro e wv ⟨rfl, rfl⟩)) | ((with_reducible refine (yb _).mono ?_); (rintro e wv ⟨rfl, rfl⟩))))
  go_ret
  exact ⟨rfl, step_alloc (step_alloc (Below.refl _ w) _) _⟩

set_option maxRecDepth 100000 in
set_option maxHeartbeats 4000000 in
theorem chk_13_0_1_0 (m : M) (A : Option Addr) (c : Nat) (w : World) (hr : BytesAt w w.heap.size A m.data) (h0 : (fls m.kind).isEmpty = false) (h1 : 0 ≤ m.src) (h2 : m.src < 3) (g0 : withinB m.kind 116 m.term 1099511627776 = true) (g1 : withinB m.kind 113 m.seq 1099511627776 = true) (g2 : withinB m.kind 115 m.stamp 1099511627776 = true) (g3 : withinB m.kind 107 m.block 63 = true) (g4 : withinB m.kind 114 m.rt 1099511627776 = true) (g5 : withinB m.kind 114 m.rn 1099511627776 = true) (g6 : withinB m.kind 114 m.rs 3 = true) (ho : hasB m.kind 111 = false) (hok : m.ok = false) (hb : hasB m.kind 98 = true) (hd : hasB m.kind 100 = false) (hl : ((m.data.length : Int) == 0) = true) :
    Calls Try.prog 9 #[mVal m A c] w fun e w' => e = .returned (.int .i64 0) ∧ Below w.heap.size w w' := by
  obtain ⟨S, hsz, _, _, _, zf⟩ := refFields_str m.kind
  have hS := str_empty S _ hsz
  rw [show ((fls m.kind).map fch).isEmpty = (fls m.kind).isEmpty by simp, h0] at hS
  clear hsz
  have z0 : ∀ w, Calls Try.prog 24 #[.int .i64 m.kind, .int .u8 116, .int .i64 m.term, .int .i64 1099511627776] w (fun e w' => e = .returned (.bool (withinB m.kind 116 m.term 1099511627776)) ∧ w = w') := fun w => refWithin_any m.kind 116 m.term 1099511627776 w
  rw [g0] at z0
  have z1 : ∀ w, Calls Try.prog 24 #[.int .i64 m.kind, .int .u8 113, .int .i64 m.seq, .int .i64 1099511627776] w (fun e w' => e = .returned (.bool (withinB m.kind 113 m.seq 1099511627776)) ∧ w = w') := fun w => refWithin_any m.kind 113 m.seq 1099511627776 w
  rw [g1] at z1
  have z2 : ∀ w, Calls Try.prog 24 #[.int .i64 m.kind, .int .u8 115, .int .i64 m.stamp, .int .i64 1099511627776] w (fun e w' => e = .returned (.bool (withinB m.kind 115 m.stamp 1099511627776)) ∧ w = w') := fun w => refWithin_any m.kind 115 m.stamp 1099511627776 w
  rw [g2] at z2
  have z3 : ∀ w, Calls Try.prog 24 #[.int .i64 m.kind, .int .u8 107, .int .i64 m.block, .int .i64 63] w (fun e w' => e = .returned (.bool (withinB m.kind 107 m.block 63)) ∧ w = w') := fun w => refWithin_any m.kind 107 m.block 63 w
  rw [g3] at z3
  have z4 : ∀ w, Calls Try.prog 24 #[.int .i64 m.kind, .int .u8 114, .int .i64 m.rt, .int .i64 1099511627776] w (fun e w' => e = .returned (.bool (withinB m.kind 114 m.rt 1099511627776)) ∧ w = w') := fun w => refWithin_any m.kind 114 m.rt 1099511627776 w
  rw [g4] at z4
  have z5 : ∀ w, Calls Try.prog 24 #[.int .i64 m.kind, .int .u8 114, .int .i64 m.rn, .int .i64 1099511627776] w (fun e w' => e = .returned (.bool (withinB m.kind 114 m.rn 1099511627776)) ∧ w = w') := fun w => refWithin_any m.kind 114 m.rn 1099511627776 w
  rw [g5] at z5
  have z6 : ∀ w, Calls Try.prog 24 #[.int .i64 m.kind, .int .u8 114, .int .i64 m.rs, .int .i64 3] w (fun e w' => e = .returned (.bool (withinB m.kind 114 m.rs 3)) ∧ w = w') := fun w => refWithin_any m.kind 114 m.rs 3 w
  rw [g6] at z6
  have yd : ∀ w, Calls Try.prog 25 #[.int .i64 m.kind, .int .u8 100] w (fun e w' => e = .returned (.bool (hasB m.kind 100)) ∧ w = w') := fun w => refHas_any m.kind 100 w
  rw [hd] at yd
  have yo : ∀ w, Calls Try.prog 25 #[.int .i64 m.kind, .int .u8 111] w (fun e w' => e = .returned (.bool (hasB m.kind 111)) ∧ w = w') := fun w => refHas_any m.kind 111 w
  rw [ho] at yo
  have yb : ∀ w, Calls Try.prog 25 #[.int .i64 m.kind, .int .u8 98] w (fun e w' => e = .returned (.bool (hasB m.kind 98)) ∧ w = w') := fun w => refHas_any m.kind 98 w
  rw [hb] at yb
  obtain ⟨⟨a0, a1, a2, a3, a4, a5, a6, a7, a8, a9, a10, a11⟩, _, _, _⟩ := back_at m A c [] none w hr bytes_nil ((w.alloc (mObj m A c)).alloc (rO m)) (step_alloc (Below.refl _ _) _)
  rw [hok] at a6
  clear hr h0 g0 g1 g2 g3 g4 g5 g6 ho hb hd
  go_enter Try.func9, Try.ntmps9
  go_wp2_with (first
    | (go_at_call 21; (with_reducible refine (zf _).mono ?_); (rintro e wf ⟨rfl, rfl⟩))
    | (go_at_call 24; first | ((with_reducible refine (z0 _).mono ?_); (rintro e wv ⟨rfl, rfl⟩)) | ((with_reducible refine (z1 _).mono ?_); (rintro e wv ⟨rfl, rfl⟩)) | ((with_reducible refine (z2 _).mono ?_); (rintro e wv ⟨rfl, rfl⟩)) | ((with_reducible refine (z3 _).mono ?_); (rintro e wv ⟨rfl, rfl⟩)) | ((with_reducible refine (z4 _).mono ?_); (rintro e wv ⟨rfl, rfl⟩)) | ((with_reducible refine (z5 _).mono ?_); (rintro e wv ⟨rfl, rfl⟩)) | ((with_reducible refine (z6 _).mono ?_); (rintro e wv ⟨rfl, rfl⟩)))
    | (go_at_call 25; first | ((with_reducible refine (yd _).mono ?_); (rintro e wv ⟨rfl, rfl⟩)) | ((with_reducible refine (yo _).mono ?_); (rintro e wv ⟨rfl, rfl⟩)) | ((with_reducible refine (yb _).mono ?_); (rintro e wv ⟨rfl, rfl⟩))))
  go_ret
  exact ⟨rfl, step_alloc (step_alloc (Below.refl _ w) _) _⟩

set_option maxRecDepth 100000 in
set_option maxHeartbeats 4000000 in
theorem chk_13_0_0_1 (m : M) (A : Option Addr) (c : Nat) (w : World) (hr : BytesAt w w.heap.size A m.data) (h0 : (fls m.kind).isEmpty = false) (h1 : 0 ≤ m.src) (h2 : m.src < 3) (g0 : withinB m.kind 116 m.term 1099511627776 = true) (g1 : withinB m.kind 113 m.seq 1099511627776 = true) (g2 : withinB m.kind 115 m.stamp 1099511627776 = true) (g3 : withinB m.kind 107 m.block 63 = true) (g4 : withinB m.kind 114 m.rt 1099511627776 = true) (g5 : withinB m.kind 114 m.rn 1099511627776 = true) (g6 : withinB m.kind 114 m.rs 3 = true) (ho : hasB m.kind 111 = false) (hok : m.ok = false) (hb : hasB m.kind 98 = false) (hbz : ((m.bits : Int) == 0) = true) (hd : hasB m.kind 100 = true) (hl : ((m.data.length : Int) == 32) = true) :
    Calls Try.prog 9 #[mVal m A c] w fun e w' => e = .returned (.int .i64 0) ∧ Below w.heap.size w w' := by
  obtain ⟨S, hsz, _, _, _, zf⟩ := refFields_str m.kind
  have hS := str_empty S _ hsz
  rw [show ((fls m.kind).map fch).isEmpty = (fls m.kind).isEmpty by simp, h0] at hS
  clear hsz
  have z0 : ∀ w, Calls Try.prog 24 #[.int .i64 m.kind, .int .u8 116, .int .i64 m.term, .int .i64 1099511627776] w (fun e w' => e = .returned (.bool (withinB m.kind 116 m.term 1099511627776)) ∧ w = w') := fun w => refWithin_any m.kind 116 m.term 1099511627776 w
  rw [g0] at z0
  have z1 : ∀ w, Calls Try.prog 24 #[.int .i64 m.kind, .int .u8 113, .int .i64 m.seq, .int .i64 1099511627776] w (fun e w' => e = .returned (.bool (withinB m.kind 113 m.seq 1099511627776)) ∧ w = w') := fun w => refWithin_any m.kind 113 m.seq 1099511627776 w
  rw [g1] at z1
  have z2 : ∀ w, Calls Try.prog 24 #[.int .i64 m.kind, .int .u8 115, .int .i64 m.stamp, .int .i64 1099511627776] w (fun e w' => e = .returned (.bool (withinB m.kind 115 m.stamp 1099511627776)) ∧ w = w') := fun w => refWithin_any m.kind 115 m.stamp 1099511627776 w
  rw [g2] at z2
  have z3 : ∀ w, Calls Try.prog 24 #[.int .i64 m.kind, .int .u8 107, .int .i64 m.block, .int .i64 63] w (fun e w' => e = .returned (.bool (withinB m.kind 107 m.block 63)) ∧ w = w') := fun w => refWithin_any m.kind 107 m.block 63 w
  rw [g3] at z3
  have z4 : ∀ w, Calls Try.prog 24 #[.int .i64 m.kind, .int .u8 114, .int .i64 m.rt, .int .i64 1099511627776] w (fun e w' => e = .returned (.bool (withinB m.kind 114 m.rt 1099511627776)) ∧ w = w') := fun w => refWithin_any m.kind 114 m.rt 1099511627776 w
  rw [g4] at z4
  have z5 : ∀ w, Calls Try.prog 24 #[.int .i64 m.kind, .int .u8 114, .int .i64 m.rn, .int .i64 1099511627776] w (fun e w' => e = .returned (.bool (withinB m.kind 114 m.rn 1099511627776)) ∧ w = w') := fun w => refWithin_any m.kind 114 m.rn 1099511627776 w
  rw [g5] at z5
  have z6 : ∀ w, Calls Try.prog 24 #[.int .i64 m.kind, .int .u8 114, .int .i64 m.rs, .int .i64 3] w (fun e w' => e = .returned (.bool (withinB m.kind 114 m.rs 3)) ∧ w = w') := fun w => refWithin_any m.kind 114 m.rs 3 w
  rw [g6] at z6
  have yd : ∀ w, Calls Try.prog 25 #[.int .i64 m.kind, .int .u8 100] w (fun e w' => e = .returned (.bool (hasB m.kind 100)) ∧ w = w') := fun w => refHas_any m.kind 100 w
  rw [hd] at yd
  have yo : ∀ w, Calls Try.prog 25 #[.int .i64 m.kind, .int .u8 111] w (fun e w' => e = .returned (.bool (hasB m.kind 111)) ∧ w = w') := fun w => refHas_any m.kind 111 w
  rw [ho] at yo
  have yb : ∀ w, Calls Try.prog 25 #[.int .i64 m.kind, .int .u8 98] w (fun e w' => e = .returned (.bool (hasB m.kind 98)) ∧ w = w') := fun w => refHas_any m.kind 98 w
  rw [hb] at yb
  obtain ⟨⟨a0, a1, a2, a3, a4, a5, a6, a7, a8, a9, a10, a11⟩, _, _, _⟩ := back_at m A c [] none w hr bytes_nil ((w.alloc (mObj m A c)).alloc (rO m)) (step_alloc (Below.refl _ _) _)
  rw [hok] at a6
  clear hr h0 g0 g1 g2 g3 g4 g5 g6 ho hb hd
  go_enter Try.func9, Try.ntmps9
  go_wp2_with (first
    | (go_at_call 21; (with_reducible refine (zf _).mono ?_); (rintro e wf ⟨rfl, rfl⟩))
    | (go_at_call 24; first | ((with_reducible refine (z0 _).mono ?_); (rintro e wv ⟨rfl, rfl⟩)) | ((with_reducible refine (z1 _).mono ?_); (rintro e wv ⟨rfl, rfl⟩)) | ((with_reducible refine (z2 _).mono ?_); (rintro e wv ⟨rfl, rfl⟩)) | ((with_reducible refine (z3 _).mono ?_); (rintro e wv ⟨rfl, rfl⟩)) | ((with_reducible refine (z4 _).mono ?_); (rintro e wv ⟨rfl, rfl⟩)) | ((with_reducible refine (z5 _).mono ?_); (rintro e wv ⟨rfl, rfl⟩)) | ((with_reducible refine (z6 _).mono ?_); (rintro e wv ⟨rfl, rfl⟩)))
    | (go_at_call 25; first | ((with_reducible refine (yd _).mono ?_); (rintro e wv ⟨rfl, rfl⟩)) | ((with_reducible refine (yo _).mono ?_); (rintro e wv ⟨rfl, rfl⟩)) | ((with_reducible refine (yb _).mono ?_); (rintro e wv ⟨rfl, rfl⟩))))
  go_ret
  exact ⟨rfl, step_alloc (step_alloc (Below.refl _ w) _) _⟩

set_option maxRecDepth 100000 in
set_option maxHeartbeats 4000000 in
theorem chk_13_0_0_0 (m : M) (A : Option Addr) (c : Nat) (w : World) (hr : BytesAt w w.heap.size A m.data) (h0 : (fls m.kind).isEmpty = false) (h1 : 0 ≤ m.src) (h2 : m.src < 3) (g0 : withinB m.kind 116 m.term 1099511627776 = true) (g1 : withinB m.kind 113 m.seq 1099511627776 = true) (g2 : withinB m.kind 115 m.stamp 1099511627776 = true) (g3 : withinB m.kind 107 m.block 63 = true) (g4 : withinB m.kind 114 m.rt 1099511627776 = true) (g5 : withinB m.kind 114 m.rn 1099511627776 = true) (g6 : withinB m.kind 114 m.rs 3 = true) (ho : hasB m.kind 111 = false) (hok : m.ok = false) (hb : hasB m.kind 98 = false) (hbz : ((m.bits : Int) == 0) = true) (hd : hasB m.kind 100 = false) (hl : ((m.data.length : Int) == 0) = true) :
    Calls Try.prog 9 #[mVal m A c] w fun e w' => e = .returned (.int .i64 0) ∧ Below w.heap.size w w' := by
  obtain ⟨S, hsz, _, _, _, zf⟩ := refFields_str m.kind
  have hS := str_empty S _ hsz
  rw [show ((fls m.kind).map fch).isEmpty = (fls m.kind).isEmpty by simp, h0] at hS
  clear hsz
  have z0 : ∀ w, Calls Try.prog 24 #[.int .i64 m.kind, .int .u8 116, .int .i64 m.term, .int .i64 1099511627776] w (fun e w' => e = .returned (.bool (withinB m.kind 116 m.term 1099511627776)) ∧ w = w') := fun w => refWithin_any m.kind 116 m.term 1099511627776 w
  rw [g0] at z0
  have z1 : ∀ w, Calls Try.prog 24 #[.int .i64 m.kind, .int .u8 113, .int .i64 m.seq, .int .i64 1099511627776] w (fun e w' => e = .returned (.bool (withinB m.kind 113 m.seq 1099511627776)) ∧ w = w') := fun w => refWithin_any m.kind 113 m.seq 1099511627776 w
  rw [g1] at z1
  have z2 : ∀ w, Calls Try.prog 24 #[.int .i64 m.kind, .int .u8 115, .int .i64 m.stamp, .int .i64 1099511627776] w (fun e w' => e = .returned (.bool (withinB m.kind 115 m.stamp 1099511627776)) ∧ w = w') := fun w => refWithin_any m.kind 115 m.stamp 1099511627776 w
  rw [g2] at z2
  have z3 : ∀ w, Calls Try.prog 24 #[.int .i64 m.kind, .int .u8 107, .int .i64 m.block, .int .i64 63] w (fun e w' => e = .returned (.bool (withinB m.kind 107 m.block 63)) ∧ w = w') := fun w => refWithin_any m.kind 107 m.block 63 w
  rw [g3] at z3
  have z4 : ∀ w, Calls Try.prog 24 #[.int .i64 m.kind, .int .u8 114, .int .i64 m.rt, .int .i64 1099511627776] w (fun e w' => e = .returned (.bool (withinB m.kind 114 m.rt 1099511627776)) ∧ w = w') := fun w => refWithin_any m.kind 114 m.rt 1099511627776 w
  rw [g4] at z4
  have z5 : ∀ w, Calls Try.prog 24 #[.int .i64 m.kind, .int .u8 114, .int .i64 m.rn, .int .i64 1099511627776] w (fun e w' => e = .returned (.bool (withinB m.kind 114 m.rn 1099511627776)) ∧ w = w') := fun w => refWithin_any m.kind 114 m.rn 1099511627776 w
  rw [g5] at z5
  have z6 : ∀ w, Calls Try.prog 24 #[.int .i64 m.kind, .int .u8 114, .int .i64 m.rs, .int .i64 3] w (fun e w' => e = .returned (.bool (withinB m.kind 114 m.rs 3)) ∧ w = w') := fun w => refWithin_any m.kind 114 m.rs 3 w
  rw [g6] at z6
  have yd : ∀ w, Calls Try.prog 25 #[.int .i64 m.kind, .int .u8 100] w (fun e w' => e = .returned (.bool (hasB m.kind 100)) ∧ w = w') := fun w => refHas_any m.kind 100 w
  rw [hd] at yd
  have yo : ∀ w, Calls Try.prog 25 #[.int .i64 m.kind, .int .u8 111] w (fun e w' => e = .returned (.bool (hasB m.kind 111)) ∧ w = w') := fun w => refHas_any m.kind 111 w
  rw [ho] at yo
  have yb : ∀ w, Calls Try.prog 25 #[.int .i64 m.kind, .int .u8 98] w (fun e w' => e = .returned (.bool (hasB m.kind 98)) ∧ w = w') := fun w => refHas_any m.kind 98 w
  rw [hb] at yb
  obtain ⟨⟨a0, a1, a2, a3, a4, a5, a6, a7, a8, a9, a10, a11⟩, _, _, _⟩ := back_at m A c [] none w hr bytes_nil ((w.alloc (mObj m A c)).alloc (rO m)) (step_alloc (Below.refl _ _) _)
  rw [hok] at a6
  clear hr h0 g0 g1 g2 g3 g4 g5 g6 ho hb hd
  go_enter Try.func9, Try.ntmps9
  go_wp2_with (first
    | (go_at_call 21; (with_reducible refine (zf _).mono ?_); (rintro e wf ⟨rfl, rfl⟩))
    | (go_at_call 24; first | ((with_reducible refine (z0 _).mono ?_); (rintro e wv ⟨rfl, rfl⟩)) | ((with_reducible refine (z1 _).mono ?_); (rintro e wv ⟨rfl, rfl⟩)) | ((with_reducible refine (z2 _).mono ?_); (rintro e wv ⟨rfl, rfl⟩)) | ((with_reducible refine (z3 _).mono ?_); (rintro e wv ⟨rfl, rfl⟩)) | ((with_reducible refine (z4 _).mono ?_); (rintro e wv ⟨rfl, rfl⟩)) | ((with_reducible refine (z5 _).mono ?_); (rintro e wv ⟨rfl, rfl⟩)) | ((with_reducible refine (z6 _).mono ?_); (rintro e wv ⟨rfl, rfl⟩)))
    | (go_at_call 25; first | ((with_reducible refine (yd _).mono ?_); (rintro e wv ⟨rfl, rfl⟩)) | ((with_reducible refine (yo _).mono ?_); (rintro e wv ⟨rfl, rfl⟩)) | ((with_reducible refine (yb _).mono ?_); (rintro e wv ⟨rfl, rfl⟩))))
  go_ret
  exact ⟨rfl, step_alloc (step_alloc (Below.refl _ w) _) _⟩

end Go.Proofs.Ytfiijnpabmocdaa
