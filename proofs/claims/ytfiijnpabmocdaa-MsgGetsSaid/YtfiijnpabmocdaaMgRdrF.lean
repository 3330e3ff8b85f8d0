/-
  The document's own reader: a field, where it is numbers. Conditions: the bytes can be read.
-/
import Derived.Test.YtfiijnpabmocdaaMgRdrB
namespace Go.Proofs.Ytfiijnpabmocdaa
open Go.RowKit Mg Fix

theorem FlAt.get {w0 w : World} {R X : Nat} {A : Option Addr} {n c : Nat} {x a : Int} (h : FlAt w0 w R X A n c x a) (hx : x ≠ 0) (s mo : Int) : Calls Try.prog 36 #[.pointer (some ⟨R, 0, none⟩), .int .i64 s, .int .i64 mo] w fun e w' => e = .returned (.int .i64 0) ∧ w = w' := by
  obtain ⟨j, hr⟩ := h.rd
  exact rrget_sticky R A n c j x a s mo w hr hx
theorem field_sticky (w0 w : World) (R X : Nat) (A : Option Addr) (n c : Nat) (x a : Int) (ch : Int) (Y : Option Addr) (h : FlAt w0 w R X A n c x a) (hx : x ≠ 0) : Calls Try.prog 29 #[.pointer (some ⟨R, 0, none⟩), .int .u8 ch, .pointer Y] w fun e w' => e = .returned (.tuple #[]) ∧ w = w' := by
  obtain ⟨j, hr⟩ := h.rd
  obtain ⟨x0, x1, x2, x3, f1, f2, f3⟩ := hr.rd
  have i1 : (x != 0) = true := by rw [bne_iff_ne]; exact hx
  clear hr h hx
  go_enter Try.func29, Try.ntmps29
  go_wp2
  refine bodyPost_ret (v := .tuple #[]) (by simp [results, Try.results29, go_sem]) rfl ⟨rfl, rfl⟩
section
variable (w0 w : World) (R X B : Nat) (A : Option Addr) (l : List UInt8) (n c i : Nat) (m : M) (D : Option Addr) (d : Nat)
theorem fd_term_ok (h : RsAt w0 w R X B A l n c i m D d) (hRX : R ≠ X) (hBR : B ≤ R) (hBX : B ≤ X) (hn : l.length = n) (h1 : n ≤ 1000) (hi : i ≤ n) (v : Int) (j : Nat) (hv : (rOps l).num i (Mg.get m .term) 6 1099511627776 = .ok (v, j)) : Calls Try.prog 29 #[.pointer (some ⟨R, 0, none⟩), .int .u8 116, .pointer (some ⟨X, 0, none⟩)] w fun e w' => e = .returned (.tuple #[]) ∧ RsAt w0 w' R X B A l n c j (Mg.set m v .term) D d := by
  have _u := hi
  clear _u
  have _u := hBR
  clear _u
  have _u := hRX
  clear _u
  have _u := hBX
  clear _u
  obtain ⟨x0, x1, x2, x3, f1, f2, f3⟩ := h.rd.rd
  have hBw : B ≤ w.heap.size := by have := h.bx.lt; omega
  have z : Calls Try.prog 36 #[.pointer (some ⟨R, 0, none⟩), .int .i64 6, .int .i64 1099511627776] w (fun e w' => e = .returned (.int .i64 v) ∧ RrAt w' R A n c j 0 0 ∧ Frame (fun k => k = R) w w') := rrnum_ok R A l n c i 6 _ 1099511627776 v j hn h1 (by decide) hv w h.rd (h.src.more hBw)
  have K := Lib.hid (fun (w2 : World) (hF : Frame (fun k => k = R) w w2) (hr : RrAt w2 R A n c j 0 0) => And.intro (bx_at (h.box hRX hF) 2 (by rfl)) (h.num hRX hBR hBX hF j hr (Mg.set m v .term) 2 (.int .i64 v) (by rfl) (by rfl)))
  clear h hv hn h1 hi hRX hBR hBX
  go_enter Try.func29, Try.ntmps29
  go_wp2_with (go_at_call 36; refine z.mono ?_; (rintro e w2 ⟨rfl, hr, hF⟩; obtain ⟨fz, cz⟩ := (K.out w2 hF hr).1; have KK := Lib.hid (K.out w2 hF hr).2; clear hr hF))
  go_end0
  exact ⟨rfl, KK.out⟩
theorem fd_term_no (h : RsAt w0 w R X B A l n c i m D d) (hRX : R ≠ X) (hBR : B ≤ R) (hBX : B ≤ X) (hn : l.length = n) (h1 : n ≤ 1000) (hi : i ≤ n) (x a : Int) (hv : (rOps l).num i (Mg.get m .term) 6 1099511627776 = .no x a) : Calls Try.prog 29 #[.pointer (some ⟨R, 0, none⟩), .int .u8 116, .pointer (some ⟨X, 0, none⟩)] w fun e w' => e = .returned (.tuple #[]) ∧ FlAt w0 w' R X A n c x a := by
  have _u := hi
  clear _u
  have _u := hBR
  clear _u
  have _u := hRX
  clear _u
  have _u := hBX
  clear _u
  obtain ⟨x0, x1, x2, x3, f1, f2, f3⟩ := h.rd.rd
  have hBw : B ≤ w.heap.size := by have := h.bx.lt; omega
  have z : Calls Try.prog 36 #[.pointer (some ⟨R, 0, none⟩), .int .i64 6, .int .i64 1099511627776] w (fun e w' => e = .returned (.int .i64 0) ∧ RrAt w' R A n c i x a ∧ Frame (fun k => k = R) w w') := rrnum_no R A l n c i 6 _ 1099511627776 x a hn h1 (by decide) hi hv w h.rd (h.src.more hBw)
  have K := Lib.hid (fun (w2 : World) (hF : Frame (fun k => k = R) w w2) (hr : RrAt w2 R A n c i x a) => And.intro (bx_at (h.box hRX hF) 2 (by rfl)) ((FlAt.of h hF x a i hr).write hRX 2 (.int .i64 0)))
  clear h hv hn h1 hi hRX hBR hBX
  go_enter Try.func29, Try.ntmps29
  go_wp2_with (go_at_call 36; refine z.mono ?_; (rintro e w2 ⟨rfl, hr, hF⟩; obtain ⟨fz, cz⟩ := (K.out w2 hF hr).1; have KK := Lib.hid (K.out w2 hF hr).2; clear hr hF))
  go_end0
  exact ⟨rfl, KK.out⟩
theorem fd_seq_ok (h : RsAt w0 w R X B A l n c i m D d) (hRX : R ≠ X) (hBR : B ≤ R) (hBX : B ≤ X) (hn : l.length = n) (h1 : n ≤ 1000) (hi : i ≤ n) (v : Int) (j : Nat) (hv : (rOps l).num i (Mg.get m .seq) 6 1099511627776 = .ok (v, j)) : Calls Try.prog 29 #[.pointer (some ⟨R, 0, none⟩), .int .u8 113, .pointer (some ⟨X, 0, none⟩)] w fun e w' => e = .returned (.tuple #[]) ∧ RsAt w0 w' R X B A l n c j (Mg.set m v .seq) D d := by
  have _u := hi
  clear _u
  have _u := hBR
  clear _u
  have _u := hRX
  clear _u
  have _u := hBX
  clear _u
  obtain ⟨x0, x1, x2, x3, f1, f2, f3⟩ := h.rd.rd
  have hBw : B ≤ w.heap.size := by have := h.bx.lt; omega
  have z : Calls Try.prog 36 #[.pointer (some ⟨R, 0, none⟩), .int .i64 6, .int .i64 1099511627776] w (fun e w' => e = .returned (.int .i64 v) ∧ RrAt w' R A n c j 0 0 ∧ Frame (fun k => k = R) w w') := rrnum_ok R A l n c i 6 _ 1099511627776 v j hn h1 (by decide) hv w h.rd (h.src.more hBw)
  have K := Lib.hid (fun (w2 : World) (hF : Frame (fun k => k = R) w w2) (hr : RrAt w2 R A n c j 0 0) => And.intro (bx_at (h.box hRX hF) 3 (by rfl)) (h.num hRX hBR hBX hF j hr (Mg.set m v .seq) 3 (.int .i64 v) (by rfl) (by rfl)))
  clear h hv hn h1 hi hRX hBR hBX
  go_enter Try.func29, Try.ntmps29
  go_wp2_with (go_at_call 36; refine z.mono ?_; (rintro e w2 ⟨rfl, hr, hF⟩; obtain ⟨fz, cz⟩ := (K.out w2 hF hr).1; have KK := Lib.hid (K.out w2 hF hr).2; clear hr hF))
  go_end0
  exact ⟨rfl, KK.out⟩
theorem fd_seq_no (h : RsAt w0 w R X B A l n c i m D d) (hRX : R ≠ X) (hBR : B ≤ R) (hBX : B ≤ X) (hn : l.length = n) (h1 : n ≤ 1000) (hi : i ≤ n) (x a : Int) (hv : (rOps l).num i (Mg.get m .seq) 6 1099511627776 = .no x a) : Calls Try.prog 29 #[.pointer (some ⟨R, 0, none⟩), .int .u8 113, .pointer (some ⟨X, 0, none⟩)] w fun e w' => e = .returned (.tuple #[]) ∧ FlAt w0 w' R X A n c x a := by
  have _u := hi
  clear _u
  have _u := hBR
  clear _u
  have _u := hRX
  clear _u
  have _u := hBX
  clear _u
  obtain ⟨x0, x1, x2, x3, f1, f2, f3⟩ := h.rd.rd
  have hBw : B ≤ w.heap.size := by have := h.bx.lt; omega
  have z : Calls Try.prog 36 #[.pointer (some ⟨R, 0, none⟩), .int .i64 6, .int .i64 1099511627776] w (fun e w' => e = .returned (.int .i64 0) ∧ RrAt w' R A n c i x a ∧ Frame (fun k => k = R) w w') := rrnum_no R A l n c i 6 _ 1099511627776 x a hn h1 (by decide) hi hv w h.rd (h.src.more hBw)
  have K := Lib.hid (fun (w2 : World) (hF : Frame (fun k => k = R) w w2) (hr : RrAt w2 R A n c i x a) => And.intro (bx_at (h.box hRX hF) 3 (by rfl)) ((FlAt.of h hF x a i hr).write hRX 3 (.int .i64 0)))
  clear h hv hn h1 hi hRX hBR hBX
  go_enter Try.func29, Try.ntmps29
  go_wp2_with (go_at_call 36; refine z.mono ?_; (rintro e w2 ⟨rfl, hr, hF⟩; obtain ⟨fz, cz⟩ := (K.out w2 hF hr).1; have KK := Lib.hid (K.out w2 hF hr).2; clear hr hF))
  go_end0
  exact ⟨rfl, KK.out⟩
theorem fd_stamp_ok (h : RsAt w0 w R X B A l n c i m D d) (hRX : R ≠ X) (hBR : B ≤ R) (hBX : B ≤ X) (hn : l.length = n) (h1 : n ≤ 1000) (hi : i ≤ n) (v : Int) (j : Nat) (hv : (rOps l).num i (Mg.get m .stamp) 6 1099511627776 = .ok (v, j)) : Calls Try.prog 29 #[.pointer (some ⟨R, 0, none⟩), .int .u8 115, .pointer (some ⟨X, 0, none⟩)] w fun e w' => e = .returned (.tuple #[]) ∧ RsAt w0 w' R X B A l n c j (Mg.set m v .stamp) D d := by
  have _u := hi
  clear _u
  have _u := hBR
  clear _u
  have _u := hRX
  clear _u
  have _u := hBX
  clear _u
  obtain ⟨x0, x1, x2, x3, f1, f2, f3⟩ := h.rd.rd
  have hBw : B ≤ w.heap.size := by have := h.bx.lt; omega
  have z : Calls Try.prog 36 #[.pointer (some ⟨R, 0, none⟩), .int .i64 6, .int .i64 1099511627776] w (fun e w' => e = .returned (.int .i64 v) ∧ RrAt w' R A n c j 0 0 ∧ Frame (fun k => k = R) w w') := rrnum_ok R A l n c i 6 _ 1099511627776 v j hn h1 (by decide) hv w h.rd (h.src.more hBw)
  have K := Lib.hid (fun (w2 : World) (hF : Frame (fun k => k = R) w w2) (hr : RrAt w2 R A n c j 0 0) => And.intro (bx_at (h.box hRX hF) 4 (by rfl)) (h.num hRX hBR hBX hF j hr (Mg.set m v .stamp) 4 (.int .i64 v) (by rfl) (by rfl)))
  clear h hv hn h1 hi hRX hBR hBX
  go_enter Try.func29, Try.ntmps29
  go_wp2_with (go_at_call 36; refine z.mono ?_; (rintro e w2 ⟨rfl, hr, hF⟩; obtain ⟨fz, cz⟩ := (K.out w2 hF hr).1; have KK := Lib.hid (K.out w2 hF hr).2; clear hr hF))
  go_end0
  exact ⟨rfl, KK.out⟩
theorem fd_stamp_no (h : RsAt w0 w R X B A l n c i m D d) (hRX : R ≠ X) (hBR : B ≤ R) (hBX : B ≤ X) (hn : l.length = n) (h1 : n ≤ 1000) (hi : i ≤ n) (x a : Int) (hv : (rOps l).num i (Mg.get m .stamp) 6 1099511627776 = .no x a) : Calls Try.prog 29 #[.pointer (some ⟨R, 0, none⟩), .int .u8 115, .pointer (some ⟨X, 0, none⟩)] w fun e w' => e = .returned (.tuple #[]) ∧ FlAt w0 w' R X A n c x a := by
  have _u := hi
  clear _u
  have _u := hBR
  clear _u
  have _u := hRX
  clear _u
  have _u := hBX
  clear _u
  obtain ⟨x0, x1, x2, x3, f1, f2, f3⟩ := h.rd.rd
  have hBw : B ≤ w.heap.size := by have := h.bx.lt; omega
  have z : Calls Try.prog 36 #[.pointer (some ⟨R, 0, none⟩), .int .i64 6, .int .i64 1099511627776] w (fun e w' => e = .returned (.int .i64 0) ∧ RrAt w' R A n c i x a ∧ Frame (fun k => k = R) w w') := rrnum_no R A l n c i 6 _ 1099511627776 x a hn h1 (by decide) hi hv w h.rd (h.src.more hBw)
  have K := Lib.hid (fun (w2 : World) (hF : Frame (fun k => k = R) w w2) (hr : RrAt w2 R A n c i x a) => And.intro (bx_at (h.box hRX hF) 4 (by rfl)) ((FlAt.of h hF x a i hr).write hRX 4 (.int .i64 0)))
  clear h hv hn h1 hi hRX hBR hBX
  go_enter Try.func29, Try.ntmps29
  go_wp2_with (go_at_call 36; refine z.mono ?_; (rintro e w2 ⟨rfl, hr, hF⟩; obtain ⟨fz, cz⟩ := (K.out w2 hF hr).1; have KK := Lib.hid (K.out w2 hF hr).2; clear hr hF))
  go_end0
  exact ⟨rfl, KK.out⟩
theorem fd_block_ok (h : RsAt w0 w R X B A l n c i m D d) (hRX : R ≠ X) (hBR : B ≤ R) (hBX : B ≤ X) (hn : l.length = n) (h1 : n ≤ 1000) (hi : i ≤ n) (v : Int) (j : Nat) (hv : (rOps l).num i (Mg.get m .block) 1 63 = .ok (v, j)) : Calls Try.prog 29 #[.pointer (some ⟨R, 0, none⟩), .int .u8 107, .pointer (some ⟨X, 0, none⟩)] w fun e w' => e = .returned (.tuple #[]) ∧ RsAt w0 w' R X B A l n c j (Mg.set m v .block) D d := by
  have _u := hi
  clear _u
  have _u := hBR
  clear _u
  have _u := hRX
  clear _u
  have _u := hBX
  clear _u
  obtain ⟨x0, x1, x2, x3, f1, f2, f3⟩ := h.rd.rd
  have hBw : B ≤ w.heap.size := by have := h.bx.lt; omega
  have z : Calls Try.prog 36 #[.pointer (some ⟨R, 0, none⟩), .int .i64 1, .int .i64 63] w (fun e w' => e = .returned (.int .i64 v) ∧ RrAt w' R A n c j 0 0 ∧ Frame (fun k => k = R) w w') := rrnum_ok R A l n c i 1 _ 63 v j hn h1 (by decide) hv w h.rd (h.src.more hBw)
  have K := Lib.hid (fun (w2 : World) (hF : Frame (fun k => k = R) w w2) (hr : RrAt w2 R A n c j 0 0) => And.intro (bx_at (h.box hRX hF) 5 (by rfl)) (h.num hRX hBR hBX hF j hr (Mg.set m v .block) 5 (.int .i64 v) (by rfl) (by rfl)))
  clear h hv hn h1 hi hRX hBR hBX
  go_enter Try.func29, Try.ntmps29
  go_wp2_with (go_at_call 36; refine z.mono ?_; (rintro e w2 ⟨rfl, hr, hF⟩; obtain ⟨fz, cz⟩ := (K.out w2 hF hr).1; have KK := Lib.hid (K.out w2 hF hr).2; clear hr hF))
  go_end0
  exact ⟨rfl, KK.out⟩
theorem fd_block_no (h : RsAt w0 w R X B A l n c i m D d) (hRX : R ≠ X) (hBR : B ≤ R) (hBX : B ≤ X) (hn : l.length = n) (h1 : n ≤ 1000) (hi : i ≤ n) (x a : Int) (hv : (rOps l).num i (Mg.get m .block) 1 63 = .no x a) : Calls Try.prog 29 #[.pointer (some ⟨R, 0, none⟩), .int .u8 107, .pointer (some ⟨X, 0, none⟩)] w fun e w' => e = .returned (.tuple #[]) ∧ FlAt w0 w' R X A n c x a := by
  have _u := hi
  clear _u
  have _u := hBR
  clear _u
  have _u := hRX
  clear _u
  have _u := hBX
  clear _u
  obtain ⟨x0, x1, x2, x3, f1, f2, f3⟩ := h.rd.rd
  have hBw : B ≤ w.heap.size := by have := h.bx.lt; omega
  have z : Calls Try.prog 36 #[.pointer (some ⟨R, 0, none⟩), .int .i64 1, .int .i64 63] w (fun e w' => e = .returned (.int .i64 0) ∧ RrAt w' R A n c i x a ∧ Frame (fun k => k = R) w w') := rrnum_no R A l n c i 1 _ 63 x a hn h1 (by decide) hi hv w h.rd (h.src.more hBw)
  have K := Lib.hid (fun (w2 : World) (hF : Frame (fun k => k = R) w w2) (hr : RrAt w2 R A n c i x a) => And.intro (bx_at (h.box hRX hF) 5 (by rfl)) ((FlAt.of h hF x a i hr).write hRX 5 (.int .i64 0)))
  clear h hv hn h1 hi hRX hBR hBX
  go_enter Try.func29, Try.ntmps29
  go_wp2_with (go_at_call 36; refine z.mono ?_; (rintro e w2 ⟨rfl, hr, hF⟩; obtain ⟨fz, cz⟩ := (K.out w2 hF hr).1; have KK := Lib.hid (K.out w2 hF hr).2; clear hr hF))
  go_end0
  exact ⟨rfl, KK.out⟩
theorem fd_ok_ok (h : RsAt w0 w R X B A l n c i m D d) (hRX : R ≠ X) (hBR : B ≤ R) (hBX : B ≤ X) (hn : l.length = n) (h1 : n ≤ 1000) (hi : i ≤ n) (v : Int) (j : Nat) (hv : (rOps l).num i (Mg.get m .ok) 1 1 = .ok (v, j)) : Calls Try.prog 29 #[.pointer (some ⟨R, 0, none⟩), .int .u8 111, .pointer (some ⟨X, 0, none⟩)] w fun e w' => e = .returned (.tuple #[]) ∧ RsAt w0 w' R X B A l n c j (Mg.set m v .ok) D d := by
  have _u := hi
  clear _u
  have _u := hBR
  clear _u
  have _u := hRX
  clear _u
  have _u := hBX
  clear _u
  obtain ⟨x0, x1, x2, x3, f1, f2, f3⟩ := h.rd.rd
  have hBw : B ≤ w.heap.size := by have := h.bx.lt; omega
  have z : Calls Try.prog 36 #[.pointer (some ⟨R, 0, none⟩), .int .i64 1, .int .i64 1] w (fun e w' => e = .returned (.int .i64 v) ∧ RrAt w' R A n c j 0 0 ∧ Frame (fun k => k = R) w w') := rrnum_ok R A l n c i 1 _ 1 v j hn h1 (by decide) hv w h.rd (h.src.more hBw)
  have K := Lib.hid (fun (w2 : World) (hF : Frame (fun k => k = R) w w2) (hr : RrAt w2 R A n c j 0 0) => And.intro (bx_at (h.box hRX hF) 6 (by rfl)) (h.num hRX hBR hBX hF j hr (Mg.set m v .ok) 6 (.bool (v == 1)) (by rfl) (by rfl)))
  clear h hv hn h1 hi hRX hBR hBX
  go_enter Try.func29, Try.ntmps29
  go_wp2_with (go_at_call 36; refine z.mono ?_; (rintro e w2 ⟨rfl, hr, hF⟩; obtain ⟨fz, cz⟩ := (K.out w2 hF hr).1; have KK := Lib.hid (K.out w2 hF hr).2; clear hr hF))
  go_end0
  exact ⟨rfl, KK.out⟩
theorem fd_ok_no (h : RsAt w0 w R X B A l n c i m D d) (hRX : R ≠ X) (hBR : B ≤ R) (hBX : B ≤ X) (hn : l.length = n) (h1 : n ≤ 1000) (hi : i ≤ n) (x a : Int) (hv : (rOps l).num i (Mg.get m .ok) 1 1 = .no x a) : Calls Try.prog 29 #[.pointer (some ⟨R, 0, none⟩), .int .u8 111, .pointer (some ⟨X, 0, none⟩)] w fun e w' => e = .returned (.tuple #[]) ∧ FlAt w0 w' R X A n c x a := by
  have _u := hi
  clear _u
  have _u := hBR
  clear _u
  have _u := hRX
  clear _u
  have _u := hBX
  clear _u
  obtain ⟨x0, x1, x2, x3, f1, f2, f3⟩ := h.rd.rd
  have hBw : B ≤ w.heap.size := by have := h.bx.lt; omega
  have z : Calls Try.prog 36 #[.pointer (some ⟨R, 0, none⟩), .int .i64 1, .int .i64 1] w (fun e w' => e = .returned (.int .i64 0) ∧ RrAt w' R A n c i x a ∧ Frame (fun k => k = R) w w') := rrnum_no R A l n c i 1 _ 1 x a hn h1 (by decide) hi hv w h.rd (h.src.more hBw)
  have K := Lib.hid (fun (w2 : World) (hF : Frame (fun k => k = R) w w2) (hr : RrAt w2 R A n c i x a) => And.intro (bx_at (h.box hRX hF) 6 (by rfl)) ((FlAt.of h hF x a i hr).write hRX 6 (.bool false)))
  clear h hv hn h1 hi hRX hBR hBX
  go_enter Try.func29, Try.ntmps29
  go_wp2_with (go_at_call 36; refine z.mono ?_; (rintro e w2 ⟨rfl, hr, hF⟩; obtain ⟨fz, cz⟩ := (K.out w2 hF hr).1; have KK := Lib.hid (K.out w2 hF hr).2; clear hr hF))
  go_end0
  exact ⟨rfl, KK.out⟩
set_option maxHeartbeats 1000000 in
theorem fd_recd_no0 (h : RsAt w0 w R X B A l n c i m D d) (hRX : R ≠ X) (hBR : B ≤ R) (hBX : B ≤ X) (hn : l.length = n) (h1 : n ≤ 1000) (hi : i ≤ n) (xx aa : Int) (hv0 : (rOps l).num i (Mg.get (m) .rt) 6 1099511627776 = .no xx aa) (hx : xx ≠ 0) : Calls Try.prog 29 #[.pointer (some ⟨R, 0, none⟩), .int .u8 114, .pointer (some ⟨X, 0, none⟩)] w fun e w' => e = .returned (.tuple #[]) ∧ FlAt w0 w' R X A n c xx aa := by
  have _u := hx
  clear _u
  have _u := hi
  clear _u
  have _u := hBR
  clear _u
  have _u := hRX
  clear _u
  have _u := hBX
  clear _u
  obtain ⟨x0, x1, x2, x3, f1, f2, f3⟩ := h.rd.rd
  have hBw : B ≤ w.heap.size := by have := h.bx.lt; omega
  have H0 := Lib.hid h
  have hi0 : i ≤ n := by omega
  have z0 : ∀ x, RsAt w0 x R X B A l n c i (m) D d → Calls Try.prog 36 #[.pointer (some ⟨R, 0, none⟩), .int .i64 6, .int .i64 1099511627776] x (fun e w' => e = .returned (.int .i64 0) ∧ RrAt w' R A n c i xx aa ∧ Frame (fun k => k = R) x w') := fun x H => rrnum_no R A l n c i 6 _ 1099511627776 xx aa hn h1 (by decide) hi0 hv0 x H.rd (H.src.more (by have := H.bx.lt; omega))
  have K0 := Lib.hid (fun (x : World) (H : RsAt w0 x R X B A l n c i (m) D d) (w2 : World) (hF : Frame (fun k => k = R) x w2) (hr : RrAt w2 R A n c i xx aa) => And.intro (H.box hRX hF) (FlAt.of H hF xx aa i hr))
  clear h hv0 hn h1 hi
  go_enter Try.func29, Try.ntmps29
  go_wp2_with (go_at_call 36; first
    | ((with_reducible refine (z0 _ H0.out).mono ?_); (rintro e y0 ⟨rfl, hr, hF⟩; have bx0 := (K0.out _ H0.out _ hF hr).1; obtain ⟨fz, cz⟩ := bx_at bx0 7 (by rfl); have S1 := Lib.hid ((K0.out _ H0.out _ hF hr).2.write hRX 7 (.int .i64 0)); have bx1 := Lib.hid (bx0.set_ 7 (.int .i64 0)); clear hr hF bx0))
    | ((with_reducible refine (S1.out.get hx _ _).mono ?_); (rintro e y1 ⟨rfl, rfl⟩; obtain ⟨fz, cz⟩ := bx_at bx1.out 8 (by rfl); have S2 := Lib.hid (S1.out.write hRX 8 (.int .i64 0)); have bx2 := Lib.hid (bx1.out.set_ 8 (.int .i64 0))))
    | ((with_reducible refine (S2.out.get hx _ _).mono ?_); (rintro e y2 ⟨rfl, rfl⟩; obtain ⟨fz, cz⟩ := bx_at bx2.out 9 (by rfl); have S3 := Lib.hid (S2.out.write hRX 9 (.int .i64 0)); have bx3 := Lib.hid (bx2.out.set_ 9 (.int .i64 0)))))
  go_end0
  exact ⟨rfl, S3.out⟩
set_option maxHeartbeats 1000000 in
theorem fd_recd_no1 (h : RsAt w0 w R X B A l n c i m D d) (hRX : R ≠ X) (hBR : B ≤ R) (hBX : B ≤ X) (hn : l.length = n) (h1 : n ≤ 1000) (hi : i ≤ n) (v0 : Int) (j0 : Nat) (hv0 : (rOps l).num i (Mg.get (m) .rt) 6 1099511627776 = .ok (v0, j0)) (hj0 : j0 ≤ n) (xx aa : Int) (hv1 : (rOps l).num j0 (Mg.get (Mg.set (m) v0 .rt) .rn) 6 1099511627776 = .no xx aa) (hx : xx ≠ 0) : Calls Try.prog 29 #[.pointer (some ⟨R, 0, none⟩), .int .u8 114, .pointer (some ⟨X, 0, none⟩)] w fun e w' => e = .returned (.tuple #[]) ∧ FlAt w0 w' R X A n c xx aa := by
  have _u := hj0
  clear _u
  have _u := hx
  clear _u
  have _u := hi
  clear _u
  have _u := hBR
  clear _u
  have _u := hRX
  clear _u
  have _u := hBX
  clear _u
  obtain ⟨x0, x1, x2, x3, f1, f2, f3⟩ := h.rd.rd
  have hBw : B ≤ w.heap.size := by have := h.bx.lt; omega
  have H0 := Lib.hid h
  have z0 : ∀ x, RsAt w0 x R X B A l n c i (m) D d → Calls Try.prog 36 #[.pointer (some ⟨R, 0, none⟩), .int .i64 6, .int .i64 1099511627776] x (fun e w' => e = .returned (.int .i64 v0) ∧ RrAt w' R A n c j0 0 0 ∧ Frame (fun k => k = R) x w') := fun x H => rrnum_ok R A l n c i 6 _ 1099511627776 v0 j0 hn h1 (by decide) hv0 x H.rd (H.src.more (by have := H.bx.lt; omega))
  have K0 := Lib.hid (fun (x : World) (H : RsAt w0 x R X B A l n c i (m) D d) (w2 : World) (hF : Frame (fun k => k = R) x w2) (hr : RrAt w2 R A n c j0 0 0) => And.intro (bx_at (H.box hRX hF) 7 (by rfl)) (H.num hRX hBR hBX hF j0 hr (Mg.set (m) v0 .rt) 7 (.int .i64 v0) (by rfl) (by rfl)))
  have hi1 : j0 ≤ n := by omega
  have z1 : ∀ x, RsAt w0 x R X B A l n c j0 (Mg.set (m) v0 .rt) D d → Calls Try.prog 36 #[.pointer (some ⟨R, 0, none⟩), .int .i64 6, .int .i64 1099511627776] x (fun e w' => e = .returned (.int .i64 0) ∧ RrAt w' R A n c j0 xx aa ∧ Frame (fun k => k = R) x w') := fun x H => rrnum_no R A l n c j0 6 _ 1099511627776 xx aa hn h1 (by decide) hi1 hv1 x H.rd (H.src.more (by have := H.bx.lt; omega))
  have K1 := Lib.hid (fun (x : World) (H : RsAt w0 x R X B A l n c j0 (Mg.set (m) v0 .rt) D d) (w2 : World) (hF : Frame (fun k => k = R) x w2) (hr : RrAt w2 R A n c j0 xx aa) => And.intro (H.box hRX hF) (FlAt.of H hF xx aa j0 hr))
  clear h hv0 hv1 hn h1 hi
  go_enter Try.func29, Try.ntmps29
  go_wp2_with (go_at_call 36; first
    | ((with_reducible refine (z0 _ H0.out).mono ?_); (rintro e y0 ⟨rfl, hr, hF⟩; obtain ⟨fz, cz⟩ := (K0.out _ H0.out _ hF hr).1; have H1 := Lib.hid (K0.out _ H0.out _ hF hr).2; clear hr hF))
    | ((with_reducible refine (z1 _ H1.out).mono ?_); (rintro e y1 ⟨rfl, hr, hF⟩; have bx1 := (K1.out _ H1.out _ hF hr).1; obtain ⟨fz, cz⟩ := bx_at bx1 8 (by rfl); have S2 := Lib.hid ((K1.out _ H1.out _ hF hr).2.write hRX 8 (.int .i64 0)); have bx2 := Lib.hid (bx1.set_ 8 (.int .i64 0)); clear hr hF bx1))
    | ((with_reducible refine (S2.out.get hx _ _).mono ?_); (rintro e y2 ⟨rfl, rfl⟩; obtain ⟨fz, cz⟩ := bx_at bx2.out 9 (by rfl); have S3 := Lib.hid (S2.out.write hRX 9 (.int .i64 0)); have bx3 := Lib.hid (bx2.out.set_ 9 (.int .i64 0)))))
  go_end0
  exact ⟨rfl, S3.out⟩
set_option maxHeartbeats 1000000 in
theorem fd_recd_no2 (h : RsAt w0 w R X B A l n c i m D d) (hRX : R ≠ X) (hBR : B ≤ R) (hBX : B ≤ X) (hn : l.length = n) (h1 : n ≤ 1000) (hi : i ≤ n) (v0 : Int) (j0 : Nat) (hv0 : (rOps l).num i (Mg.get (m) .rt) 6 1099511627776 = .ok (v0, j0)) (hj0 : j0 ≤ n) (v1 : Int) (j1 : Nat) (hv1 : (rOps l).num j0 (Mg.get (Mg.set (m) v0 .rt) .rn) 6 1099511627776 = .ok (v1, j1)) (hj1 : j1 ≤ n) (xx aa : Int) (hv2 : (rOps l).num j1 (Mg.get (Mg.set (Mg.set (m) v0 .rt) v1 .rn) .rs) 1 3 = .no xx aa) (hx : xx ≠ 0) : Calls Try.prog 29 #[.pointer (some ⟨R, 0, none⟩), .int .u8 114, .pointer (some ⟨X, 0, none⟩)] w fun e w' => e = .returned (.tuple #[]) ∧ FlAt w0 w' R X A n c xx aa := by
  have _u := hj0
  clear _u
  have _u := hj1
  clear _u
  have _u := hx
  clear _u
  have _u := hi
  clear _u
  have _u := hBR
  clear _u
  have _u := hRX
  clear _u
  have _u := hBX
  clear _u
  obtain ⟨x0, x1, x2, x3, f1, f2, f3⟩ := h.rd.rd
  have hBw : B ≤ w.heap.size := by have := h.bx.lt; omega
  have H0 := Lib.hid h
  have z0 : ∀ x, RsAt w0 x R X B A l n c i (m) D d → Calls Try.prog 36 #[.pointer (some ⟨R, 0, none⟩), .int .i64 6, .int .i64 1099511627776] x (fun e w' => e = .returned (.int .i64 v0) ∧ RrAt w' R A n c j0 0 0 ∧ Frame (fun k => k = R) x w') := fun x H => rrnum_ok R A l n c i 6 _ 1099511627776 v0 j0 hn h1 (by decide) hv0 x H.rd (H.src.more (by have := H.bx.lt; omega))
  have K0 := Lib.hid (fun (x : World) (H : RsAt w0 x R X B A l n c i (m) D d) (w2 : World) (hF : Frame (fun k => k = R) x w2) (hr : RrAt w2 R A n c j0 0 0) => And.intro (bx_at (H.box hRX hF) 7 (by rfl)) (H.num hRX hBR hBX hF j0 hr (Mg.set (m) v0 .rt) 7 (.int .i64 v0) (by rfl) (by rfl)))
  have z1 : ∀ x, RsAt w0 x R X B A l n c j0 (Mg.set (m) v0 .rt) D d → Calls Try.prog 36 #[.pointer (some ⟨R, 0, none⟩), .int .i64 6, .int .i64 1099511627776] x (fun e w' => e = .returned (.int .i64 v1) ∧ RrAt w' R A n c j1 0 0 ∧ Frame (fun k => k = R) x w') := fun x H => rrnum_ok R A l n c j0 6 _ 1099511627776 v1 j1 hn h1 (by decide) hv1 x H.rd (H.src.more (by have := H.bx.lt; omega))
  have K1 := Lib.hid (fun (x : World) (H : RsAt w0 x R X B A l n c j0 (Mg.set (m) v0 .rt) D d) (w2 : World) (hF : Frame (fun k => k = R) x w2) (hr : RrAt w2 R A n c j1 0 0) => And.intro (bx_at (H.box hRX hF) 8 (by rfl)) (H.num hRX hBR hBX hF j1 hr (Mg.set (Mg.set (m) v0 .rt) v1 .rn) 8 (.int .i64 v1) (by rfl) (by rfl)))
  have hi2 : j1 ≤ n := by omega
  have z2 : ∀ x, RsAt w0 x R X B A l n c j1 (Mg.set (Mg.set (m) v0 .rt) v1 .rn) D d → Calls Try.prog 36 #[.pointer (some ⟨R, 0, none⟩), .int .i64 1, .int .i64 3] x (fun e w' => e = .returned (.int .i64 0) ∧ RrAt w' R A n c j1 xx aa ∧ Frame (fun k => k = R) x w') := fun x H => rrnum_no R A l n c j1 1 _ 3 xx aa hn h1 (by decide) hi2 hv2 x H.rd (H.src.more (by have := H.bx.lt; omega))
  have K2 := Lib.hid (fun (x : World) (H : RsAt w0 x R X B A l n c j1 (Mg.set (Mg.set (m) v0 .rt) v1 .rn) D d) (w2 : World) (hF : Frame (fun k => k = R) x w2) (hr : RrAt w2 R A n c j1 xx aa) => And.intro (H.box hRX hF) (FlAt.of H hF xx aa j1 hr))
  clear h hv0 hv1 hv2 hn h1 hi
  go_enter Try.func29, Try.ntmps29
  go_wp2_with (go_at_call 36; first
    | ((with_reducible refine (z0 _ H0.out).mono ?_); (rintro e y0 ⟨rfl, hr, hF⟩; obtain ⟨fz, cz⟩ := (K0.out _ H0.out _ hF hr).1; have H1 := Lib.hid (K0.out _ H0.out _ hF hr).2; clear hr hF))
    | ((with_reducible refine (z1 _ H1.out).mono ?_); (rintro e y1 ⟨rfl, hr, hF⟩; obtain ⟨fz, cz⟩ := (K1.out _ H1.out _ hF hr).1; have H2 := Lib.hid (K1.out _ H1.out _ hF hr).2; clear hr hF))
    | ((with_reducible refine (z2 _ H2.out).mono ?_); (rintro e y2 ⟨rfl, hr, hF⟩; have bx2 := (K2.out _ H2.out _ hF hr).1; obtain ⟨fz, cz⟩ := bx_at bx2 9 (by rfl); have S3 := Lib.hid ((K2.out _ H2.out _ hF hr).2.write hRX 9 (.int .i64 0)); have bx3 := Lib.hid (bx2.set_ 9 (.int .i64 0)); clear hr hF bx2)))
  go_end0
  exact ⟨rfl, S3.out⟩
set_option maxHeartbeats 1000000 in
theorem fd_recd_ok (h : RsAt w0 w R X B A l n c i m D d) (hRX : R ≠ X) (hBR : B ≤ R) (hBX : B ≤ X) (hn : l.length = n) (h1 : n ≤ 1000) (hi : i ≤ n) (v0 : Int) (j0 : Nat) (hv0 : (rOps l).num i (Mg.get (m) .rt) 6 1099511627776 = .ok (v0, j0)) (hj0 : j0 ≤ n) (v1 : Int) (j1 : Nat) (hv1 : (rOps l).num j0 (Mg.get (Mg.set (m) v0 .rt) .rn) 6 1099511627776 = .ok (v1, j1)) (hj1 : j1 ≤ n) (v2 : Int) (j2 : Nat) (hv2 : (rOps l).num j1 (Mg.get (Mg.set (Mg.set (m) v0 .rt) v1 .rn) .rs) 1 3 = .ok (v2, j2)) (hj2 : j2 ≤ n) : Calls Try.prog 29 #[.pointer (some ⟨R, 0, none⟩), .int .u8 114, .pointer (some ⟨X, 0, none⟩)] w fun e w' => e = .returned (.tuple #[]) ∧ RsAt w0 w' R X B A l n c j2 (Mg.set (Mg.set (Mg.set (m) v0 .rt) v1 .rn) v2 .rs) D d := by
  have _u := hj0
  clear _u
  have _u := hj1
  clear _u
  have _u := hj2
  clear _u
  have _u := hi
  clear _u
  have _u := hBR
  clear _u
  have _u := hRX
  clear _u
  have _u := hBX
  clear _u
  obtain ⟨x0, x1, x2, x3, f1, f2, f3⟩ := h.rd.rd
  have hBw : B ≤ w.heap.size := by have := h.bx.lt; omega
  have H0 := Lib.hid h
  have z0 : ∀ x, RsAt w0 x R X B A l n c i (m) D d → Calls Try.prog 36 #[.pointer (some ⟨R, 0, none⟩), .int .i64 6, .int .i64 1099511627776] x (fun e w' => e = .returned (.int .i64 v0) ∧ RrAt w' R A n c j0 0 0 ∧ Frame (fun k => k = R) x w') := fun x H => rrnum_ok R A l n c i 6 _ 1099511627776 v0 j0 hn h1 (by decide) hv0 x H.rd (H.src.more (by have := H.bx.lt; omega))
  have K0 := Lib.hid (fun (x : World) (H : RsAt w0 x R X B A l n c i (m) D d) (w2 : World) (hF : Frame (fun k => k = R) x w2) (hr : RrAt w2 R A n c j0 0 0) => And.intro (bx_at (H.box hRX hF) 7 (by rfl)) (H.num hRX hBR hBX hF j0 hr (Mg.set (m) v0 .rt) 7 (.int .i64 v0) (by rfl) (by rfl)))
  have z1 : ∀ x, RsAt w0 x R X B A l n c j0 (Mg.set (m) v0 .rt) D d → Calls Try.prog 36 #[.pointer (some ⟨R, 0, none⟩), .int .i64 6, .int .i64 1099511627776] x (fun e w' => e = .returned (.int .i64 v1) ∧ RrAt w' R A n c j1 0 0 ∧ Frame (fun k => k = R) x w') := fun x H => rrnum_ok R A l n c j0 6 _ 1099511627776 v1 j1 hn h1 (by decide) hv1 x H.rd (H.src.more (by have := H.bx.lt; omega))
  have K1 := Lib.hid (fun (x : World) (H : RsAt w0 x R X B A l n c j0 (Mg.set (m) v0 .rt) D d) (w2 : World) (hF : Frame (fun k => k = R) x w2) (hr : RrAt w2 R A n c j1 0 0) => And.intro (bx_at (H.box hRX hF) 8 (by rfl)) (H.num hRX hBR hBX hF j1 hr (Mg.set (Mg.set (m) v0 .rt) v1 .rn) 8 (.int .i64 v1) (by rfl) (by rfl)))
  have z2 : ∀ x, RsAt w0 x R X B A l n c j1 (Mg.set (Mg.set (m) v0 .rt) v1 .rn) D d → Calls Try.prog 36 #[.pointer (some ⟨R, 0, none⟩), .int .i64 1, .int .i64 3] x (fun e w' => e = .returned (.int .i64 v2) ∧ RrAt w' R A n c j2 0 0 ∧ Frame (fun k => k = R) x w') := fun x H => rrnum_ok R A l n c j1 1 _ 3 v2 j2 hn h1 (by decide) hv2 x H.rd (H.src.more (by have := H.bx.lt; omega))
  have K2 := Lib.hid (fun (x : World) (H : RsAt w0 x R X B A l n c j1 (Mg.set (Mg.set (m) v0 .rt) v1 .rn) D d) (w2 : World) (hF : Frame (fun k => k = R) x w2) (hr : RrAt w2 R A n c j2 0 0) => And.intro (bx_at (H.box hRX hF) 9 (by rfl)) (H.num hRX hBR hBX hF j2 hr (Mg.set (Mg.set (Mg.set (m) v0 .rt) v1 .rn) v2 .rs) 9 (.int .i64 v2) (by rfl) (by rfl)))
  clear h hv0 hv1 hv2 hn h1 hi
  go_enter Try.func29, Try.ntmps29
  go_wp2_with (go_at_call 36; first
    | ((with_reducible refine (z0 _ H0.out).mono ?_); (rintro e y0 ⟨rfl, hr, hF⟩; obtain ⟨fz, cz⟩ := (K0.out _ H0.out _ hF hr).1; have H1 := Lib.hid (K0.out _ H0.out _ hF hr).2; clear hr hF))
    | ((with_reducible refine (z1 _ H1.out).mono ?_); (rintro e y1 ⟨rfl, hr, hF⟩; obtain ⟨fz, cz⟩ := (K1.out _ H1.out _ hF hr).1; have H2 := Lib.hid (K1.out _ H1.out _ hF hr).2; clear hr hF))
    | ((with_reducible refine (z2 _ H2.out).mono ?_); (rintro e y2 ⟨rfl, hr, hF⟩; obtain ⟨fz, cz⟩ := (K2.out _ H2.out _ hF hr).1; have H3 := Lib.hid (K2.out _ H2.out _ hF hr).2; clear hr hF)))
  go_end0
  exact ⟨rfl, H3.out⟩
end
end Go.Proofs.Ytfiijnpabmocdaa
