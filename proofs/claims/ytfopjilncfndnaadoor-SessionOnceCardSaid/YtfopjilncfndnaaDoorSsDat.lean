/-
  A session's datagram: its bytes. Conditions: the table of crc lies as the program's text lays it; its numbers are within their bounds.
-/
import Derived.Test.YtfopjilncfndnaaDoorSsKnown
import Derived.Test.YtfopjilncfndnaaDoorFrAwake
namespace Go.Proofs.YtfopjilncfndnaaDoor
open Go.RowKit Fix

set_option maxRecDepth 100000 in
/-- where a datagram's numbers stand -/
theorem numbers_any (g : Nat) (w : World) : Calls Tryd.prog 63 #[.pointer (some ⟨g, 0, none⟩)] w fun e w' => e = .returned (.agg #[.pointer (some ⟨g, 0, none⟩), .pointer (some ⟨g, 1, none⟩), .pointer (some ⟨g, 2, none⟩), .pointer (some ⟨g, 3, none⟩)]) ∧ Below w.heap.size w w' := by
  obtain ⟨w2, hw2⟩ : ∃ w2, w2 = w.alloc (.cells #[.pointer none, .pointer none, .pointer none, .pointer none] 122) := ⟨_, rfl⟩
  have B2 : Below w.heap.size w w2 := by rw [hw2]; exact (Below.refl _ _).alloc (Nat.le_refl _) _
  have b2 : BlkR 122 w2 w.heap.size [.pointer none, .pointer none, .pointer none, .pointer none] := by rw [hw2]; exact BlkR.new w _ _
  have d0 := b2.cell (k := 0) rfl
  have d1 := b2.cell (k := 1) rfl
  have d2 := b2.cell (k := 2) rfl
  have d3 := b2.cell (k := 3) rfl
  have g0 := b2.frozen 0
  have g1 := b2.frozen 1
  have g2 := b2.frozen 2
  have g3 := b2.frozen 3
  have B2 := Lib.hid B2
  clear b2
  go_enter Tryd.func63, Tryd.ntmps63
  go_wp2
  rw [← hw2]
  clear hw2
  go_region
  go_wp2
  refine bodyPost_ret (v := .agg #[.pointer (some ⟨g, 0, none⟩), .pointer (some ⟨g, 1, none⟩), .pointer (some ⟨g, 2, none⟩), .pointer (some ⟨g, 3, none⟩)]) (by simp [results, Tryd.results63, go_sem, d0, d1, d2, d3]) rfl ⟨rfl, ?_⟩
  refine Below.drew (Below.setCell (Below.setCell (Below.setCell (Below.setCell B2.out ?_ _) ?_ _) ?_ _) ?_ _) <;> exact Nat.le_refl _
theorem put6 (n : Nat) (hn : n < 281474976710656) (w : World) : Calls Tryd.prog 64 #[.int .i64 (n : Int), .int .i64 6] w fun e w' =>
    ∃ A c, e = .returned (.tuple #[.slice A 6 c, .int .i64 0]) ∧ 6 ≤ c ∧ BytesAt w' w'.heap.size A (dig n 6) ∧ Below w.heap.size w w' := by
  have hn' : (n : Int) < (256 : Int) ^ 6 := by
    rw [show (256 : Int) ^ 6 = 281474976710656 from by decide]; omega
  obtain ⟨e1, e2⟩ := putBE_good (n : Int) 6 (by decide) (by rw [fitsB_iff]; exact ⟨by omega, hn'⟩)
  refine (put_any (n : Int) 6 w (by omega)).mono fun e w' ⟨A, c, he, hc, hr, hB⟩ => ?_
  rw [e1, Int.toNat_natCast, show (6 : Int).toNat = 6 from rfl] at hr hc he
  rw [dig_length] at hc he
  rw [e2] at he
  exact ⟨A, c, he, hc, hr, hB⟩
/-- a datagram's four numbers, and those of them that are laid already -/
def ns (d : Ss.D) (j : Nat) : Nat := match j with | 0 => d.boot | 1 => d.num | 2 => d.o.boot | _ => d.o.top
def laid (d : Ss.D) : Nat → List UInt8
  | 0 => []
  | j + 1 => laid d j ++ dig (ns d j) 6
theorem laid_length (d : Ss.D) : ∀ j, (laid d j).length = 6 * j
  | 0 => rfl
  | j + 1 => by rw [laid, List.length_append, dig_length, laid_length d j]; omega
theorem laid_body (d : Ss.D) : laid d 4 ++ dig d.o.came 8 ++ d.pay = d.body := by
  simp [laid, ns, Ss.D.body]
theorem ns_lt {d : Ss.D} (h : d.Ok) (j : Nat) : ns d j ≤ 1099511627776 := by
  unfold ns
  split
  · exact h.boot2
  · exact h.num
  · exact h.o1
  · exact h.o2
/-- a datagram as a value, and in a block -/
abbrev dCells (d : Ss.D) (v : Value) : List Value := [.int .i64 (d.boot : Int), .int .i64 (d.num : Int), .int .i64 (d.o.boot : Int), .int .i64 (d.o.top : Int), .int .u64 (d.o.came : Int), v]
theorem dCells_ns (d : Ss.D) (v : Value) (j : Nat) (hj : j < 4) : (dCells d v)[j]? = some (.int .i64 (ns d j : Int)) := by
  obtain rfl | rfl | rfl | rfl : j = 0 ∨ j = 1 ∨ j = 2 ∨ j = 3 := by omega
  all_goals rfl
abbrev pArr (g : Nat) : Value := .agg #[.pointer (some ⟨g, 0, none⟩), .pointer (some ⟨g, 1, none⟩), .pointer (some ⟨g, 2, none⟩), .pointer (some ⟨g, 3, none⟩)]
theorem pArr_at (g j : Nat) (hj : j < 4) (w : World) : (Instr.index 122 (pArr g) (.int .i64 (j : Int))).run Tryd.prog w = .ok (.pointer (some ⟨g, j, none⟩)) w := by
  obtain rfl | rfl | rfl | rfl : j = 0 ∨ j = 1 ∨ j = 2 ∨ j = 3 := by omega
  all_goals kernel_rfl
def DatPost (d : Ss.D) (n : Nat) (w : World) (e : Ending) (w' : World) : Prop :=
  ∃ A c, e = .returned (.slice A (n + 41) c) ∧ n + 41 ≤ c ∧ c ≤ 9223372036854775807 ∧ OwnZ w' w.heap.size (.slice A (n + 41) c) d.enc ∧ Below w.heap.size w w'
set_option maxRecDepth 100000 in
set_option maxHeartbeats 1000000 in
theorem datBytes_any (d : Ss.D) (h : d.Ok) (P : Option Addr) (n c : Nat) (hn : d.pay.length = n) (w : World) (ht : TabAt w) (hr : BytesAt w w.heap.size P d.pay) :
    Calls Tryd.prog 45 #[.agg #[.int .i64 (d.boot : Int), .int .i64 (d.num : Int), .int .i64 (d.o.boot : Int), .int .i64 (d.o.top : Int), .int .u64 (d.o.came : Int), .slice P n c]] w (DatPost d n w) := by
  have h160 := h.pay160
  obtain ⟨w1, hw1⟩ : ∃ w1, w1 = w.alloc (.cells #[.int .i64 (d.boot : Int), .int .i64 (d.num : Int), .int .i64 (d.o.boot : Int), .int .i64 (d.o.top : Int), .int .u64 (d.o.came : Int), .slice P n c] 101) := ⟨_, rfl⟩
  have B1 : Below w.heap.size w w1 := by rw [hw1]; exact (Below.refl _ _).alloc (Nat.le_refl _) _
  have b1 : BlkR 101 w1 w.heap.size (dCells d (.slice P n c)) := by rw [hw1]; exact BlkR.new w _ _
  have zn := numbers_any w.heap.size w1
  have DX := Lib.hid (And.intro b1 (And.intro B1 (And.intro ht (And.intro hr (And.intro h (And.intro hn h160))))))
  clear b1 B1 ht hr h hn h160
  go_enter Tryd.func45, Tryd.ntmps45
  go_wp2_with (go_at_call 63; rw [← hw1]; refine zn.mono ?_; (rintro e w2 ⟨rfl, B2⟩))
  go_loopw [3, 11] (fun v i wr => ∃ j : Nat, j ≤ 4 ∧ i = .int .i64 (j : Int) ∧ OwnB wr w1.heap.size v (laid d j) ∧ Below w1.heap.size w1 wr) (fun _ i _ => 4 - (intOf i).toNat)
  case atStart => exact ⟨0, Nat.zero_le _, rfl, OwnB.nil_, B2⟩
  case round =>
    obtain ⟨j, hj, rfl, hown, hbel⟩ := hrel
    have LL := laid_length d j
    have S1 := hbel.size
    by_cases hjn : j < 4
    · have hcell := (DX.out.1.below hbel DX.out.1.lt).cell (dCells_ns d (.slice P n c) j hjn)
      have hix := pArr_at w.heap.size j hjn
      have zp := fun wr => put6 (ns d j) (by have := ns_lt DX.out.2.2.2.2.1 j; omega) wr
      have hi : (j : Int) < 4 := by omega
      have HB := Lib.hid hbel
      have HX := Lib.hid (And.intro hjn (And.intro LL S1))
      obtain ⟨l, hl⟩ : ∃ l, l = laid d j := ⟨_, rfl⟩
      obtain ⟨m, hm⟩ : ∃ m, m = ns d j := ⟨_, rfl⟩
      rw [← hl] at hown
      rw [← hm] at hcell zp
      have HL := Lib.hid (And.intro hl hm)
      clear hbel hj hjn LL S1 hl hm zn hw1 B2
      go_wp2_with (first
        | (go_at_call 64; refine (zp _).mono ?_; (rintro e w3 ⟨A3, c3, rfl, hc3, b3, B3⟩; have S3 := B3.size; have own3 := hown.below B3; have C3 := Lib.hid (HB.out.trans (B3.mono HX.out.2.2))))
        | (at_builtin; refine wpList_appendB rfl (.tmp 21) (.tmp 22) 39 rfl rfl w1.heap.size _ l rfl own3 A3 (dig m 6) 6 c3 _ rfl (dig_length _ _) b3 (by have := HX.out.2.1; have := HX.out.1; rw [dig_length, HL.out.1]; omega) (Nat.le_trans HX.out.2.2 S3) ?_; (intro v4 w4 ho4 hg4 hat4; have B4 : Below w1.heap.size w1 w4 := C3.out.grown hg4 (Nat.le_trans HX.out.2.2 S3) (fun k hk => (own3.lt k hk).1))))
      go_roundw
      case rel =>
        refine ⟨j + 1, HX.out.1, by go_num, ?_, B4⟩
        rw [HL.out.1, HL.out.2] at ho4
        exact ho4
      case measure => have := HX.out.1; simp [intOf]; omega
    · obtain rfl : j = 4 := by omega
      obtain ⟨b1, B1, ht, hr, h, hn, h160⟩ := DX.out
      have bw := b1.below hbel b1.lt
      have c4 := bw.cell (k := 4) rfl
      have B0 : Below w.heap.size w wr := B1.trans (hbel.mono B1.size)
      have zl := fun w => long_any d.o.came w
      unfold LayPost at zl
      have hb := laid_body d
      obtain ⟨cm, hcm⟩ : ∃ x, x = d.o.came := ⟨_, rfl⟩
      rw [← hcm] at c4 zl hb
      obtain ⟨l, hl⟩ : ∃ l, l = laid d 4 := ⟨_, rfl⟩
      rw [← hl] at hown LL hb
      obtain ⟨p, hp⟩ : ∃ p, p = d.pay := ⟨_, rfl⟩
      rw [← hp] at hr hb
      have hbl : d.body.length = n + 32 := by rw [Ss.body_length, hn]
      have hpl : p.length = n := by rw [hp, hn]
      have zf := fun A c w t h => frput_yes A d.body (n + 32) c hbl (by omega) w t h
      have he : Frm.enc d.body = d.enc := rfl
      rw [he] at zf
      obtain ⟨B, hB⟩ : ∃ B, B = d.body := ⟨_, rfl⟩
      rw [← hB] at zf hb hbl
      obtain ⟨E, hE⟩ : ∃ E, E = d.enc := ⟨_, rfl⟩
      rw [← hE] at zf
      have HR := Lib.hid (And.intro hr (And.intro ht (And.intro B1 b1)))
      have HX := Lib.hid (And.intro LL (And.intro S1 (And.intro hb (And.intro hbl (And.intro hpl (And.intro hE (And.intro hbel h160)))))))
      have HB1 := Lib.hid (B1.size)
      have HN := Lib.hid (show n ≤ 160 by omega)
      clear hbel LL S1 hl hcm hp hn h160 h hb hbl hpl he hB hE hr ht B0 bw b1 B1 zn hw1 B2 DX hj hjn
      have KX : Hid (∀ w4, Below w1.heap.size w1 w4 → w4.cell? ⟨w.heap.size, 5, none⟩ = some (.slice P n c) ∧ BytesAt w4 w4.heap.size P p ∧ TabAt w4 ∧ Below w.heap.size w w4) := Lib.hid fun w4 B4 => by
        obtain ⟨hr, ht, B1, b1⟩ := HR.out
        have B04 := B1.trans (B4.mono B1.size)
        exact ⟨(b1.below B4 b1.lt).cell (k := 5) rfl, hr.step B04, ht.below B04 (Nat.le_refl _), B04⟩
      go_wp2_with (first
        | (go_at_call 65; refine (zl wr).mono ?_; (rintro e w3 ⟨g3, rfl, hg3, k3, B3⟩; have S3 := B3.size; have own3 := hown.below B3; have b3 := k3.at_; have C3 := Lib.hid (HX.out.2.2.2.2.2.2.1.trans (B3.mono HX.out.2.1))))
        | (at_builtin; refine wpList_appendB rfl (.tmp 25) (.tmp 29) 39 rfl rfl w1.heap.size _ l rfl own3 (some ⟨g3, 0, none⟩) (dig cm 8) 8 8 _ rfl (dig_length _ _) b3 (by have := HX.out.1; rw [dig_length]; omega) (Nat.le_trans HX.out.2.1 S3) ?_; (intro v4 w4 ho4 hg4 hat4; have B4 : Below w1.heap.size w1 w4 := C3.out.grown hg4 (Nat.le_trans HX.out.2.1 S3) (fun k hk => (own3.lt k hk).1); have S4 := B4.size; obtain ⟨c5, r4, t4, _⟩ := KX.out w4 B4; have r4 := Lib.hid r4; have t4 := Lib.hid t4))
        | (at_builtin; refine wpList_appendB rfl (.tmp 32) (.tmp 34) 39 rfl rfl w1.heap.size _ (l ++ dig cm 8) rfl ho4 P p n c _ rfl HX.out.2.2.2.2.1 r4.out (by have := HX.out.1; have := HX.out.2.2.2.2.1; have := HX.out.2.2.2.1; have h8 := HX.out.2.2.2.2.2.2.2; rw [List.length_append, dig_length]; have := HN.out; omega) S4 ?_; (intro v5 w5 ho5 hg5 hat5; rw [HX.out.2.2.1] at ho5; have B5 : Below w1.heap.size w1 w5 := B4.grown hg5 S4 (fun k hk => (ho4.lt k hk).1); obtain ⟨A5, e5, rfl, hc5⟩ := ho5.form; rw [HX.out.2.2.2.1]; have b5 := Lib.hid ho5.bytes; obtain ⟨_, _, t5, B05⟩ := KX.out w5 B5; have t5 := Lib.hid t5; have B05 := Lib.hid B05; have S05 := Lib.hid B05.out.size))
        | (go_at_call 66; refine (zf A5 e5 _ t5.out b5.out).mono ?_; (rintro e w6 ⟨A6, c6, rfl, hc6, hm6, o6, B6⟩; have HQ := Lib.hid (And.intro (o6.less S05.out) (step_trans B05.out B6)); clear o6 B6)))
      go_ret
      rw [HX.out.2.2.2.2.2.1] at HQ
      exact ⟨A6, c6, rfl, hc6, hm6, HQ.out.1, HQ.out.2⟩
end Go.Proofs.YtfopjilncfndnaaDoor
