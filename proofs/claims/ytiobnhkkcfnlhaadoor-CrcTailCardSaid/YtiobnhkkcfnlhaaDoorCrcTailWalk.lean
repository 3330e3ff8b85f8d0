/-
  The walk of CrcTail. Conditions: the table lies as the program's text lays it; the bytes can be read.
-/
import Derived.Test.YtiobnhkkcfnlhaaDoorCrcWalk
import Derived.Test.YtiobnhkkcfnlhaaDoorKitOwn
namespace Go.Proofs.YtiobnhkkcfnlhaaDoor
open Go.RowKit

def WordPost (n : Nat) (w : World) (e : Ending) (w' : World) : Prop :=
  e = .returned (.slice (some ⟨w.heap.size, 0, none⟩) 4 4) ∧ w' = w.alloc (.cells (cellsOfBytes (Crc.word n)).toArray 5)
theorem word_any (n : Nat) (hn : n < 4294967296) (w : World) :
    Calls Tryd.prog 19 #[.int .u32 (n : Int)] w (WordPost n w) := by
  go_enter Tryd.func19, Tryd.ntmps19
  go_wp2
  go_ret
  refine ⟨rfl, ?_⟩
  have e : (cellsOfBytes (Crc.word n)).toArray = #[.int .u8 ((n : Int) % 256), .int .u8 ((n : Int) / 256 % 256), .int .u8 ((n : Int) / 65536 % 256), .int .u8 ((n : Int) / 16777216)] := by
    have h1 : ((n % 2 ^ 8 : Nat) : Int) = (n : Int) % 256 := by omega
    have h2 : ((n / 256 % 2 ^ 8 : Nat) : Int) = (n : Int) / 256 % 256 := by omega
    have h3 : ((n / 65536 % 2 ^ 8 : Nat) : Int) = (n : Int) / 65536 % 256 := by omega
    have h4 : ((n / 16777216 % 2 ^ 8 : Nat) : Int) = (n : Int) / 16777216 := by omega
    simp only [cellsOfBytes, Crc.word, List.map_cons, List.map_nil, UInt8.toNat_ofNat', h1, h2, h3, h4]
  rw [e]

theorem tail_long (A : Option Addr) (l : List UInt8) (c : Nat) (s : Int) (w : World) (ht : TabAt w) (hlen : 5000 < l.length) :
    Calls Tryd.prog 6 #[.slice A l.length c, .int .u32 s] w fun e w' => e = .returned (.bool true) ∧ Below w.heap.size w w' := by
  go_enter Tryd.func6, Tryd.ntmps6
  go_wp2_with (go_at_call 16; refine (awake_any _ ht).mono ?_; rintro e w1 ⟨rfl, hb1⟩)
  go_ret
  exact ⟨rfl, hb1⟩

theorem tail_short (A : Option Addr) (l : List UInt8) (c : Nat) (s : Nat) (hs : s < 4294967296) (w : World) (ht : TabAt w) (hr : BytesAt w w.heap.size A l) (hlen : l.length ≤ 5000) :
    Calls Tryd.prog 6 #[.slice A l.length c, .int .u32 (s : Int)] w fun e w' => e = .returned (.bool true) ∧ Below w.heap.size w w' := by
  go_enter Tryd.func6, Tryd.ntmps6
  go_wp2_with (first
    | (go_at_call 16; refine (awake_any _ ht).mono ?_; (rintro e w1 ⟨rfl, hb1⟩; have ht1 := ht.below hb1 (Nat.le_refl _); have hr1 := (hr.below hb1).more hb1.size))
    | (go_at_call 11; refine (sum_any A l c _ _ ht1 (by omega) hr1).mono ?_; (rintro e w2 ⟨rfl, rfl⟩)))
  go_wp2_with (go_at_call 18; refine (copyBytes_any A l _ c rfl _ (by omega) hr1).mono ?_; (rintro e w2 ⟨A2, c2, rfl, ho2, hb2⟩))
  have hx2 := bytes_new w2 (Crc.word (Crc.sum l)) 5 (0, 0)
  have hb2' := hb2.alloc hb2.size (.cells (cellsOfBytes (Crc.word (Crc.sum l))).toArray 5)
  go_wp2_with (first
    | (go_at_call 19; refine (word_any (Crc.sum l) (Crc.sum_lt l) _).mono ?_; (rintro e w3 ⟨rfl, rfl⟩))
    | (at_builtin; refine wpList_appendB rfl (.tmp 17) (.tmp 19) 22 rfl rfl w1.heap.size _ l rfl (ho2.alloc _) (some ⟨w2.heap.size, 0, none⟩) (Crc.word (Crc.sum l)) 4 4 (w2.heap.size + 1) rfl rfl hx2 ?h1 ?h2 ?h3; rotate_left 2; (intro v3 w3 ho3 hg3 hat3; obtain ⟨A3, c3, rfl, _⟩ := ho3.form)))
  · have hb3 : Below w1.heap.size w1 w3 := hb2'.grown hg3 hb2'.size (fun k hk => (ho2.lt k hk).1)
    have hr3 : BytesAt w3 w3.heap.size A l := (hr1.below hb3).more hb3.size
    have ht3 := ht1.below hb3 (Nat.le_refl _)
    have hodd : ((Crc.sum (l ++ Crc.word s) : Int) == 558161692) = ((s : Int) == (Crc.sum l : Int)) := by
      have h := Crc.sum_tail l s hs
      rw [Bool.eq_iff_iff, beq_iff_eq, beq_iff_eq]
      constructor
      · intro e; exact congrArg _ (h.1 (by omega))
      · intro e; have := h.2 (by omega); omega
    have hbb : (((Crc.sum (l ++ Crc.word s) : Int) == 558161692) == ((s : Int) == (Crc.sum l : Int))) = true := by rw [hodd]; exact beq_self_eq_true _
    have HW : Hid (Crc.sum (l ++ Crc.word (Crc.sum l)) = 558161692) := (Crc.sum_tail l _ (Crc.sum_lt l)).2 rfl
    clear hodd
    go_wp2_with (go_at_call 18; refine (copyBytes_any A l _ c rfl _ (by omega) hr3).mono ?_; (rintro e w4 ⟨A4, c4, rfl, ho4, hb4⟩))
    have hx4 := bytes_new w4 (Crc.word s) 5 (0, 0)
    have hb4' := hb4.alloc hb4.size (.cells (cellsOfBytes (Crc.word s)).toArray 5)
    go_wp2_with (first
      | (go_at_call 19; refine (word_any s hs _).mono ?_; (rintro e w5 ⟨rfl, rfl⟩))
      | (at_builtin; refine wpList_appendB rfl (.tmp 22) (.tmp 24) 22 rfl rfl w3.heap.size _ l rfl (ho4.alloc _) (some ⟨w4.heap.size, 0, none⟩) (Crc.word s) 4 4 (w4.heap.size + 1) rfl rfl hx4 ?g1 ?g2 ?g3; rotate_left 2; (intro v5 w5 ho5 hg5 hat5; obtain ⟨A5, c5, rfl, _⟩ := ho5.form)))
    · have hb5 : Below w3.heap.size w3 w5 := hb4'.grown hg5 hb4'.size (fun k hk => (ho4.lt k hk).1)
      have ht5 := ht3.below hb5 (Nat.le_refl _)
      have ho35 := ho3.below hb5
      have y3 : BytesAt w5 w5.heap.size A3 (l ++ Crc.word (Crc.sum l)) := ho35.bytes
      have y5 : BytesAt w5 w5.heap.size A5 (l ++ Crc.word s) := ho5.bytes
      have z3 := sum_n A3 (l ++ Crc.word (Crc.sum l)) _ c3 List.length_append _ w5 ht5 (by simp [Crc.word]; omega) y3
      have z5 := sum_n A5 (l ++ Crc.word s) _ c5 List.length_append _ w5 ht5 (by simp [Crc.word]; omega) y5
      rw [HW.out, show ((558161692 : Nat) : Int) = 558161692 from rfl] at z3
      go_wp2_with (go_at_call 11; first
        | ((with_reducible refine z3.mono ?_); (rintro e w6 ⟨rfl, rfl⟩))
        | ((with_reducible refine z5.mono ?_); (rintro e w6 ⟨rfl, rfl⟩)))
      go_ret
      exact ⟨rfl, (hb1.trans (hb3.mono hb1.size)).trans (hb5.mono (Nat.le_trans hb1.size hb3.size))⟩
    case g1 => simp [Crc.word]; omega
    case g2 => simp; have := hb4.size; omega
  case h1 => simp [Crc.word]; omega
  case h2 => simp; have := hb2.size; omega

theorem tail_any (A : Option Addr) (l : List UInt8) (c : Nat) (n : Int) (hn : 0 ≤ n ∧ n ≤ 4294967295) (w : World) (ht : TabAt w) (hr : BytesAt w w.heap.size A l) :
    Calls Tryd.prog 6 #[.slice A l.length c, .int .u32 n] w fun e w' => e = .returned (.bool true) ∧ Below w.heap.size w w' := by
  by_cases h : l.length ≤ 5000
  · obtain ⟨s, rfl⟩ : ∃ s : Nat, n = (s : Int) := ⟨n.toNat, by omega⟩
    exact tail_short A l c s (by omega) w ht hr h
  · exact tail_long A l c n w ht (by omega)
end Go.Proofs.YtiobnhkkcfnlhaaDoor
