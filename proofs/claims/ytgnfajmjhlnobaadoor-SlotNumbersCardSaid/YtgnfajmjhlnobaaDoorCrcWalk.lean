/-
  crc.More, crc.Sum, crc.Right: what they return. Conditions: the table lies as the program's text lays it; the bytes can be read.
-/
import Derived.Test.YtgnfajmjhlnobaaDoorMem
import Derived.Test.YtgnfajmjhlnobaaDoorCrcMath
import Derived.Outline
import Derived.Lib.SlBytesConst
import Derived.Laws.BitsAllLaws
namespace Go.Proofs.YtgnfajmjhlnobaaDoor
open Go.RowKit

/-- the table lies as it must -/
def TabAt (w : World) : Prop := ∀ i, i < 16 → w.cell? ⟨0, i, none⟩ = some (.int .u32 (Crc.tab i : Int))

theorem not_u32 (s : Nat) (hs : s < 4294967296) : bits .xor .u32 IntKind.u32.max (s : Int) = ((s ^^^ Crc.ones : Nat) : Int) := by
  have h : IntKind.u32.max = ((Crc.ones : Nat) : Int) := by decide
  rw [h, u32_xor_nat _ _ (by decide) hs, Nat.xor_comm]

theorem more_any (s : Nat) (hs : s < 4294967296) (A : Option Addr) (l : List UInt8) (c : Nat) (B : Nat) (w : World) (ht : TabAt w) (hl : l.length ≤ 1000000) (hr : BytesAt w B A l) :
    Calls Tryd.prog 66 #[.int .u32 (s : Int), .slice A l.length c] w fun e w' => e = .returned (.int .u32 (Crc.more s l : Int)) ∧ w = w' := by
  have hn := not_u32 s hs
  have hs1 : s ^^^ Crc.ones < 4294967296 := Crc.x32 hs (by decide)
  go_enter Tryd.func66, Tryd.ntmps66
  go_wp2
  clear hn
  go_loop [5, 12] (fun r i => ∃ k : Nat, k ≤ l.length ∧ i = .int .i64 k ∧ r = .int .u32 (Crc.run (s ^^^ Crc.ones) (l.take k) : Nat)) (fun _ i => l.length - (intOf i).toNat)
  case atStart => exact ⟨0, Nat.zero_le _, rfl, rfl⟩
  case round =>
    obtain ⟨k, hk, rfl, rfl⟩ := hrel
    by_cases hlt : k < l.length
    · obtain ⟨d, hd⟩ : ∃ d, d = Crc.run (s ^^^ Crc.ones) (l.take k) := ⟨_, rfl⟩
      obtain ⟨x, hx⟩ : ∃ x, x = l.getD k 0 := ⟨_, rfl⟩
      obtain ⟨e, he⟩ : ∃ e, e = d ^^^ x.toNat := ⟨_, rfl⟩
      obtain ⟨f, hf⟩ : ∃ f, f = Crc.mvs 4 e := ⟨_, rfl⟩
      obtain ⟨g, hg⟩ : ∃ g, g = Crc.mvs 4 f := ⟨_, rfl⟩
      have hd1 : d < 4294967296 := by rw [hd]; exact Crc.run_lt hs1 (l.take k)
      have hx1 := x.toNat_lt
      have he1 : e < 4294967296 := by rw [he]; exact Crc.x32 hd1 (by omega)
      have hf1 : f < 4294967296 := by rw [hf]; exact Crc.mvs_lt 4 he1
      have hg1 : g < 4294967296 := by rw [hg]; exact Crc.mvs_lt 4 hf1
      have q1 : bits .xor .u32 (d : Int) (x.toNat : Int) = (e : Int) := by rw [he]; exact u32_xor_nat _ _ hd1 (by omega)
      have q2 : bits .and .u32 (e : Int) 15 = ((e % 16 : Nat) : Int) := by rw [← nat_mask4]; exact u32_and_nat _ 15 he1 (by decide)
      have q3 : bits .and .u32 (f : Int) 15 = ((f % 16 : Nat) : Int) := by rw [← nat_mask4]; exact u32_and_nat _ 15 hf1 (by decide)
      have tl : ∀ i, i < 16 → Crc.tab i < 4294967296 := fun i hi => Crc.mvs_lt 4 (by omega)
      have q4 : bits .xor .u32 ((e : Int) / 16) (Crc.tab (e % 16) : Int) = (f : Int) := by
        rw [hf, Crc.mvs4]; exact u32_xor_nat (e / 16) _ (by omega) (tl _ (by omega))
      have q5 : bits .xor .u32 ((f : Int) / 16) (Crc.tab (f % 16) : Int) = (g : Int) := by
        rw [hg, Crc.mvs4]; exact u32_xor_nat (f / 16) _ (by omega) (tl _ (by omega))
      have t1 := ht (e % 16) (by omega)
      have t2 := ht (f % 16) (by omega)
      obtain ⟨ad, rfl, hb, hc⟩ := hr (by rintro rfl; simp at hlt)
      have hcell := hc k hlt
      rw [← hx] at hcell
      rw [← hd]
      have H := And.intro hd (And.intro hx (And.intro he (And.intro hf hg)))
      clear hc hr ht tl hd hx he hf hg
      replace H := Lib.hid H
      go_wp2
      clear q1 q2 q3 q4 q5
      go_round
      case rel =>
        obtain ⟨hd, hx, he, hf, hg⟩ := H.out
        refine ⟨k + 1, by omega, by go_num, ?_⟩
        have e1 : l.take (k + 1) = l.take k ++ [x] := by
          rw [List.take_succ_eq_append_getElem hlt, hx]; simp [hlt]
        rw [e1, Crc.run_snoc, ← hd, Crc.byteStep, ← he, Crc.mvs8, ← hf, ← hg]
      case measure => simp [intOf]; omega
    · obtain rfl : k = l.length := by omega
      have hn := not_u32 _ (Crc.run_lt hs1 l)
      rw [List.take_length]
      go_wp2
      go_ret
      exact ⟨rfl, rfl⟩

theorem sum_any (A : Option Addr) (l : List UInt8) (c : Nat) (B : Nat) (w : World) (ht : TabAt w) (hl : l.length ≤ 1000000) (hr : BytesAt w B A l) :
    Calls Tryd.prog 53 #[.slice A l.length c] w fun e w' => e = .returned (.int .u32 (Crc.sum l : Int)) ∧ w = w' := by
  go_enter Tryd.func53, Tryd.ntmps53
  go_wp2_with (go_at_call 66; refine (more_any 0 (by decide) A l c B _ ht hl hr).mono ?_; rintro e w' ⟨rfl, rfl⟩)
  go_ret
  exact ⟨rfl, rfl⟩

theorem more_n (s : Nat) (hs : s < 4294967296) (A : Option Addr) (l : List UInt8) (n c : Nat) (hn : l.length = n) (B : Nat) (w : World) (ht : TabAt w) (hl : l.length ≤ 1000000) (hr : BytesAt w B A l) :
    Calls Tryd.prog 66 #[.int .u32 (s : Int), .slice A n c] w fun e w' => e = .returned (.int .u32 (Crc.more s l : Int)) ∧ w = w' := by
  subst hn; exact more_any s hs A l c B w ht hl hr
theorem sum_n (A : Option Addr) (l : List UInt8) (n c : Nat) (hn : l.length = n) (B : Nat) (w : World) (ht : TabAt w) (hl : l.length ≤ 1000000) (hr : BytesAt w B A l) :
    Calls Tryd.prog 53 #[.slice A n c] w fun e w' => e = .returned (.int .u32 (Crc.sum l : Int)) ∧ w = w' := by
  subst hn; exact sum_any A l c B w ht hl hr
theorem TabAt.lt {w : World} (h : TabAt w) : 0 < w.heap.size := by
  have h0 := h 0 (by decide)
  rcases Nat.lt_or_ge 0 w.heap.size with hlt | hge
  · exact hlt
  · simp [World.cell?, Array.getElem?_eq_none hge] at h0
theorem TabAt.below {w w' : World} {B : Nat} (h : TabAt w) (hb : Below B w w') (hB : w.heap.size ≤ B) : TabAt w' := fun i hi => (hb.cell (p := ⟨0, i, none⟩) (Nat.lt_of_lt_of_le h.lt hB)).trans (h i hi)
theorem TabAt.drewN {w : World} (h : TabAt w) (n : Nat) : TabAt (w.drewN n) := h
theorem TabAt.alloc {w : World} (h : TabAt w) (o : Obj) : TabAt (w.alloc o) := h.below ((Below.refl _ _).alloc (Nat.le_refl _) o) (Nat.le_refl _)

def digits : List UInt8 := [49, 50, 51, 52, 53, 54, 55, 56, 57]
end Go.Proofs.YtgnfajmjhlnobaaDoor
