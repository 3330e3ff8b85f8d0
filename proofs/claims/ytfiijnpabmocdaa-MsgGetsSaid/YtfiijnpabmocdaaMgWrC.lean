/-
  What the writer's methods do. Conditions: none.
-/
import Derived.Test.YtfiijnpabmocdaaMgWr
import Derived.Deep.RegionHeldLaw
namespace Go.Proofs.Ytfiijnpabmocdaa
open Go.RowKit Mg

section
variable {base gm gw : Nat} {w : World} {F : Nat → Prop} {m : M} {a : List UInt8}
theorem putB_fits (n : Nat) (s : Nat) (hs : isz (s : Int) = true) (hn : fitsB (n : Int) (s : Int) = true) : putB (n : Int) (s : Int) = Fix.dig n s := by
  rw [(putBE_good _ _ hs hn).1, Int.toNat_natCast, Int.toNat_natCast]
theorem good_fits {n s : Nat} {mo : Int} (hg : good s mo) (h : (n : Int) ≤ mo) : isz (s : Int) = true ∧ fitsB (n : Int) (s : Int) = true ∧ 0 < s ∧ s ≤ 6 := by
  rw [isz_iff, fitsB_iff]
  rcases hg with ⟨rfl, rfl⟩ | ⟨rfl, h1, h2⟩
  · refine ⟨by omega, ⟨by omega, ?_⟩, by omega, by omega⟩
    have e : (256 : Int) ^ ((6 : Nat) : Int).toNat = 281474976710656 := by decide
    rw [e]; omega
  · refine ⟨by omega, ⟨by omega, ?_⟩, by omega, by omega⟩
    have e : (256 : Int) ^ ((1 : Nat) : Int).toNat = 256 := by decide
    rw [e]; omega
set_option maxRecDepth 100000 in
set_option maxHeartbeats 1000000 in
theorem wNum (h : WrInv base gm gw w F m a) (hsm : a.length + 32 * 1 ≤ 1000) (n : Int) (s : Nat) (mo : Int) (hg : good s mo) : Calls Try.prog 68 #[.pointer (some ⟨gw, 0, none⟩), .int .i64 n, .int .i64 (s : Int), .int .i64 mo] w (NumPost (fun w F a => WrInv base gm gw w F m a) w F (wOps.num a n s mo)) := by
  obtain ⟨A, c, g, cg, h⟩ := h
  have c1 := h.wr.cell (k := 0) rfl
  by_cases hn : 0 ≤ n ∧ n ≤ mo
  · have e : wOps.num a n s mo = .ok (0, a ++ Fix.dig n.toNat s) := by simp only [wOps]; rw [if_pos hn]
    rw [e]
    obtain ⟨k, rfl⟩ : ∃ k : Nat, n = (k : Int) := ⟨n.toNat, by omega⟩
    obtain ⟨hz, hf, hs0, hs6⟩ := good_fits hg hn.2
    have hk : (k : Int) ≤ 9223372036854775807 := by
      rcases hg with ⟨rfl, rfl⟩ | ⟨rfl, h1, h2⟩ <;> omega
    have z1 := allow_yes (k : Int) mo (a.length : Int) hn.1 hn.2 w
    have z2 := put_any (k : Int) (s : Int) w hk
    have hB : putB (k : Int) (s : Int) = Fix.dig k s := putB_fits k s hz hf
    have hl := Fix.dig_length k s
    have hne : Fix.dig k s ≠ [] := fun e => by rw [e] at hl; simp at hl; omega
    rw [Int.toNat_natCast]
    have H := Lib.hid h
    have HB := Lib.hid (And.intro hB (And.intro hl hne))
    have HS := Lib.hid (And.intro hsm hs6)
    clear h e hn hz hf hs0 hs6 hk hB hl hne hg hsm
    go_enter Try.func68, Try.ntmps68
    go_wp2_with (first
      | (go_at_call 31; (with_reducible refine z1.mono ?_); (rintro e w1 ⟨rfl, rfl⟩))
      | (go_at_call 70; (with_reducible refine z2.mono ?_); (rintro e w2 ⟨A2, c2, rfl, hl2, hr2, B2⟩; obtain ⟨hB, hl, hne⟩ := HB.out; rw [hB] at hr2 hl2; have h2 := H.out.step B2; rw [hB, hl]; obtain ⟨v, w3, hrun, hG⟩ := run_append_whole w2 25 g cg a (Fix.dig k s) h2.buf h2.len h2.cap (by rw [hl]; have := HS.out; omega) A2 s c2 hl hne hr2; obtain ⟨c3, f3, hP⟩ := H.out.grow B2 hG; obtain ⟨g3, cc3, rfl, _⟩ := hG; have c22 := h2.wr.cell (k := 0) rfl; have HR := Lib.hid hrun; have HP := Lib.hid hP; clear hrun hP h2 hr2 hl2 hB hl hne B2))
      | (at_builtin; refine wpList_append_runR rfl (.tmp 29) (.tmp 30) 25 rfl rfl rfl HR.out ?_))
    go_ret
    exact ⟨rfl, HP.out⟩
  · have e : wOps.num a n s mo = .no 5 a.length := by simp only [wOps]; rw [if_neg hn]
    rw [e]
    have z1 := allow_no n mo (a.length : Int) (by omega) w
    clear e hn h hg
    go_enter Try.func68, Try.ntmps68
    go_wp2_with (first
      | (go_at_call 31; (with_reducible refine z1.mono ?_); (rintro e w1 ⟨rfl, rfl⟩)))
    exact ⟨rfl, rfl, Frame.refl _ _⟩
end
end Go.Proofs.Ytfiijnpabmocdaa
