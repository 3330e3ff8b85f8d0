/-
  tandemkit.SameBytes, tandemkit.KeptBytes: what they return. Conditions: the bytes can be read, and are at most as many as a slice may hold.
-/
import Derived.Test.YtebicjblplkdeaaKitLent
import Derived.Laws.IdiomStrings
import Derived.Laws.BytesString
import Derived.Deep.RegionHeld3
namespace Go.Proofs.Ytebicjblplkdeaa
open Go.RowKit

theorem bytes_string {W : World} {B : Nat} {A : Option Addr} {l : List UInt8} (h : BytesAt W B A l) (c : Nat) :
    (convert 26 9 (.slice A l.length c)).run Try.prog W = .ok (.string ⟨l.toArray⟩) W := by
  by_cases hl : l = []
  · subst hl
    cases A with
    | none =>
      rw [List.length_nil, run_convert_bytes_string W 26 9 5 none 0 c Try.underlying26 Try.underlying5 Try.underlying9]
      rfl
    | some ad => exact run_convert_bytes_back (P := Try.prog) W 26 9 5 ad c [] Try.underlying26 Try.underlying5 Try.underlying9 (fun j hj => by cases hj)
  · obtain ⟨ad, rfl, _, hc⟩ := h hl
    refine run_convert_bytes_back (P := Try.prog) W 26 9 5 ad c l Try.underlying26 Try.underlying5 Try.underlying9 (fun j hj => ?_)
    rw [hc j hj]
    simp [hj]

theorem sameBytes_any (A : Option Addr) (l : List UInt8) (n c : Nat) (hn : l.length = n) (A' : Option Addr) (l' : List UInt8) (n' c' : Nat) (hn' : l'.length = n') (B : Nat) (w : World) (hr : BytesAt w B A l) (hr' : BytesAt w B A' l') :
    Calls Try.prog 13 #[.slice A n c, .slice A' n' c'] w fun e w' => e = .returned (.bool (l == l')) ∧ w = w' := by
  subst hn; subst hn'
  have q1 := bytes_string hr c
  have q2 := bytes_string hr' c'
  go_enter Try.func13, Try.ntmps13
  go_wp2
  go_ret
  exact ⟨rfl, rfl⟩

theorem keptBytes_yes (g : Nat) (l : List UInt8) (A : Option Addr) (c : Nat) (w : World) (hl : l.length ≤ 140737488351232) (hb : BlkB w g (lent l)) (hr : BytesAt w w.heap.size A l) :
    Calls Try.prog 19 #[.slice (some ⟨g, 0, none⟩) l.length (l.length + 3), .slice A l.length c] w fun e w' => e = .returned (.bool true) ∧ Below w.heap.size w w' := by
  have hg := hb.lt
  have q1 : ∀ (g : Nat) (W : World), (Instr.slice 26 (.slice (some ⟨g, 0, none⟩) l.length (l.length + 3)) none (some (.int .i64 ((l.length : Int) + 3))) none).run Try.prog W = .ok (.slice (some ⟨g, 0, none⟩) (l.length + 3) (l.length + 3)) W := fun g W => by
    have := cut_to (some ⟨g, 0, none⟩) l.length (l.length + 3) (l.length + 3) (Nat.le_refl _) W
    rwa [show ((l.length + 3 : Nat) : Int) = (l.length : Int) + 3 by omega] at this
  have hlen : (lent l).length = l.length + 3 := by simp [lent, marks]
  have HL := Lib.hid hlen
  clear hlen
  have e1 : IntKind.i64.wrap ((l.length : Int) + 3) = (l.length : Int) + 3 := IntWalk.i64_in _ (by omega)
  go_enter Try.func19, Try.ntmps19
  go_wp2_with fail
  go_region_held3 (fun w' => Below w.heap.size w w' ∧ BlkB w' g (lent l)) (first | assumption | exact (Below.refl _ _).drew | exact ⟨(Below.refl _ _).drew, hb⟩ | exact ⟨hS1, hS2⟩) (first
    | (go_at_call 6; refine (lentBytes_any A l c _ hl hr.drew).mono ?_; (rintro e w2 ⟨g2, rfl, hg2, hb2, hbel2⟩); (have hS1 : Below w.heap.size w w2 := undrew hbel2); (have hS2 : BlkB w2 g (lent l) := hb.below hS1 hg))
    | (go_at_call 13; refine (sameBytes_any _ (lent l) _ _ HL.out _ (lent l) _ _ HL.out w2.heap.size w2 (hS2.bytes (lent l) ⟨[], by simp⟩ hS2.lt) (hb2.bytes (lent l) ⟨[], by simp⟩ hb2.lt)).mono ?_; (rintro e w3 ⟨rfl, rfl⟩)))
  go_wp2
  go_ret
  exact ⟨rfl, hS1⟩
end Go.Proofs.Ytebicjblplkdeaa
