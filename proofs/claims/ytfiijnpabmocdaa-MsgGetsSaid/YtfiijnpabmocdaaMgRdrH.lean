/-
  The document's own reader: a field, whichever. Conditions: the bytes can be read.
-/
import Derived.Test.YtfiijnpabmocdaaMgRdrF
import Derived.Test.YtfiijnpabmocdaaMgRdrG
namespace Go.Proofs.Ytfiijnpabmocdaa
open Go.RowKit Mg Fix

theorem run_num {l : List UInt8} {q : Nt} {m : M} {i : Nat} : Mg.run (rOps l) [.num q] (m, i) = ((rOps l).num i (Mg.get m q) (Mg.size q) (Mg.most q)).bind fun x => .ok (Mg.set m x.1 q, x.2) := Mg.run_one (rOps l) _ _
theorem num_le {l : List UInt8} {i s : Nat} {y mo v : Int} {j n : Nat} (hn : l.length = n) (h : (rOps l).num i y s mo = .ok (v, j)) : j ≤ n := by
  obtain ⟨h1, _, _, rfl⟩ := num_ok h
  omega
theorem num_ne {l : List UInt8} {i s : Nat} {y mo x a : Int} (h : (rOps l).num i y s mo = .no x a) : x ≠ 0 := by
  rcases num_no h with ⟨_, _, rfl, _⟩ | ⟨_, rfl, _⟩ <;> decide
theorem bind_ok {α β : Type} {r : Mg.R α} {f : α → Mg.R β} {y : β} (h : r.bind f = .ok y) : ∃ z, r = .ok z ∧ f z = .ok y := by
  cases r with
  | ok z => exact ⟨z, rfl, h⟩
  | no e a => cases h
theorem bind_no {α β : Type} {r : Mg.R α} {f : α → Mg.R β} {x a : Int} (h : r.bind f = .no x a) : r = .no x a ∨ ∃ z, r = .ok z ∧ f z = .no x a := by
  cases r with
  | ok z => exact .inr ⟨z, rfl, h⟩
  | no e b => injection h with e1 e2; subst e1; subst e2; exact .inl rfl
theorem run_cons_eq {α : Type} (o : Ops α) (p : Pt) (r : List Pt) (s : M × α) : Mg.run o (p :: r) s = (Mg.step o p s).bind (Mg.run o r) := rfl
theorem step_num {l : List UInt8} {q : Nt} {m : M} {i : Nat} : Mg.step (rOps l) (.num q) (m, i) = ((rOps l).num i (Mg.get m q) (Mg.size q) (Mg.most q)).bind fun x => .ok (Mg.set m x.1 q, x.2) := rfl
theorem step_bits {l : List UInt8} {m : M} {i : Nat} : Mg.step (rOps l) .bits (m, i) = ((rOps l).lon i m.bits).bind fun x => .ok ({ m with bits := x.1 }, x.2) := rfl
theorem step_data {l : List UInt8} {m : M} {i : Nat} : Mg.step (rOps l) .data (m, i) = ((rOps l).byt i m.data).bind fun x => .ok ({ m with data := x.1 }, x.2) := rfl
theorem one_ok {l : List UInt8} {q : Nt} {m m' : M} {i j : Nat} (h : Mg.step (rOps l) (.num q) (m, i) = .ok (m', j)) : ∃ v, (rOps l).num i (Mg.get m q) (Mg.size q) (Mg.most q) = .ok (v, j) ∧ m' = Mg.set m v q := by
  rw [step_num] at h
  obtain ⟨⟨v, j'⟩, h1, h2⟩ := bind_ok h
  injection h2 with h2
  injection h2 with e1 e2
  subst e2
  exact ⟨v, h1, e1.symm⟩
theorem one_no {l : List UInt8} {q : Nt} {m : M} {i : Nat} {x a : Int} (h : Mg.step (rOps l) (.num q) (m, i) = .no x a) : (rOps l).num i (Mg.get m q) (Mg.size q) (Mg.most q) = .no x a := by
  rw [step_num] at h
  rcases bind_no h with h | ⟨z, _, h2⟩
  · exact h
  · cases h2
section
variable (w0 w : World) (R X B : Nat) (A : Option Addr) (l : List UInt8) (n c i : Nat) (m : M) (D : Option Addr) (d : Nat)
theorem field_ok (f : Mg.Fd) (hc : n ≤ c) (h : RsAt w0 w R X B A l n c i m D d) (hRX : R ≠ X) (hBR : B ≤ R) (hBX : B ≤ X) (hn : l.length = n) (h1 : n ≤ 1000) (hi : i ≤ n) (m' : M) (j : Nat) (hv : Mg.run (rOps l) (parts f) (m, i) = .ok (m', j)) :
    Calls Try.prog 29 #[.pointer (some ⟨R, 0, none⟩), .int .u8 ((fch f).toNat : Int), .pointer (some ⟨X, 0, none⟩)] w fun e w' => e = .returned (.tuple #[]) ∧ j ≤ n ∧ ∃ D' d', RsAt w0 w' R X B A l n c j m' D' d' := by
  cases f with
  | term =>
    obtain ⟨v, g, rfl⟩ := one_ok ((Mg.run_one (rOps l) _ _).symm.trans hv)
    exact (fd_term_ok w0 w R X B A l n c i m D d h hRX hBR hBX hn h1 hi v j g).mono fun e w' ⟨he, hr⟩ => ⟨he, num_le hn g, _, _, hr⟩
  | seq =>
    obtain ⟨v, g, rfl⟩ := one_ok ((Mg.run_one (rOps l) _ _).symm.trans hv)
    exact (fd_seq_ok w0 w R X B A l n c i m D d h hRX hBR hBX hn h1 hi v j g).mono fun e w' ⟨he, hr⟩ => ⟨he, num_le hn g, _, _, hr⟩
  | stamp =>
    obtain ⟨v, g, rfl⟩ := one_ok ((Mg.run_one (rOps l) _ _).symm.trans hv)
    exact (fd_stamp_ok w0 w R X B A l n c i m D d h hRX hBR hBX hn h1 hi v j g).mono fun e w' ⟨he, hr⟩ => ⟨he, num_le hn g, _, _, hr⟩
  | block =>
    obtain ⟨v, g, rfl⟩ := one_ok ((Mg.run_one (rOps l) _ _).symm.trans hv)
    exact (fd_block_ok w0 w R X B A l n c i m D d h hRX hBR hBX hn h1 hi v j g).mono fun e w' ⟨he, hr⟩ => ⟨he, num_le hn g, _, _, hr⟩
  | ok =>
    obtain ⟨v, g, rfl⟩ := one_ok ((Mg.run_one (rOps l) _ _).symm.trans hv)
    exact (fd_ok_ok w0 w R X B A l n c i m D d h hRX hBR hBX hn h1 hi v j g).mono fun e w' ⟨he, hr⟩ => ⟨he, num_le hn g, _, _, hr⟩
  | recd =>
    obtain ⟨⟨m1, j1⟩, g1, hv⟩ := bind_ok (show (Mg.step (rOps l) (.num .rt) (m, i)).bind (Mg.run (rOps l) [.num .rn, .num .rs]) = _ from hv)
    obtain ⟨⟨m2, j2⟩, g2, hv⟩ := bind_ok (show (Mg.step (rOps l) (.num .rn) (m1, j1)).bind (Mg.run (rOps l) [.num .rs]) = _ from hv)
    obtain ⟨v0, k0, rfl⟩ := one_ok g1
    obtain ⟨v1, k1, rfl⟩ := one_ok g2
    obtain ⟨v2, k2, rfl⟩ := one_ok ((Mg.run_one (rOps l) _ _).symm.trans hv)
    exact (fd_recd_ok w0 w R X B A l n c i m D d h hRX hBR hBX hn h1 hi v0 j1 k0 (num_le hn k0) v1 j2 k1 (num_le hn k1) v2 j k2 (num_le hn k2)).mono fun e w' ⟨he, hr⟩ => ⟨he, num_le hn k2, _, _, hr⟩
  | bits =>
    have hv := (Mg.run_one (rOps l) _ _).symm.trans hv
    rw [step_bits] at hv
    obtain ⟨⟨v, j'⟩, g, h2⟩ := bind_ok hv
    injection h2 with h2
    injection h2 with e1 e2
    subst e2
    subst e1
    exact (fd_bits_ok w0 w R X B A l n c i m D d h hRX hBR hBX hn h1 hi v j' g).mono fun e w' ⟨he, hr⟩ => ⟨he, by obtain ⟨g1, _, rfl⟩ := lon_ok g; omega, _, _, hr⟩
  | data =>
    have hv := (Mg.run_one (rOps l) _ _).symm.trans hv
    rw [step_data] at hv
    obtain ⟨⟨v, j'⟩, g, h2⟩ := bind_ok hv
    injection h2 with h2
    injection h2 with e1 e2
    subst e2
    subst e1
    exact (fd_data_ok w0 w R X B A l n c i m D d h hRX hBR hBX hn h1 hi v j' hc g).mono fun e w' ⟨he, hr⟩ => ⟨he, by obtain ⟨g1, _, rfl⟩ := byt_ok g; omega, hr⟩
theorem field_no (f : Mg.Fd) (h : RsAt w0 w R X B A l n c i m D d) (hRX : R ≠ X) (hBR : B ≤ R) (hBX : B ≤ X) (hn : l.length = n) (h1 : n ≤ 1000) (hi : i ≤ n) (x a : Int) (hv : Mg.run (rOps l) (parts f) (m, i) = .no x a) :
    Calls Try.prog 29 #[.pointer (some ⟨R, 0, none⟩), .int .u8 ((fch f).toNat : Int), .pointer (some ⟨X, 0, none⟩)] w fun e w' => e = .returned (.tuple #[]) ∧ x ≠ 0 ∧ FlAt w0 w' R X A n c x a := by
  cases f with
  | term =>
    have g := one_no ((Mg.run_one (rOps l) _ _).symm.trans hv)
    exact (fd_term_no w0 w R X B A l n c i m D d h hRX hBR hBX hn h1 hi x a g).mono fun e w' ⟨he, hr⟩ => ⟨he, num_ne g, hr⟩
  | seq =>
    have g := one_no ((Mg.run_one (rOps l) _ _).symm.trans hv)
    exact (fd_seq_no w0 w R X B A l n c i m D d h hRX hBR hBX hn h1 hi x a g).mono fun e w' ⟨he, hr⟩ => ⟨he, num_ne g, hr⟩
  | stamp =>
    have g := one_no ((Mg.run_one (rOps l) _ _).symm.trans hv)
    exact (fd_stamp_no w0 w R X B A l n c i m D d h hRX hBR hBX hn h1 hi x a g).mono fun e w' ⟨he, hr⟩ => ⟨he, num_ne g, hr⟩
  | block =>
    have g := one_no ((Mg.run_one (rOps l) _ _).symm.trans hv)
    exact (fd_block_no w0 w R X B A l n c i m D d h hRX hBR hBX hn h1 hi x a g).mono fun e w' ⟨he, hr⟩ => ⟨he, num_ne g, hr⟩
  | ok =>
    have g := one_no ((Mg.run_one (rOps l) _ _).symm.trans hv)
    exact (fd_ok_no w0 w R X B A l n c i m D d h hRX hBR hBX hn h1 hi x a g).mono fun e w' ⟨he, hr⟩ => ⟨he, num_ne g, hr⟩
  | recd =>
    rcases bind_no (show (Mg.step (rOps l) (.num .rt) (m, i)).bind (Mg.run (rOps l) [.num .rn, .num .rs]) = _ from hv) with g | ⟨⟨m1, j1⟩, g1, hv⟩
    · have k0 := one_no g
      exact (fd_recd_no0 w0 w R X B A l n c i m D d h hRX hBR hBX hn h1 hi x a k0 (num_ne k0)).mono fun e w' ⟨he, hr⟩ => ⟨he, num_ne k0, hr⟩
    obtain ⟨v0, k0, rfl⟩ := one_ok g1
    rcases bind_no (show (Mg.step (rOps l) (.num .rn) (Mg.set m v0 .rt, j1)).bind (Mg.run (rOps l) [.num .rs]) = _ from hv) with g | ⟨⟨m2, j2⟩, g2, hv⟩
    · have k1 := one_no g
      exact (fd_recd_no1 w0 w R X B A l n c i m D d h hRX hBR hBX hn h1 hi v0 j1 k0 (num_le hn k0) x a k1 (num_ne k1)).mono fun e w' ⟨he, hr⟩ => ⟨he, num_ne k1, hr⟩
    obtain ⟨v1, k1, rfl⟩ := one_ok g2
    have k2 := one_no ((Mg.run_one (rOps l) _ _).symm.trans hv)
    exact (fd_recd_no2 w0 w R X B A l n c i m D d h hRX hBR hBX hn h1 hi v0 j1 k0 (num_le hn k0) v1 j2 k1 (num_le hn k1) x a k2 (num_ne k2)).mono fun e w' ⟨he, hr⟩ => ⟨he, num_ne k2, hr⟩
  | bits =>
    have g : (rOps l).lon i m.bits = .no x a := by
      have hv := (Mg.run_one (rOps l) _ _).symm.trans hv
      rw [step_bits] at hv
      rcases bind_no hv with g | ⟨z, _, h2⟩
      · exact g
      · cases h2
    exact (fd_bits_no w0 w R X B A l n c i m D d h hRX hBR hBX hn h1 hi x a g).mono fun e w' ⟨he, hr⟩ => ⟨he, by obtain ⟨_, rfl, _⟩ := lon_no g; decide, hr⟩
  | data =>
    have g : (rOps l).byt i m.data = .no x a := by
      have hv := (Mg.run_one (rOps l) _ _).symm.trans hv
      rw [step_data] at hv
      rcases bind_no hv with g | ⟨z, _, h2⟩
      · exact g
      · cases h2
    exact (fd_data_no w0 w R X B A l n c i m D d h hRX hBR hBX hn h1 hi x a g).mono fun e w' ⟨he, hr⟩ => ⟨he, by obtain ⟨_, rfl, _⟩ := byt_no g; decide, hr⟩
end
end Go.Proofs.Ytfiijnpabmocdaa
