/-
  meta.Bytes: what it tells. Conditions: none.
-/
import Derived.Test.YtebicjblplkdeaaMetaSmall
import Derived.Test.YtebicjblplkdeaaFixAny
import Derived.Test.YtebicjblplkdeaaKitZ
namespace Go.Proofs.Ytebicjblplkdeaa
open Go.RowKit Fix

namespace Mt
/-- its first k fields, as bytes -/
def pre (m : Mt) : Nat → List UInt8
  | 0 => []
  | 1 => dig m.t.toNat 6
  | 2 => dig m.t.toNat 6 ++ dig (m.v + 1).toNat 1
  | 3 => dig m.t.toNat 6 ++ dig (m.v + 1).toNat 1 ++ dig m.rt.toNat 6
  | 4 => dig m.t.toNat 6 ++ dig (m.v + 1).toNat 1 ++ dig m.rt.toNat 6 ++ dig m.rn.toNat 6
  | 5 => dig m.t.toNat 6 ++ dig (m.v + 1).toNat 1 ++ dig m.rt.toNat 6 ++ dig m.rn.toNat 6 ++ dig m.rs.toNat 1
  | _ => m.enc
theorem pre_length (m : Mt) (k : Nat) : (m.pre k).length ≤ 26 := by
  match k with
  | 0 => simp [pre]
  | 1 => simp [pre, dig_length]
  | 2 => simp [pre, dig_length]
  | 3 => simp [pre, dig_length]
  | 4 => simp [pre, dig_length]
  | 5 => simp [pre, dig_length]
  | k + 6 => simp [pre, enc_length]
end Mt
theorem pow6 : (256 : Int) ^ 6 = 281474976710656 := by decide
theorem put6 (n : Int) (h : 0 ≤ n ∧ n ≤ 1099511627776) : putB n 6 = dig n.toNat 6 ∧ putE n 6 = 0 := putBE_good n 6 (by decide) ((fitsB_iff n 6).2 ⟨h.1, by rw [show (6 : Int).toNat = 6 from rfl, pow6]; omega⟩)
theorem put1 (n : Int) (h : 0 ≤ n ∧ n ≤ 3) : putB n 1 = dig n.toNat 1 ∧ putE n 1 = 0 := putBE_good n 1 (by decide) ((fitsB_iff n 1).2 ⟨h.1, by rw [show (1 : Int).toNat = 1 from rfl, show (256 : Int) ^ 1 = 256 from rfl]; omega⟩)
/-- a field, put -/
def FldPost (n : Int) (s : Nat) (w : World) (e : Ending) (w' : World) : Prop :=
  ∃ A c, e = .returned (.tuple #[.slice A s c, .int .i64 0]) ∧ s ≤ c ∧ BytesAt w' w'.heap.size A (dig n.toNat s) ∧ Below w.heap.size w w'
theorem fld6 (n : Int) (h : 0 ≤ n ∧ n ≤ 1099511627776) (w : World) : Calls Try.prog 22 #[.int .i64 n, .int .i64 6] w (FldPost n 6 w) := (put_any n 6 w (by omega)).mono fun e w' => by
  unfold PutPost FldPost
  rw [(put6 n h).1, (put6 n h).2, dig_length]
  exact id
theorem fld1 (n : Int) (h : 0 ≤ n ∧ n ≤ 3) (w : World) : Calls Try.prog 22 #[.int .i64 n, .int .i64 1] w (FldPost n 1 w) := (put_any n 1 w (by omega)).mono fun e w' => by
  unfold PutPost FldPost
  rw [(put1 n h).1, (put1 n h).2, dig_length]
  exact id
theorem idx_fld (a b c d e f : Int) : (∀ w : World, (Instr.index 44 (.agg #[.int .i64 a, .int .i64 6, .int .i64 b, .int .i64 1, .int .i64 c, .int .i64 6, .int .i64 d, .int .i64 6, .int .i64 e, .int .i64 1, .int .i64 f, .int .i64 6]) (.int .i64 0)).run Try.prog w = .ok (.agg #[.int .i64 a, .int .i64 6]) w) ∧ (∀ w : World, (Instr.index 44 (.agg #[.int .i64 a, .int .i64 6, .int .i64 b, .int .i64 1, .int .i64 c, .int .i64 6, .int .i64 d, .int .i64 6, .int .i64 e, .int .i64 1, .int .i64 f, .int .i64 6]) (.int .i64 1)).run Try.prog w = .ok (.agg #[.int .i64 b, .int .i64 1]) w) ∧ (∀ w : World, (Instr.index 44 (.agg #[.int .i64 a, .int .i64 6, .int .i64 b, .int .i64 1, .int .i64 c, .int .i64 6, .int .i64 d, .int .i64 6, .int .i64 e, .int .i64 1, .int .i64 f, .int .i64 6]) (.int .i64 2)).run Try.prog w = .ok (.agg #[.int .i64 c, .int .i64 6]) w) ∧ (∀ w : World, (Instr.index 44 (.agg #[.int .i64 a, .int .i64 6, .int .i64 b, .int .i64 1, .int .i64 c, .int .i64 6, .int .i64 d, .int .i64 6, .int .i64 e, .int .i64 1, .int .i64 f, .int .i64 6]) (.int .i64 3)).run Try.prog w = .ok (.agg #[.int .i64 d, .int .i64 6]) w) ∧ (∀ w : World, (Instr.index 44 (.agg #[.int .i64 a, .int .i64 6, .int .i64 b, .int .i64 1, .int .i64 c, .int .i64 6, .int .i64 d, .int .i64 6, .int .i64 e, .int .i64 1, .int .i64 f, .int .i64 6]) (.int .i64 4)).run Try.prog w = .ok (.agg #[.int .i64 e, .int .i64 1]) w) ∧ (∀ w : World, (Instr.index 44 (.agg #[.int .i64 a, .int .i64 6, .int .i64 b, .int .i64 1, .int .i64 c, .int .i64 6, .int .i64 d, .int .i64 6, .int .i64 e, .int .i64 1, .int .i64 f, .int .i64 6]) (.int .i64 5)).run Try.prog w = .ok (.agg #[.int .i64 f, .int .i64 6]) w) := ⟨fun _ => by kernel_rfl, fun _ => by kernel_rfl, fun _ => by kernel_rfl, fun _ => by kernel_rfl, fun _ => by kernel_rfl, fun _ => by kernel_rfl⟩
/-- what Bytes tells -/
def MtBs (m : Mt) (w : World) (e : Ending) (w' : World) : Prop :=
  ∃ A c, e = .returned (.tuple #[.slice A m.bytes.length c, .int .i64 m.err]) ∧ m.bytes.length ≤ c ∧ OwnZ w' w.heap.size (.slice A m.bytes.length c) m.bytes ∧ Below w.heap.size w w'
theorem metaBytes_any (m : Mt) (w : World) : Calls Try.prog 7 #[.agg (mtL m).toArray] w (MtBs m w) := by
  have zc := fun w => check_any m w
  have S0 := boxM m w
  unfold MtBs
  cases hk : m.ok with
  | false =>
    rw [Mt.err_no hk] at zc ⊢
    rw [show m.bytes = [] by unfold Mt.bytes; rw [hk]; rfl]
    clear hk
    unfold mtL at zc S0 ⊢
    go_enter Try.func7, Try.ntmps7
    go_wp2_with (first
      | (go_at_call 11; refine (zc _).mono ?_; (rintro e w2 ⟨rfl, B2⟩)))
    go_ret2
    exact ⟨none, 0, rfl, Nat.zero_le _, OwnZ.nil_, ((Below.refl _ _).alloc (Nat.le_refl _) _).trans (B2.mono (by simp))⟩
  | true =>
    have hok := (Mt.ok_iff m).1 hk
    obtain ⟨h1, h2, h3, h4, h5, h6⟩ := hok
    have zf := fun w => fields_any m (by omega) w
    rw [Mt.err_ok hk] at zc ⊢
    rw [show m.bytes = m.enc by unfold Mt.bytes; rw [hk]; rfl]
    have p0 := fun w => fld6 m.t h1 w
    have p1 := fun w => fld1 (m.v + 1) (by omega) w
    have p2 := fun w => fld6 m.rt h3 w
    have p3 := fun w => fld6 m.rn h4 w
    have p4 := fun w => fld1 m.rs h5 w
    have p5 := fun w => fld6 m.b h6 w
    clear hk h1 h2 h3 h4 h5 h6
    unfold mtL fldL at zf
    unfold mtL at zc S0 ⊢
    go_enter Try.func7, Try.ntmps7
    go_wp2_with (first
      | (go_at_call 11; refine (zc _).mono ?_; (rintro e w2 ⟨rfl, B2⟩; have S2 := S0.out w2 (by simpa [mtL] using B2)))
      | (go_at_call 21; refine (zf _).mono ?_; (rintro e w3 ⟨rfl, B3⟩)))
    have B03 : Below w.heap.size w w3 := (((Below.refl _ _).alloc (Nat.le_refl _) (.cells (mtL m).toArray 25)).trans (B2.mono (by simp))).trans (B3.mono (by have := B2.size; simp at this; omega))
    clear zc zf S0 S2 B2 B3
    obtain ⟨x0, x1, x2, x3, x4, x5⟩ := idx_fld m.t (m.v + 1) m.rt m.rn m.rs m.b
    go_loopw [5, 17] (fun v i wr => ∃ k : Nat, k ≤ 6 ∧ i = .int .i64 (k : Int) ∧ OwnZ wr w.heap.size v (m.pre k) ∧ Below w.heap.size w wr) (fun _ i _ => 6 - (intOf i).toNat)
    case atStart => exact ⟨0, Nat.zero_le _, rfl, OwnZ.nil_, B03⟩
    case round =>
    obtain ⟨k, hk, rfl, hown, hbel⟩ := hrel
    rcases k with _ | _ | _ | _ | _ | _ | _ | k
    · have hl := m.pre_length 0
      have hd := dig_length m.t.toNat 6
      go_wp2_with (first
        | (go_at_call 22; refine (p0 _).mono ?_; (rintro e w5 ⟨A5, c5, rfl, hc5, r5, B5⟩; have ho5 := (hown.alloc (.cells #[.int .i64 m.t, .int .i64 6] 43)).below B5; have B05 := (hbel.alloc hbel.size (.cells #[.int .i64 m.t, .int .i64 6] 43)).trans (B5.mono (by have := hbel.size; simp; omega))))
        | (at_builtin; refine wpList_appendZ rfl (.tmp 28) (.tmp 29) 26 rfl rfl w.heap.size _ (m.pre 0) rfl ho5 A5 (dig m.t.toNat 6) 6 c5 w5.heap.size rfl hd r5 (by omega) B05.size ?_; (intro v' w' ho hg; have B06 := B05.grown hg B05.size (fun j hj => (ho5.lt j hj).1))))
      go_roundw
      case rel => exact ⟨1, by omega, rfl, ho, B06⟩
      case measure => simp [intOf]
    · have hl := m.pre_length 1
      have hd := dig_length (m.v + 1).toNat 1
      go_wp2_with (first
        | (go_at_call 22; refine (p1 _).mono ?_; (rintro e w5 ⟨A5, c5, rfl, hc5, r5, B5⟩; have ho5 := (hown.alloc (.cells #[.int .i64 (m.v + 1), .int .i64 1] 43)).below B5; have B05 := (hbel.alloc hbel.size (.cells #[.int .i64 (m.v + 1), .int .i64 1] 43)).trans (B5.mono (by have := hbel.size; simp; omega))))
        | (at_builtin; refine wpList_appendZ rfl (.tmp 28) (.tmp 29) 26 rfl rfl w.heap.size _ (m.pre 1) rfl ho5 A5 (dig (m.v + 1).toNat 1) 1 c5 w5.heap.size rfl hd r5 (by omega) B05.size ?_; (intro v' w' ho hg; have B06 := B05.grown hg B05.size (fun j hj => (ho5.lt j hj).1))))
      go_roundw
      case rel => exact ⟨2, by omega, rfl, ho, B06⟩
      case measure => simp [intOf]
    · have hl := m.pre_length 2
      have hd := dig_length m.rt.toNat 6
      go_wp2_with (first
        | (go_at_call 22; refine (p2 _).mono ?_; (rintro e w5 ⟨A5, c5, rfl, hc5, r5, B5⟩; have ho5 := (hown.alloc (.cells #[.int .i64 m.rt, .int .i64 6] 43)).below B5; have B05 := (hbel.alloc hbel.size (.cells #[.int .i64 m.rt, .int .i64 6] 43)).trans (B5.mono (by have := hbel.size; simp; omega))))
        | (at_builtin; refine wpList_appendZ rfl (.tmp 28) (.tmp 29) 26 rfl rfl w.heap.size _ (m.pre 2) rfl ho5 A5 (dig m.rt.toNat 6) 6 c5 w5.heap.size rfl hd r5 (by omega) B05.size ?_; (intro v' w' ho hg; have B06 := B05.grown hg B05.size (fun j hj => (ho5.lt j hj).1))))
      go_roundw
      case rel => exact ⟨3, by omega, rfl, ho, B06⟩
      case measure => simp [intOf]
    · have hl := m.pre_length 3
      have hd := dig_length m.rn.toNat 6
      go_wp2_with (first
        | (go_at_call 22; refine (p3 _).mono ?_; (rintro e w5 ⟨A5, c5, rfl, hc5, r5, B5⟩; have ho5 := (hown.alloc (.cells #[.int .i64 m.rn, .int .i64 6] 43)).below B5; have B05 := (hbel.alloc hbel.size (.cells #[.int .i64 m.rn, .int .i64 6] 43)).trans (B5.mono (by have := hbel.size; simp; omega))))
        | (at_builtin; refine wpList_appendZ rfl (.tmp 28) (.tmp 29) 26 rfl rfl w.heap.size _ (m.pre 3) rfl ho5 A5 (dig m.rn.toNat 6) 6 c5 w5.heap.size rfl hd r5 (by omega) B05.size ?_; (intro v' w' ho hg; have B06 := B05.grown hg B05.size (fun j hj => (ho5.lt j hj).1))))
      go_roundw
      case rel => exact ⟨4, by omega, rfl, ho, B06⟩
      case measure => simp [intOf]
    · have hl := m.pre_length 4
      have hd := dig_length m.rs.toNat 1
      go_wp2_with (first
        | (go_at_call 22; refine (p4 _).mono ?_; (rintro e w5 ⟨A5, c5, rfl, hc5, r5, B5⟩; have ho5 := (hown.alloc (.cells #[.int .i64 m.rs, .int .i64 1] 43)).below B5; have B05 := (hbel.alloc hbel.size (.cells #[.int .i64 m.rs, .int .i64 1] 43)).trans (B5.mono (by have := hbel.size; simp; omega))))
        | (at_builtin; refine wpList_appendZ rfl (.tmp 28) (.tmp 29) 26 rfl rfl w.heap.size _ (m.pre 4) rfl ho5 A5 (dig m.rs.toNat 1) 1 c5 w5.heap.size rfl hd r5 (by omega) B05.size ?_; (intro v' w' ho hg; have B06 := B05.grown hg B05.size (fun j hj => (ho5.lt j hj).1))))
      go_roundw
      case rel => exact ⟨5, by omega, rfl, ho, B06⟩
      case measure => simp [intOf]
    · have hl := m.pre_length 5
      have hd := dig_length m.b.toNat 6
      go_wp2_with (first
        | (go_at_call 22; refine (p5 _).mono ?_; (rintro e w5 ⟨A5, c5, rfl, hc5, r5, B5⟩; have ho5 := (hown.alloc (.cells #[.int .i64 m.b, .int .i64 6] 43)).below B5; have B05 := (hbel.alloc hbel.size (.cells #[.int .i64 m.b, .int .i64 6] 43)).trans (B5.mono (by have := hbel.size; simp; omega))))
        | (at_builtin; refine wpList_appendZ rfl (.tmp 28) (.tmp 29) 26 rfl rfl w.heap.size _ (m.pre 5) rfl ho5 A5 (dig m.b.toNat 6) 6 c5 w5.heap.size rfl hd r5 (by omega) B05.size ?_; (intro v' w' ho hg; have B06 := B05.grown hg B05.size (fun j hj => (ho5.lt j hj).1))))
      go_roundw
      case rel => exact ⟨6, by omega, rfl, ho, B06⟩
      case measure => simp [intOf]
    · have hl := m.enc_length
      obtain ⟨A, c, rfl, hlc⟩ := hown.form
      rw [show (m.pre (0 + 1 + 1 + 1 + 1 + 1 + 1)) = m.enc from rfl] at hlc hown ⊢
      go_wp2
      go_ret2
      exact ⟨A, c, rfl, hlc, hown, hbel⟩
    · omega
end Go.Proofs.Ytebicjblplkdeaa
