/-
  When a message may be, as the reference's Check asks it: plain mathematics. Conditions: none.
-/
import Derived.Test.YtfiijnpabmocdaaMgHas
import Derived.Test.YtfiijnpabmocdaaMgRefB
namespace Go.Proofs.Ytfiijnpabmocdaa.Mg
open Fix

/-- whose part it is -/
def fldP : Pt → Fd
  | .num .term => .term | .num .seq => .seq | .num .stamp => .stamp | .num .block => .block | .num .ok => .ok
  | .num .rt => .recd | .num .rn => .recd | .num .rs => .recd | .bits => .bits | .data => .data
theorem mem_parts (p : Pt) (f : Fd) : p ∈ parts f ↔ f = fldP p := by
  cases p with
  | num q => cases q <;> cases f <;> simp [parts, fldP]
  | bits => cases f <;> simp [parts, fldP]
  | data => cases f <;> simp [parts, fldP]
theorem mem_all (fs : List Fd) (p : Pt) : p ∈ fs.flatMap parts ↔ fldP p ∈ fs := by
  rw [List.mem_flatMap]
  constructor
  · rintro ⟨f, hf, hp⟩
    rw [mem_parts] at hp
    rw [← hp]
    exact hf
  · intro h
    exact ⟨_, h, (mem_parts _ _).2 rfl⟩
/-- a part is as it may be in that kind -/
def Part (k : Int) (p : Pt) (m : M) : Prop := (fldP p ∈ fls k → Fits p m) ∧ (fldP p ∉ fls k → Nought p m)
theorem within_part (k : Int) (q : Nt) (m : M) : withinB k (fch (fldP (.num q))) (get m q) (most q) = true ↔ Part k (.num q) m := by
  unfold withinB Part
  by_cases h : fldP (.num q) ∈ fls k
  · rw [if_pos ((hasB_iff k _).2 h)]
    simp [h, Fits]
  · rw [if_neg (fun x => h ((hasB_iff k _).1 x))]
    simp [h, Nought]
theorem fields_ne {k : Int} {fs : List Fd} (h : fields k = some fs) : fs ≠ [] := by
  rintro rfl
  unfold fields at h
  repeat' (split at h; cases h)
  cases h
theorem may_iff (m : M) : May m ↔ fls m.kind ≠ [] ∧ 0 ≤ m.src ∧ m.src ≤ 2 ∧ ∀ p, Part m.kind p m := by
  constructor
  · rintro ⟨fs, hf, h0, h2, h3, h4⟩
    have e : fls m.kind = fs := by unfold fls; rw [hf]; rfl
    rw [e]
    refine ⟨fields_ne hf, h0, h2, fun p => ?_⟩
    unfold Part
    rw [e, ← mem_all]
    exact ⟨h3 p, h4 p⟩
  · rintro ⟨hne, h0, h2, hp⟩
    cases hf : fields m.kind with
    | none => exact absurd (by unfold fls; rw [hf]; rfl) hne
    | some fs =>
      have e : fls m.kind = fs := by unfold fls; rw [hf]; rfl
      refine ⟨fs, hf, h0, h2, fun p h => (hp p).1 ?_, fun p h => (hp p).2 ?_⟩
      · rw [e]; exact (mem_all fs p).1 h
      · rw [e]; exact fun x => h ((mem_all fs p).2 x)
theorem may_yes {m : M} (h : May m) : putE m = 0 ∧ putB m = [UInt8.ofNat (m.kind % 256).toNat, UInt8.ofNat (m.src % 256).toNat] ++ encs ((fls m.kind).flatMap parts) m := by
  unfold putE putB
  rw [may_put h]
  exact ⟨rfl, rfl⟩
theorem may_no {m : M} (h : ¬ May m) : putE m = 2 ∧ putB m = [] := by
  unfold putE putB
  cases hp : put m with
  | none => exact ⟨rfl, rfl⟩
  | some b => exact absurd (put_may hp) h
theorem ok_part (k : Int) (m : M) : Part k (.num .ok) m ↔ hasB k 111 = true ∨ m.ok = false := by
  have hh := hasB_iff k .ok
  rw [show fch .ok = 111 from rfl] at hh
  rw [hh]
  unfold Part
  show (Fd.ok ∈ fls k → Fits (.num .ok) m) ∧ (Fd.ok ∉ fls k → Nought (.num .ok) m) ↔ _
  have hf : Fits (.num .ok) m := by
    show 0 ≤ (if m.ok then (1 : Int) else 0) ∧ (if m.ok then (1 : Int) else 0) ≤ 1
    cases m.ok <;> decide
  have hn : Nought (.num .ok) m ↔ m.ok = false := by
    show (if m.ok then (1 : Int) else 0) = 0 ↔ _
    cases m.ok <;> simp
  rw [hn]
  constructor
  · rintro ⟨_, h⟩
    by_cases hm : Fd.ok ∈ fls k
    · exact .inl hm
    · exact .inr (h hm)
  · intro h
    exact ⟨fun _ => hf, fun x => h.resolve_left x⟩
theorem bits_part (k : Int) (m : M) : Part k .bits m ↔ hasB k 98 = true ∨ m.bits = 0 := by
  have hh := hasB_iff k .bits
  rw [show fch .bits = 98 from rfl] at hh
  rw [hh]
  unfold Part
  show (Fd.bits ∈ fls k → True) ∧ (Fd.bits ∉ fls k → m.bits = 0) ↔ _
  constructor
  · rintro ⟨_, h⟩
    by_cases hm : Fd.bits ∈ fls k
    · exact .inl hm
    · exact .inr (h hm)
  · intro h
    exact ⟨fun _ => trivial, fun x => h.resolve_left x⟩
theorem data_part (k : Int) (m : M) : Part k .data m ↔ m.data.length = if hasB k 100 = true then 32 else 0 := by
  have hh := hasB_iff k .data
  rw [show fch .data = 100 from rfl] at hh
  unfold Part
  show (Fd.data ∈ fls k → m.data.length = 32) ∧ (Fd.data ∉ fls k → m.data = []) ↔ _
  by_cases hm : Fd.data ∈ fls k
  · rw [if_pos (hh.2 hm)]
    simp [hm]
  · rw [if_neg (fun x => hm (hh.1 x))]
    simp [hm]
end Go.Proofs.Ytfiijnpabmocdaa.Mg
