/-
  The walk of RecordOrder. Conditions: sets are ints of 64 bits.
-/
import Derived.Test.YtofecokbpopdnaaRcKnown
namespace Go.Proofs.Ytofecokbpopdnaa
open Go.RowKit Rc

/-- since w0: three records, at g, h and k -/
structure Bx3 (w0 : World) (g h k : Nat) (A B C : R) (w : World) : Prop where
  fr : Below w0.heap.size w0 w
  b1 : BlkR 23 w g (rcL A.t A.n A.s)
  b2 : BlkR 23 w h (rcL B.t B.n B.s)
  b3 : BlkR 23 w k (rcL C.t C.n C.s)
/-- and a fourth, at l -/
structure Bx4 (w0 : World) (g h k l : Nat) (A B C D : R) (w : World) : Prop where
  b : Bx3 w0 g h k A B C w
  b4 : BlkR 23 w l (rcL D.t D.n D.s)
section
variable {w0 w w' : World} {g h k l : Nat} {A B C D : R}
theorem Bx3.step (K : Bx3 w0 g h k A B C w) (E : Below w.heap.size w w') : Bx3 w0 g h k A B C w' := ⟨step_trans K.fr E, K.b1.below E K.b1.lt, K.b2.below E K.b2.lt, K.b3.below E K.b3.lt⟩
theorem Bx4.step (K : Bx4 w0 g h k l A B C D w) (E : Below w.heap.size w w') : Bx4 w0 g h k l A B C D w' := ⟨K.b.step E, K.b4.below E K.b4.lt⟩
theorem Bx3.cc (K : Bx3 w0 g h k A B C w) : (w.cell? ⟨g, 0, none⟩ = some (.int .i64 A.t) ∧ w.cell? ⟨g, 1, none⟩ = some (.int .i64 A.n) ∧ w.cell? ⟨g, 2, none⟩ = some (.int .i64 A.s)) ∧ (w.cell? ⟨h, 0, none⟩ = some (.int .i64 B.t) ∧ w.cell? ⟨h, 1, none⟩ = some (.int .i64 B.n) ∧ w.cell? ⟨h, 2, none⟩ = some (.int .i64 B.s)) ∧ (w.cell? ⟨k, 0, none⟩ = some (.int .i64 C.t) ∧ w.cell? ⟨k, 1, none⟩ = some (.int .i64 C.n) ∧ w.cell? ⟨k, 2, none⟩ = some (.int .i64 C.s)) :=
  ⟨rc_box K.b1, rc_box K.b2, rc_box K.b3⟩
theorem Bx3.new (w : World) (A B C : R) : Bx3 w w.heap.size (w.heap.size + 1) (w.heap.size + 1 + 1) A B C (((w.alloc (.cells #[.int .i64 A.t, .int .i64 A.n, .int .i64 A.s] 23)).alloc (.cells #[.int .i64 B.t, .int .i64 B.n, .int .i64 B.s] 23)).alloc (.cells #[.int .i64 C.t, .int .i64 C.n, .int .i64 C.s] 23)) := by
  have K := Bx2.new w A.t A.n A.s B.t B.n B.s
  have s2 : ((w.alloc (.cells #[.int .i64 A.t, .int .i64 A.n, .int .i64 A.s] 23)).alloc (.cells #[.int .i64 B.t, .int .i64 B.n, .int .i64 B.s] 23)).heap.size = w.heap.size + 1 + 1 := by simp
  have q := BlkR.new ((w.alloc (.cells #[.int .i64 A.t, .int .i64 A.n, .int .i64 A.s] 23)).alloc (.cells #[.int .i64 B.t, .int .i64 B.n, .int .i64 B.s] 23)) (rcL C.t C.n C.s) 23
  rw [s2] at q
  have K' := K.step (step_alloc (Below.refl _ _) (.cells #[.int .i64 C.t, .int .i64 C.n, .int .i64 C.s] 23))
  exact ⟨K'.fr, K'.b1, K'.b2, q⟩
theorem Bx3.say (K : Bx3 w0 g h k A B C w) {F : FuncId} {args : Array Value} {x : Bool} (z : Calls Try.prog F args w (Tlb x w)) : Calls Try.prog F args w fun e w' => e = .returned (.bool x) ∧ Bx3 w0 g h k A B C w' := z.mono fun _ _ ⟨x, y⟩ => ⟨x, K.step y⟩
theorem Bx3.nxt (K : Bx3 w0 g h k A B C w) {F : FuncId} {args : Array Value} {r : R} {x : Int} (z : Calls Try.prog F args w (Nxp r x w)) : Calls Try.prog F args w fun e w' => e = .returned (.tuple #[.agg #[.int .i64 r.t, .int .i64 r.n, .int .i64 r.s], .int .i64 x]) ∧ Bx3 w0 g h k A B C w' := z.mono fun _ _ ⟨x, y⟩ => ⟨x, K.step y⟩
theorem Bx4.say (K : Bx4 w0 g h k l A B C D w) {F : FuncId} {args : Array Value} {x : Bool} (z : Calls Try.prog F args w (Tlb x w)) : Calls Try.prog F args w fun e w' => e = .returned (.bool x) ∧ Bx4 w0 g h k l A B C D w' := z.mono fun _ _ ⟨x, y⟩ => ⟨x, K.step y⟩
theorem Bx4.num (K : Bx4 w0 g h k l A B C D w) {F : FuncId} {args : Array Value} {x : Int} (z : Calls Try.prog F args w (Tin x w)) : Calls Try.prog F args w fun e w' => e = .returned (.int .i64 x) ∧ Bx4 w0 g h k l A B C D w' := z.mono fun _ _ ⟨x, y⟩ => ⟨x, K.step y⟩
end
theorem new_self (a : R) : ¬ New a a := fun h => by unfold New at h; omega
theorem new_two {a b : R} (h : New a b) : ¬ New b a := fun k => by unfold New at h k; omega
theorem new_three {a b c : R} (h : New a b) (k : New b c) : New a c := by unfold New at *; omega
theorem new_beside {a b : R} (h : ¬ New a b) (k : ¬ New b a) : a.t = b.t ∧ a.n = b.n := by unfold New at *; omega
theorem next_new {a : R} {t u : Int} (h : nextE a t u = 0) : New (nextV a t u) a ∧ Ok (nextV a t u) ∧ (nextV a t u).t = t ∧ (nextV a t u).s = u := by
  have h1 : Ok a ∧ Set3 u ∧ Num t := by
    refine Decidable.byContradiction fun x => ?_
    unfold nextE at h; rw [if_pos x] at h; omega
  have h2 : ¬ (t < a.t ∨ (t = a.t ∧ a.n = 1099511627776)) := fun x => by
    unfold nextE at h; rw [if_neg (fun y => y h1), if_pos x] at h; omega
  obtain ⟨o, s3, nt⟩ := h1
  have on : Num a.n := o.2.1
  unfold nextV
  rw [if_neg (fun x => x h)]
  unfold Num at nt on
  by_cases e : t = a.t
  · rw [if_pos e]
    exact ⟨.inr ⟨e, by show a.n < a.n + 1; omega⟩, ⟨nt, by show Num (a.n + 1); unfold Num; omega, s3⟩, rfl, rfl⟩
  · rw [if_neg e]
    exact ⟨.inl (by show a.t < t; omega), ⟨nt, by show Num 0; decide, s3⟩, rfl, rfl⟩
set_option maxRecDepth 100000 in
set_option maxHeartbeats 8000000 in
theorem rcOrder_core (A B C D : R) (t u n x : Int) (w : World) (p q r s m h1 h2 d : Bool)
    (zk : ∀ wx, Calls Try.prog 5 #[] wx (Tlb true wx))
    (zaa : ∀ wx, Calls Try.prog 11 #[.agg #[.int .i64 A.t, .int .i64 A.n, .int .i64 A.s], .agg #[.int .i64 A.t, .int .i64 A.n, .int .i64 A.s]] wx (Tlb false wx))
    (zab : ∀ wx, Calls Try.prog 11 #[.agg #[.int .i64 A.t, .int .i64 A.n, .int .i64 A.s], .agg #[.int .i64 B.t, .int .i64 B.n, .int .i64 B.s]] wx (Tlb p wx))
    (zba : ∀ wx, Calls Try.prog 11 #[.agg #[.int .i64 B.t, .int .i64 B.n, .int .i64 B.s], .agg #[.int .i64 A.t, .int .i64 A.n, .int .i64 A.s]] wx (Tlb q wx))
    (zbc : ∀ wx, Calls Try.prog 11 #[.agg #[.int .i64 B.t, .int .i64 B.n, .int .i64 B.s], .agg #[.int .i64 C.t, .int .i64 C.n, .int .i64 C.s]] wx (Tlb r wx))
    (zac : ∀ wx, Calls Try.prog 11 #[.agg #[.int .i64 A.t, .int .i64 A.n, .int .i64 A.s], .agg #[.int .i64 C.t, .int .i64 C.n, .int .i64 C.s]] wx (Tlb s wx))
    (zn : ∀ wx, Calls Try.prog 18 #[.agg #[.int .i64 A.t, .int .i64 A.n, .int .i64 A.s], .int .i64 t, .int .i64 u] wx (Nxp D x wx))
    (zda : x = 0 → ∀ wx, Calls Try.prog 11 #[.agg #[.int .i64 D.t, .int .i64 D.n, .int .i64 D.s], .agg #[.int .i64 A.t, .int .i64 A.n, .int .i64 A.s]] wx (Tlb true wx))
    (zd : x = 0 → ∀ wx, Calls Try.prog 9 #[.agg #[.int .i64 D.t, .int .i64 D.n, .int .i64 D.s]] wx (Tin 0 wx))
    (zm : ∀ wx, Calls Try.prog 15 #[.agg #[.int .i64 A.t, .int .i64 A.n, .int .i64 A.s], .int .i64 n, .agg #[.int .i64 B.t, .int .i64 B.n, .int .i64 B.s]] wx (Tlb m wx))
    (zh : ∀ wx, Calls Try.prog 13 #[.agg #[.int .i64 A.t, .int .i64 A.n, .int .i64 A.s], .int .i64 n] wx (Tlb h1 wx))
    (zi : ∀ wx, Calls Try.prog 13 #[.agg #[.int .i64 B.t, .int .i64 B.n, .int .i64 B.s], .int .i64 n] wx (Tlb h2 wx))
    (hpq : p = true → q = false) (hprs : p = true → r = true → s = true) (hbe : p = false → q = false → A.t = B.t ∧ A.n = B.n) (hx : x = 0 → D.t = t ∧ D.s = u) (hd : (x == 0) = d) (hm : m = true → h1 = true ∧ (p || h2) = true) :
    Calls Try.prog 6 #[.agg #[.int .i64 A.t, .int .i64 A.n, .int .i64 A.s], .agg #[.int .i64 B.t, .int .i64 B.n, .int .i64 B.s], .agg #[.int .i64 C.t, .int .i64 C.n, .int .i64 C.s], .int .i64 t, .int .i64 u, .int .i64 n] w (Tlb true w) := by
  have K := Bx3.new w A B C
  obtain ⟨⟨a0, a1, a2⟩, ⟨b0, b1, b2⟩, c0, c1, c2⟩ := K.cc
  have yk := fun wx (K : Bx3 w w.heap.size (w.heap.size + 1) (w.heap.size + 1 + 1) A B C wx) => K.say (zk wx)
  have yaa := fun wx (K : Bx3 w w.heap.size (w.heap.size + 1) (w.heap.size + 1 + 1) A B C wx) => K.say (zaa wx)
  have yab := fun wx (K : Bx3 w w.heap.size (w.heap.size + 1) (w.heap.size + 1 + 1) A B C wx) => K.say (zab wx)
  have yba := fun wx (K : Bx3 w w.heap.size (w.heap.size + 1) (w.heap.size + 1 + 1) A B C wx) => K.say (zba wx)
  have ybc := fun wx (K : Bx3 w w.heap.size (w.heap.size + 1) (w.heap.size + 1 + 1) A B C wx) => K.say (zbc wx)
  have yac := fun wx (K : Bx3 w w.heap.size (w.heap.size + 1) (w.heap.size + 1 + 1) A B C wx) => K.say (zac wx)
  have yn := fun wx (K : Bx3 w w.heap.size (w.heap.size + 1) (w.heap.size + 1 + 1) A B C wx) => K.nxt (zn wx)
  have jab := fun wx l (J : Bx4 w w.heap.size (w.heap.size + 1) (w.heap.size + 1 + 1) l A B C D wx) => J.say (zab wx)
  have jm := fun wx l (J : Bx4 w w.heap.size (w.heap.size + 1) (w.heap.size + 1 + 1) l A B C D wx) => J.say (zm wx)
  have jh := fun wx l (J : Bx4 w w.heap.size (w.heap.size + 1) (w.heap.size + 1 + 1) l A B C D wx) => J.say (zh wx)
  have ji := fun wx l (J : Bx4 w w.heap.size (w.heap.size + 1) (w.heap.size + 1 + 1) l A B C D wx) => J.say (zi wx)
  have jda := fun (h0 : x = 0) wx l (J : Bx4 w w.heap.size (w.heap.size + 1) (w.heap.size + 1 + 1) l A B C D wx) => J.say (zda h0 wx)
  have jd := fun (h0 : x = 0) wx l (J : Bx4 w w.heap.size (w.heap.size + 1) (w.heap.size + 1 + 1) l A B C D wx) => J.num (zd h0 wx)
  clear zk zaa zab zba zbc zac zn zda zd zm zh zi
  cases m with
  | true =>
    obtain ⟨rfl, hm2⟩ := hm rfl
    cases d with
    | true =>
      have hx0 : x = 0 := by simpa using hd
      subst hx0
      replace jd := jd rfl
      replace jda := jda rfl
      obtain ⟨dt, ds⟩ := hx rfl
      have l3 : (D.t != t) = false := by simp [dt]
      have l4 : (D.s != u) = false := by simp [ds]
      clear dt ds
      cases p with
      | true =>
        obtain rfl := hpq rfl
        cases r with
        | true =>
          obtain rfl := hprs rfl rfl
          clear hpq hprs hbe hm hd hx
          go_enter Try.func6, Try.ntmps6
          go_wp2_with (first
            | (go_at_call 5; (with_reducible refine (yk _ K).mono ?_); (rintro e wy ⟨rfl, K⟩; obtain ⟨⟨a0, a1, a2⟩, ⟨b0, b1, b2⟩, c0, c1, c2⟩ := K.cc))
            | (go_at_call 11; first | ((with_reducible refine (yaa _ K).mono ?_); (rintro e wy ⟨rfl, K⟩; obtain ⟨⟨a0, a1, a2⟩, ⟨b0, b1, b2⟩, c0, c1, c2⟩ := K.cc)) | ((with_reducible refine (yab _ K).mono ?_); (rintro e wy ⟨rfl, K⟩; obtain ⟨⟨a0, a1, a2⟩, ⟨b0, b1, b2⟩, c0, c1, c2⟩ := K.cc)) | ((with_reducible refine (yba _ K).mono ?_); (rintro e wy ⟨rfl, K⟩; obtain ⟨⟨a0, a1, a2⟩, ⟨b0, b1, b2⟩, c0, c1, c2⟩ := K.cc)) | ((with_reducible refine (ybc _ K).mono ?_); (rintro e wy ⟨rfl, K⟩; obtain ⟨⟨a0, a1, a2⟩, ⟨b0, b1, b2⟩, c0, c1, c2⟩ := K.cc)) | ((with_reducible refine (yac _ K).mono ?_); (rintro e wy ⟨rfl, K⟩; obtain ⟨⟨a0, a1, a2⟩, ⟨b0, b1, b2⟩, c0, c1, c2⟩ := K.cc)) | ((with_reducible refine (jda _ _ J).mono ?_); (rintro e wy ⟨rfl, J⟩; obtain ⟨⟨⟨a0, a1, a2⟩, ⟨b0, b1, b2⟩, c0, c1, c2⟩, x0, x1, x2⟩ := And.intro J.b.cc (rc_box J.b4))) | ((with_reducible refine (jab _ _ J).mono ?_); (rintro e wy ⟨rfl, J⟩; obtain ⟨⟨⟨a0, a1, a2⟩, ⟨b0, b1, b2⟩, c0, c1, c2⟩, x0, x1, x2⟩ := And.intro J.b.cc (rc_box J.b4))))
            | (go_at_call 18; (with_reducible refine (yn _ K).mono ?_); (rintro e w2 ⟨rfl, K⟩; obtain ⟨⟨a0, a1, a2⟩, ⟨b0, b1, b2⟩, c0, c1, c2⟩ := K.cc))
            | ((with_reducible refine atWorld w2 ?_); refine wpList_allocRow (w := w2) recTy rfl rfl ?_; (intro w3 b3 B3 s3; have b3 := Lib.hid b3; have C3 := Lib.hid B3; clear B3 s3))
            | ((with_reducible refine atWorld w3 ?_); refine wpList_storeRow (w := w3) recTy rfl (.tmp 14) (.tmp 75) rfl w2.heap.size (rcL D.t D.n D.s) _ rfl rfl rfl rfl (by simp [rcL, Value.oneCell']) b3.out ?_; (intro w4 b4 B4 s4 x4; have J : Bx4 w w.heap.size (w.heap.size + 1) (w.heap.size + 1 + 1) w2.heap.size A B C D w4 := ⟨K.step (C3.out.trans B4), b4⟩; obtain ⟨⟨⟨a0, a1, a2⟩, ⟨b0, b1, b2⟩, c0, c1, c2⟩, x0, x1, x2⟩ := And.intro J.b.cc (rc_box J.b4); clear b4 B4 s4 x4))
            | (go_at_call 9; first | ((with_reducible refine (jd _ _ J).mono ?_); (rintro e wy ⟨rfl, J⟩; obtain ⟨⟨⟨a0, a1, a2⟩, ⟨b0, b1, b2⟩, c0, c1, c2⟩, x0, x1, x2⟩ := And.intro J.b.cc (rc_box J.b4))))
            | (go_at_call 15; first | ((with_reducible refine (jm _ _ J).mono ?_); (rintro e wy ⟨rfl, J⟩; obtain ⟨⟨⟨a0, a1, a2⟩, ⟨b0, b1, b2⟩, c0, c1, c2⟩, x0, x1, x2⟩ := And.intro J.b.cc (rc_box J.b4))))
            | (go_at_call 13; first | ((with_reducible refine (jh _ _ J).mono ?_); (rintro e wy ⟨rfl, J⟩; obtain ⟨⟨⟨a0, a1, a2⟩, ⟨b0, b1, b2⟩, c0, c1, c2⟩, x0, x1, x2⟩ := And.intro J.b.cc (rc_box J.b4))) | ((with_reducible refine (ji _ _ J).mono ?_); (rintro e wy ⟨rfl, J⟩; obtain ⟨⟨⟨a0, a1, a2⟩, ⟨b0, b1, b2⟩, c0, c1, c2⟩, x0, x1, x2⟩ := And.intro J.b.cc (rc_box J.b4)))))
          go_ret
          exact ⟨rfl, J.b.fr⟩
        | false =>
          clear hpq hprs hbe hm hd hx
          go_enter Try.func6, Try.ntmps6
          go_wp2_with (first
            | (go_at_call 5; (with_reducible refine (yk _ K).mono ?_); (rintro e wy ⟨rfl, K⟩; obtain ⟨⟨a0, a1, a2⟩, ⟨b0, b1, b2⟩, c0, c1, c2⟩ := K.cc))
            | (go_at_call 11; first | ((with_reducible refine (yaa _ K).mono ?_); (rintro e wy ⟨rfl, K⟩; obtain ⟨⟨a0, a1, a2⟩, ⟨b0, b1, b2⟩, c0, c1, c2⟩ := K.cc)) | ((with_reducible refine (yab _ K).mono ?_); (rintro e wy ⟨rfl, K⟩; obtain ⟨⟨a0, a1, a2⟩, ⟨b0, b1, b2⟩, c0, c1, c2⟩ := K.cc)) | ((with_reducible refine (yba _ K).mono ?_); (rintro e wy ⟨rfl, K⟩; obtain ⟨⟨a0, a1, a2⟩, ⟨b0, b1, b2⟩, c0, c1, c2⟩ := K.cc)) | ((with_reducible refine (ybc _ K).mono ?_); (rintro e wy ⟨rfl, K⟩; obtain ⟨⟨a0, a1, a2⟩, ⟨b0, b1, b2⟩, c0, c1, c2⟩ := K.cc)) | ((with_reducible refine (yac _ K).mono ?_); (rintro e wy ⟨rfl, K⟩; obtain ⟨⟨a0, a1, a2⟩, ⟨b0, b1, b2⟩, c0, c1, c2⟩ := K.cc)) | ((with_reducible refine (jda _ _ J).mono ?_); (rintro e wy ⟨rfl, J⟩; obtain ⟨⟨⟨a0, a1, a2⟩, ⟨b0, b1, b2⟩, c0, c1, c2⟩, x0, x1, x2⟩ := And.intro J.b.cc (rc_box J.b4))) | ((with_reducible refine (jab _ _ J).mono ?_); (rintro e wy ⟨rfl, J⟩; obtain ⟨⟨⟨a0, a1, a2⟩, ⟨b0, b1, b2⟩, c0, c1, c2⟩, x0, x1, x2⟩ := And.intro J.b.cc (rc_box J.b4))))
            | (go_at_call 18; (with_reducible refine (yn _ K).mono ?_); (rintro e w2 ⟨rfl, K⟩; obtain ⟨⟨a0, a1, a2⟩, ⟨b0, b1, b2⟩, c0, c1, c2⟩ := K.cc))
            | ((with_reducible refine atWorld w2 ?_); refine wpList_allocRow (w := w2) recTy rfl rfl ?_; (intro w3 b3 B3 s3; have b3 := Lib.hid b3; have C3 := Lib.hid B3; clear B3 s3))
            | ((with_reducible refine atWorld w3 ?_); refine wpList_storeRow (w := w3) recTy rfl (.tmp 14) (.tmp 75) rfl w2.heap.size (rcL D.t D.n D.s) _ rfl rfl rfl rfl (by simp [rcL, Value.oneCell']) b3.out ?_; (intro w4 b4 B4 s4 x4; have J : Bx4 w w.heap.size (w.heap.size + 1) (w.heap.size + 1 + 1) w2.heap.size A B C D w4 := ⟨K.step (C3.out.trans B4), b4⟩; obtain ⟨⟨⟨a0, a1, a2⟩, ⟨b0, b1, b2⟩, c0, c1, c2⟩, x0, x1, x2⟩ := And.intro J.b.cc (rc_box J.b4); clear b4 B4 s4 x4))
            | (go_at_call 9; first | ((with_reducible refine (jd _ _ J).mono ?_); (rintro e wy ⟨rfl, J⟩; obtain ⟨⟨⟨a0, a1, a2⟩, ⟨b0, b1, b2⟩, c0, c1, c2⟩, x0, x1, x2⟩ := And.intro J.b.cc (rc_box J.b4))))
            | (go_at_call 15; first | ((with_reducible refine (jm _ _ J).mono ?_); (rintro e wy ⟨rfl, J⟩; obtain ⟨⟨⟨a0, a1, a2⟩, ⟨b0, b1, b2⟩, c0, c1, c2⟩, x0, x1, x2⟩ := And.intro J.b.cc (rc_box J.b4))))
            | (go_at_call 13; first | ((with_reducible refine (jh _ _ J).mono ?_); (rintro e wy ⟨rfl, J⟩; obtain ⟨⟨⟨a0, a1, a2⟩, ⟨b0, b1, b2⟩, c0, c1, c2⟩, x0, x1, x2⟩ := And.intro J.b.cc (rc_box J.b4))) | ((with_reducible refine (ji _ _ J).mono ?_); (rintro e wy ⟨rfl, J⟩; obtain ⟨⟨⟨a0, a1, a2⟩, ⟨b0, b1, b2⟩, c0, c1, c2⟩, x0, x1, x2⟩ := And.intro J.b.cc (rc_box J.b4)))))
          go_ret
          exact ⟨rfl, J.b.fr⟩
      | false =>
        obtain rfl : h2 = true := by simpa using hm2
        cases q with
        | true =>
          clear hpq hprs hbe hm hd hx
          go_enter Try.func6, Try.ntmps6
          go_wp2_with (first
            | (go_at_call 5; (with_reducible refine (yk _ K).mono ?_); (rintro e wy ⟨rfl, K⟩; obtain ⟨⟨a0, a1, a2⟩, ⟨b0, b1, b2⟩, c0, c1, c2⟩ := K.cc))
            | (go_at_call 11; first | ((with_reducible refine (yaa _ K).mono ?_); (rintro e wy ⟨rfl, K⟩; obtain ⟨⟨a0, a1, a2⟩, ⟨b0, b1, b2⟩, c0, c1, c2⟩ := K.cc)) | ((with_reducible refine (yab _ K).mono ?_); (rintro e wy ⟨rfl, K⟩; obtain ⟨⟨a0, a1, a2⟩, ⟨b0, b1, b2⟩, c0, c1, c2⟩ := K.cc)) | ((with_reducible refine (yba _ K).mono ?_); (rintro e wy ⟨rfl, K⟩; obtain ⟨⟨a0, a1, a2⟩, ⟨b0, b1, b2⟩, c0, c1, c2⟩ := K.cc)) | ((with_reducible refine (ybc _ K).mono ?_); (rintro e wy ⟨rfl, K⟩; obtain ⟨⟨a0, a1, a2⟩, ⟨b0, b1, b2⟩, c0, c1, c2⟩ := K.cc)) | ((with_reducible refine (yac _ K).mono ?_); (rintro e wy ⟨rfl, K⟩; obtain ⟨⟨a0, a1, a2⟩, ⟨b0, b1, b2⟩, c0, c1, c2⟩ := K.cc)) | ((with_reducible refine (jda _ _ J).mono ?_); (rintro e wy ⟨rfl, J⟩; obtain ⟨⟨⟨a0, a1, a2⟩, ⟨b0, b1, b2⟩, c0, c1, c2⟩, x0, x1, x2⟩ := And.intro J.b.cc (rc_box J.b4))) | ((with_reducible refine (jab _ _ J).mono ?_); (rintro e wy ⟨rfl, J⟩; obtain ⟨⟨⟨a0, a1, a2⟩, ⟨b0, b1, b2⟩, c0, c1, c2⟩, x0, x1, x2⟩ := And.intro J.b.cc (rc_box J.b4))))
            | (go_at_call 18; (with_reducible refine (yn _ K).mono ?_); (rintro e w2 ⟨rfl, K⟩; obtain ⟨⟨a0, a1, a2⟩, ⟨b0, b1, b2⟩, c0, c1, c2⟩ := K.cc))
            | ((with_reducible refine atWorld w2 ?_); refine wpList_allocRow (w := w2) recTy rfl rfl ?_; (intro w3 b3 B3 s3; have b3 := Lib.hid b3; have C3 := Lib.hid B3; clear B3 s3))
            | ((with_reducible refine atWorld w3 ?_); refine wpList_storeRow (w := w3) recTy rfl (.tmp 14) (.tmp 75) rfl w2.heap.size (rcL D.t D.n D.s) _ rfl rfl rfl rfl (by simp [rcL, Value.oneCell']) b3.out ?_; (intro w4 b4 B4 s4 x4; have J : Bx4 w w.heap.size (w.heap.size + 1) (w.heap.size + 1 + 1) w2.heap.size A B C D w4 := ⟨K.step (C3.out.trans B4), b4⟩; obtain ⟨⟨⟨a0, a1, a2⟩, ⟨b0, b1, b2⟩, c0, c1, c2⟩, x0, x1, x2⟩ := And.intro J.b.cc (rc_box J.b4); clear b4 B4 s4 x4))
            | (go_at_call 9; first | ((with_reducible refine (jd _ _ J).mono ?_); (rintro e wy ⟨rfl, J⟩; obtain ⟨⟨⟨a0, a1, a2⟩, ⟨b0, b1, b2⟩, c0, c1, c2⟩, x0, x1, x2⟩ := And.intro J.b.cc (rc_box J.b4))))
            | (go_at_call 15; first | ((with_reducible refine (jm _ _ J).mono ?_); (rintro e wy ⟨rfl, J⟩; obtain ⟨⟨⟨a0, a1, a2⟩, ⟨b0, b1, b2⟩, c0, c1, c2⟩, x0, x1, x2⟩ := And.intro J.b.cc (rc_box J.b4))))
            | (go_at_call 13; first | ((with_reducible refine (jh _ _ J).mono ?_); (rintro e wy ⟨rfl, J⟩; obtain ⟨⟨⟨a0, a1, a2⟩, ⟨b0, b1, b2⟩, c0, c1, c2⟩, x0, x1, x2⟩ := And.intro J.b.cc (rc_box J.b4))) | ((with_reducible refine (ji _ _ J).mono ?_); (rintro e wy ⟨rfl, J⟩; obtain ⟨⟨⟨a0, a1, a2⟩, ⟨b0, b1, b2⟩, c0, c1, c2⟩, x0, x1, x2⟩ := And.intro J.b.cc (rc_box J.b4)))))
          go_ret
          exact ⟨rfl, J.b.fr⟩
        | false =>
          obtain ⟨e1, e2⟩ := hbe rfl rfl
          have l1 : (A.t != B.t) = false := by simp [e1]
          have l2 : (A.n != B.n) = false := by simp [e2]
          clear e1 e2
          clear hpq hprs hbe hm hd hx
          go_enter Try.func6, Try.ntmps6
          go_wp2_with (first
            | (go_at_call 5; (with_reducible refine (yk _ K).mono ?_); (rintro e wy ⟨rfl, K⟩; obtain ⟨⟨a0, a1, a2⟩, ⟨b0, b1, b2⟩, c0, c1, c2⟩ := K.cc))
            | (go_at_call 11; first | ((with_reducible refine (yaa _ K).mono ?_); (rintro e wy ⟨rfl, K⟩; obtain ⟨⟨a0, a1, a2⟩, ⟨b0, b1, b2⟩, c0, c1, c2⟩ := K.cc)) | ((with_reducible refine (yab _ K).mono ?_); (rintro e wy ⟨rfl, K⟩; obtain ⟨⟨a0, a1, a2⟩, ⟨b0, b1, b2⟩, c0, c1, c2⟩ := K.cc)) | ((with_reducible refine (yba _ K).mono ?_); (rintro e wy ⟨rfl, K⟩; obtain ⟨⟨a0, a1, a2⟩, ⟨b0, b1, b2⟩, c0, c1, c2⟩ := K.cc)) | ((with_reducible refine (ybc _ K).mono ?_); (rintro e wy ⟨rfl, K⟩; obtain ⟨⟨a0, a1, a2⟩, ⟨b0, b1, b2⟩, c0, c1, c2⟩ := K.cc)) | ((with_reducible refine (yac _ K).mono ?_); (rintro e wy ⟨rfl, K⟩; obtain ⟨⟨a0, a1, a2⟩, ⟨b0, b1, b2⟩, c0, c1, c2⟩ := K.cc)) | ((with_reducible refine (jda _ _ J).mono ?_); (rintro e wy ⟨rfl, J⟩; obtain ⟨⟨⟨a0, a1, a2⟩, ⟨b0, b1, b2⟩, c0, c1, c2⟩, x0, x1, x2⟩ := And.intro J.b.cc (rc_box J.b4))) | ((with_reducible refine (jab _ _ J).mono ?_); (rintro e wy ⟨rfl, J⟩; obtain ⟨⟨⟨a0, a1, a2⟩, ⟨b0, b1, b2⟩, c0, c1, c2⟩, x0, x1, x2⟩ := And.intro J.b.cc (rc_box J.b4))))
            | (go_at_call 18; (with_reducible refine (yn _ K).mono ?_); (rintro e w2 ⟨rfl, K⟩; obtain ⟨⟨a0, a1, a2⟩, ⟨b0, b1, b2⟩, c0, c1, c2⟩ := K.cc))
            | ((with_reducible refine atWorld w2 ?_); refine wpList_allocRow (w := w2) recTy rfl rfl ?_; (intro w3 b3 B3 s3; have b3 := Lib.hid b3; have C3 := Lib.hid B3; clear B3 s3))
            | ((with_reducible refine atWorld w3 ?_); refine wpList_storeRow (w := w3) recTy rfl (.tmp 14) (.tmp 75) rfl w2.heap.size (rcL D.t D.n D.s) _ rfl rfl rfl rfl (by simp [rcL, Value.oneCell']) b3.out ?_; (intro w4 b4 B4 s4 x4; have J : Bx4 w w.heap.size (w.heap.size + 1) (w.heap.size + 1 + 1) w2.heap.size A B C D w4 := ⟨K.step (C3.out.trans B4), b4⟩; obtain ⟨⟨⟨a0, a1, a2⟩, ⟨b0, b1, b2⟩, c0, c1, c2⟩, x0, x1, x2⟩ := And.intro J.b.cc (rc_box J.b4); clear b4 B4 s4 x4))
            | (go_at_call 9; first | ((with_reducible refine (jd _ _ J).mono ?_); (rintro e wy ⟨rfl, J⟩; obtain ⟨⟨⟨a0, a1, a2⟩, ⟨b0, b1, b2⟩, c0, c1, c2⟩, x0, x1, x2⟩ := And.intro J.b.cc (rc_box J.b4))))
            | (go_at_call 15; first | ((with_reducible refine (jm _ _ J).mono ?_); (rintro e wy ⟨rfl, J⟩; obtain ⟨⟨⟨a0, a1, a2⟩, ⟨b0, b1, b2⟩, c0, c1, c2⟩, x0, x1, x2⟩ := And.intro J.b.cc (rc_box J.b4))))
            | (go_at_call 13; first | ((with_reducible refine (jh _ _ J).mono ?_); (rintro e wy ⟨rfl, J⟩; obtain ⟨⟨⟨a0, a1, a2⟩, ⟨b0, b1, b2⟩, c0, c1, c2⟩, x0, x1, x2⟩ := And.intro J.b.cc (rc_box J.b4))) | ((with_reducible refine (ji _ _ J).mono ?_); (rintro e wy ⟨rfl, J⟩; obtain ⟨⟨⟨a0, a1, a2⟩, ⟨b0, b1, b2⟩, c0, c1, c2⟩, x0, x1, x2⟩ := And.intro J.b.cc (rc_box J.b4)))))
          go_ret
          exact ⟨rfl, J.b.fr⟩
    | false =>
      clear jd jda
      cases p with
      | true =>
        obtain rfl := hpq rfl
        cases r with
        | true =>
          obtain rfl := hprs rfl rfl
          clear hpq hprs hbe hm hx
          go_enter Try.func6, Try.ntmps6
          go_wp2_with (first
            | (go_at_call 5; (with_reducible refine (yk _ K).mono ?_); (rintro e wy ⟨rfl, K⟩; obtain ⟨⟨a0, a1, a2⟩, ⟨b0, b1, b2⟩, c0, c1, c2⟩ := K.cc))
            | (go_at_call 11; first | ((with_reducible refine (yaa _ K).mono ?_); (rintro e wy ⟨rfl, K⟩; obtain ⟨⟨a0, a1, a2⟩, ⟨b0, b1, b2⟩, c0, c1, c2⟩ := K.cc)) | ((with_reducible refine (yab _ K).mono ?_); (rintro e wy ⟨rfl, K⟩; obtain ⟨⟨a0, a1, a2⟩, ⟨b0, b1, b2⟩, c0, c1, c2⟩ := K.cc)) | ((with_reducible refine (yba _ K).mono ?_); (rintro e wy ⟨rfl, K⟩; obtain ⟨⟨a0, a1, a2⟩, ⟨b0, b1, b2⟩, c0, c1, c2⟩ := K.cc)) | ((with_reducible refine (ybc _ K).mono ?_); (rintro e wy ⟨rfl, K⟩; obtain ⟨⟨a0, a1, a2⟩, ⟨b0, b1, b2⟩, c0, c1, c2⟩ := K.cc)) | ((with_reducible refine (yac _ K).mono ?_); (rintro e wy ⟨rfl, K⟩; obtain ⟨⟨a0, a1, a2⟩, ⟨b0, b1, b2⟩, c0, c1, c2⟩ := K.cc)) | ((with_reducible refine (jab _ _ J).mono ?_); (rintro e wy ⟨rfl, J⟩; obtain ⟨⟨⟨a0, a1, a2⟩, ⟨b0, b1, b2⟩, c0, c1, c2⟩, x0, x1, x2⟩ := And.intro J.b.cc (rc_box J.b4))) | ((with_reducible refine (jab _ _ J).mono ?_); (rintro e wy ⟨rfl, J⟩; obtain ⟨⟨⟨a0, a1, a2⟩, ⟨b0, b1, b2⟩, c0, c1, c2⟩, x0, x1, x2⟩ := And.intro J.b.cc (rc_box J.b4))))
            | (go_at_call 18; (with_reducible refine (yn _ K).mono ?_); (rintro e w2 ⟨rfl, K⟩; obtain ⟨⟨a0, a1, a2⟩, ⟨b0, b1, b2⟩, c0, c1, c2⟩ := K.cc))
            | ((with_reducible refine atWorld w2 ?_); refine wpList_allocRow (w := w2) recTy rfl rfl ?_; (intro w3 b3 B3 s3; have b3 := Lib.hid b3; have C3 := Lib.hid B3; clear B3 s3))
            | ((with_reducible refine atWorld w3 ?_); refine wpList_storeRow (w := w3) recTy rfl (.tmp 14) (.tmp 75) rfl w2.heap.size (rcL D.t D.n D.s) _ rfl rfl rfl rfl (by simp [rcL, Value.oneCell']) b3.out ?_; (intro w4 b4 B4 s4 x4; have J : Bx4 w w.heap.size (w.heap.size + 1) (w.heap.size + 1 + 1) w2.heap.size A B C D w4 := ⟨K.step (C3.out.trans B4), b4⟩; obtain ⟨⟨⟨a0, a1, a2⟩, ⟨b0, b1, b2⟩, c0, c1, c2⟩, x0, x1, x2⟩ := And.intro J.b.cc (rc_box J.b4); clear b4 B4 s4 x4))
            | (go_at_call 9; first | ((with_reducible refine (jm _ _ J).mono ?_); (rintro e wy ⟨rfl, J⟩; obtain ⟨⟨⟨a0, a1, a2⟩, ⟨b0, b1, b2⟩, c0, c1, c2⟩, x0, x1, x2⟩ := And.intro J.b.cc (rc_box J.b4))))
            | (go_at_call 15; first | ((with_reducible refine (jm _ _ J).mono ?_); (rintro e wy ⟨rfl, J⟩; obtain ⟨⟨⟨a0, a1, a2⟩, ⟨b0, b1, b2⟩, c0, c1, c2⟩, x0, x1, x2⟩ := And.intro J.b.cc (rc_box J.b4))))
            | (go_at_call 13; first | ((with_reducible refine (jh _ _ J).mono ?_); (rintro e wy ⟨rfl, J⟩; obtain ⟨⟨⟨a0, a1, a2⟩, ⟨b0, b1, b2⟩, c0, c1, c2⟩, x0, x1, x2⟩ := And.intro J.b.cc (rc_box J.b4))) | ((with_reducible refine (ji _ _ J).mono ?_); (rintro e wy ⟨rfl, J⟩; obtain ⟨⟨⟨a0, a1, a2⟩, ⟨b0, b1, b2⟩, c0, c1, c2⟩, x0, x1, x2⟩ := And.intro J.b.cc (rc_box J.b4)))))
          go_ret
          exact ⟨rfl, J.b.fr⟩
        | false =>
          clear hpq hprs hbe hm hx
          go_enter Try.func6, Try.ntmps6
          go_wp2_with (first
            | (go_at_call 5; (with_reducible refine (yk _ K).mono ?_); (rintro e wy ⟨rfl, K⟩; obtain ⟨⟨a0, a1, a2⟩, ⟨b0, b1, b2⟩, c0, c1, c2⟩ := K.cc))
            | (go_at_call 11; first | ((with_reducible refine (yaa _ K).mono ?_); (rintro e wy ⟨rfl, K⟩; obtain ⟨⟨a0, a1, a2⟩, ⟨b0, b1, b2⟩, c0, c1, c2⟩ := K.cc)) | ((with_reducible refine (yab _ K).mono ?_); (rintro e wy ⟨rfl, K⟩; obtain ⟨⟨a0, a1, a2⟩, ⟨b0, b1, b2⟩, c0, c1, c2⟩ := K.cc)) | ((with_reducible refine (yba _ K).mono ?_); (rintro e wy ⟨rfl, K⟩; obtain ⟨⟨a0, a1, a2⟩, ⟨b0, b1, b2⟩, c0, c1, c2⟩ := K.cc)) | ((with_reducible refine (ybc _ K).mono ?_); (rintro e wy ⟨rfl, K⟩; obtain ⟨⟨a0, a1, a2⟩, ⟨b0, b1, b2⟩, c0, c1, c2⟩ := K.cc)) | ((with_reducible refine (yac _ K).mono ?_); (rintro e wy ⟨rfl, K⟩; obtain ⟨⟨a0, a1, a2⟩, ⟨b0, b1, b2⟩, c0, c1, c2⟩ := K.cc)) | ((with_reducible refine (jab _ _ J).mono ?_); (rintro e wy ⟨rfl, J⟩; obtain ⟨⟨⟨a0, a1, a2⟩, ⟨b0, b1, b2⟩, c0, c1, c2⟩, x0, x1, x2⟩ := And.intro J.b.cc (rc_box J.b4))) | ((with_reducible refine (jab _ _ J).mono ?_); (rintro e wy ⟨rfl, J⟩; obtain ⟨⟨⟨a0, a1, a2⟩, ⟨b0, b1, b2⟩, c0, c1, c2⟩, x0, x1, x2⟩ := And.intro J.b.cc (rc_box J.b4))))
            | (go_at_call 18; (with_reducible refine (yn _ K).mono ?_); (rintro e w2 ⟨rfl, K⟩; obtain ⟨⟨a0, a1, a2⟩, ⟨b0, b1, b2⟩, c0, c1, c2⟩ := K.cc))
            | ((with_reducible refine atWorld w2 ?_); refine wpList_allocRow (w := w2) recTy rfl rfl ?_; (intro w3 b3 B3 s3; have b3 := Lib.hid b3; have C3 := Lib.hid B3; clear B3 s3))
            | ((with_reducible refine atWorld w3 ?_); refine wpList_storeRow (w := w3) recTy rfl (.tmp 14) (.tmp 75) rfl w2.heap.size (rcL D.t D.n D.s) _ rfl rfl rfl rfl (by simp [rcL, Value.oneCell']) b3.out ?_; (intro w4 b4 B4 s4 x4; have J : Bx4 w w.heap.size (w.heap.size + 1) (w.heap.size + 1 + 1) w2.heap.size A B C D w4 := ⟨K.step (C3.out.trans B4), b4⟩; obtain ⟨⟨⟨a0, a1, a2⟩, ⟨b0, b1, b2⟩, c0, c1, c2⟩, x0, x1, x2⟩ := And.intro J.b.cc (rc_box J.b4); clear b4 B4 s4 x4))
            | (go_at_call 9; first | ((with_reducible refine (jm _ _ J).mono ?_); (rintro e wy ⟨rfl, J⟩; obtain ⟨⟨⟨a0, a1, a2⟩, ⟨b0, b1, b2⟩, c0, c1, c2⟩, x0, x1, x2⟩ := And.intro J.b.cc (rc_box J.b4))))
            | (go_at_call 15; first | ((with_reducible refine (jm _ _ J).mono ?_); (rintro e wy ⟨rfl, J⟩; obtain ⟨⟨⟨a0, a1, a2⟩, ⟨b0, b1, b2⟩, c0, c1, c2⟩, x0, x1, x2⟩ := And.intro J.b.cc (rc_box J.b4))))
            | (go_at_call 13; first | ((with_reducible refine (jh _ _ J).mono ?_); (rintro e wy ⟨rfl, J⟩; obtain ⟨⟨⟨a0, a1, a2⟩, ⟨b0, b1, b2⟩, c0, c1, c2⟩, x0, x1, x2⟩ := And.intro J.b.cc (rc_box J.b4))) | ((with_reducible refine (ji _ _ J).mono ?_); (rintro e wy ⟨rfl, J⟩; obtain ⟨⟨⟨a0, a1, a2⟩, ⟨b0, b1, b2⟩, c0, c1, c2⟩, x0, x1, x2⟩ := And.intro J.b.cc (rc_box J.b4)))))
          go_ret
          exact ⟨rfl, J.b.fr⟩
      | false =>
        obtain rfl : h2 = true := by simpa using hm2
        cases q with
        | true =>
          clear hpq hprs hbe hm hx
          go_enter Try.func6, Try.ntmps6
          go_wp2_with (first
            | (go_at_call 5; (with_reducible refine (yk _ K).mono ?_); (rintro e wy ⟨rfl, K⟩; obtain ⟨⟨a0, a1, a2⟩, ⟨b0, b1, b2⟩, c0, c1, c2⟩ := K.cc))
            | (go_at_call 11; first | ((with_reducible refine (yaa _ K).mono ?_); (rintro e wy ⟨rfl, K⟩; obtain ⟨⟨a0, a1, a2⟩, ⟨b0, b1, b2⟩, c0, c1, c2⟩ := K.cc)) | ((with_reducible refine (yab _ K).mono ?_); (rintro e wy ⟨rfl, K⟩; obtain ⟨⟨a0, a1, a2⟩, ⟨b0, b1, b2⟩, c0, c1, c2⟩ := K.cc)) | ((with_reducible refine (yba _ K).mono ?_); (rintro e wy ⟨rfl, K⟩; obtain ⟨⟨a0, a1, a2⟩, ⟨b0, b1, b2⟩, c0, c1, c2⟩ := K.cc)) | ((with_reducible refine (ybc _ K).mono ?_); (rintro e wy ⟨rfl, K⟩; obtain ⟨⟨a0, a1, a2⟩, ⟨b0, b1, b2⟩, c0, c1, c2⟩ := K.cc)) | ((with_reducible refine (yac _ K).mono ?_); (rintro e wy ⟨rfl, K⟩; obtain ⟨⟨a0, a1, a2⟩, ⟨b0, b1, b2⟩, c0, c1, c2⟩ := K.cc)) | ((with_reducible refine (jab _ _ J).mono ?_); (rintro e wy ⟨rfl, J⟩; obtain ⟨⟨⟨a0, a1, a2⟩, ⟨b0, b1, b2⟩, c0, c1, c2⟩, x0, x1, x2⟩ := And.intro J.b.cc (rc_box J.b4))) | ((with_reducible refine (jab _ _ J).mono ?_); (rintro e wy ⟨rfl, J⟩; obtain ⟨⟨⟨a0, a1, a2⟩, ⟨b0, b1, b2⟩, c0, c1, c2⟩, x0, x1, x2⟩ := And.intro J.b.cc (rc_box J.b4))))
            | (go_at_call 18; (with_reducible refine (yn _ K).mono ?_); (rintro e w2 ⟨rfl, K⟩; obtain ⟨⟨a0, a1, a2⟩, ⟨b0, b1, b2⟩, c0, c1, c2⟩ := K.cc))
            | ((with_reducible refine atWorld w2 ?_); refine wpList_allocRow (w := w2) recTy rfl rfl ?_; (intro w3 b3 B3 s3; have b3 := Lib.hid b3; have C3 := Lib.hid B3; clear B3 s3))
            | ((with_reducible refine atWorld w3 ?_); refine wpList_storeRow (w := w3) recTy rfl (.tmp 14) (.tmp 75) rfl w2.heap.size (rcL D.t D.n D.s) _ rfl rfl rfl rfl (by simp [rcL, Value.oneCell']) b3.out ?_; (intro w4 b4 B4 s4 x4; have J : Bx4 w w.heap.size (w.heap.size + 1) (w.heap.size + 1 + 1) w2.heap.size A B C D w4 := ⟨K.step (C3.out.trans B4), b4⟩; obtain ⟨⟨⟨a0, a1, a2⟩, ⟨b0, b1, b2⟩, c0, c1, c2⟩, x0, x1, x2⟩ := And.intro J.b.cc (rc_box J.b4); clear b4 B4 s4 x4))
            | (go_at_call 9; first | ((with_reducible refine (jm _ _ J).mono ?_); (rintro e wy ⟨rfl, J⟩; obtain ⟨⟨⟨a0, a1, a2⟩, ⟨b0, b1, b2⟩, c0, c1, c2⟩, x0, x1, x2⟩ := And.intro J.b.cc (rc_box J.b4))))
            | (go_at_call 15; first | ((with_reducible refine (jm _ _ J).mono ?_); (rintro e wy ⟨rfl, J⟩; obtain ⟨⟨⟨a0, a1, a2⟩, ⟨b0, b1, b2⟩, c0, c1, c2⟩, x0, x1, x2⟩ := And.intro J.b.cc (rc_box J.b4))))
            | (go_at_call 13; first | ((with_reducible refine (jh _ _ J).mono ?_); (rintro e wy ⟨rfl, J⟩; obtain ⟨⟨⟨a0, a1, a2⟩, ⟨b0, b1, b2⟩, c0, c1, c2⟩, x0, x1, x2⟩ := And.intro J.b.cc (rc_box J.b4))) | ((with_reducible refine (ji _ _ J).mono ?_); (rintro e wy ⟨rfl, J⟩; obtain ⟨⟨⟨a0, a1, a2⟩, ⟨b0, b1, b2⟩, c0, c1, c2⟩, x0, x1, x2⟩ := And.intro J.b.cc (rc_box J.b4)))))
          go_ret
          exact ⟨rfl, J.b.fr⟩
        | false =>
          obtain ⟨e1, e2⟩ := hbe rfl rfl
          have l1 : (A.t != B.t) = false := by simp [e1]
          have l2 : (A.n != B.n) = false := by simp [e2]
          clear e1 e2
          clear hpq hprs hbe hm hx
          go_enter Try.func6, Try.ntmps6
          go_wp2_with (first
            | (go_at_call 5; (with_reducible refine (yk _ K).mono ?_); (rintro e wy ⟨rfl, K⟩; obtain ⟨⟨a0, a1, a2⟩, ⟨b0, b1, b2⟩, c0, c1, c2⟩ := K.cc))
            | (go_at_call 11; first | ((with_reducible refine (yaa _ K).mono ?_); (rintro e wy ⟨rfl, K⟩; obtain ⟨⟨a0, a1, a2⟩, ⟨b0, b1, b2⟩, c0, c1, c2⟩ := K.cc)) | ((with_reducible refine (yab _ K).mono ?_); (rintro e wy ⟨rfl, K⟩; obtain ⟨⟨a0, a1, a2⟩, ⟨b0, b1, b2⟩, c0, c1, c2⟩ := K.cc)) | ((with_reducible refine (yba _ K).mono ?_); (rintro e wy ⟨rfl, K⟩; obtain ⟨⟨a0, a1, a2⟩, ⟨b0, b1, b2⟩, c0, c1, c2⟩ := K.cc)) | ((with_reducible refine (ybc _ K).mono ?_); (rintro e wy ⟨rfl, K⟩; obtain ⟨⟨a0, a1, a2⟩, ⟨b0, b1, b2⟩, c0, c1, c2⟩ := K.cc)) | ((with_reducible refine (yac _ K).mono ?_); (rintro e wy ⟨rfl, K⟩; obtain ⟨⟨a0, a1, a2⟩, ⟨b0, b1, b2⟩, c0, c1, c2⟩ := K.cc)) | ((with_reducible refine (jab _ _ J).mono ?_); (rintro e wy ⟨rfl, J⟩; obtain ⟨⟨⟨a0, a1, a2⟩, ⟨b0, b1, b2⟩, c0, c1, c2⟩, x0, x1, x2⟩ := And.intro J.b.cc (rc_box J.b4))) | ((with_reducible refine (jab _ _ J).mono ?_); (rintro e wy ⟨rfl, J⟩; obtain ⟨⟨⟨a0, a1, a2⟩, ⟨b0, b1, b2⟩, c0, c1, c2⟩, x0, x1, x2⟩ := And.intro J.b.cc (rc_box J.b4))))
            | (go_at_call 18; (with_reducible refine (yn _ K).mono ?_); (rintro e w2 ⟨rfl, K⟩; obtain ⟨⟨a0, a1, a2⟩, ⟨b0, b1, b2⟩, c0, c1, c2⟩ := K.cc))
            | ((with_reducible refine atWorld w2 ?_); refine wpList_allocRow (w := w2) recTy rfl rfl ?_; (intro w3 b3 B3 s3; have b3 := Lib.hid b3; have C3 := Lib.hid B3; clear B3 s3))
            | ((with_reducible refine atWorld w3 ?_); refine wpList_storeRow (w := w3) recTy rfl (.tmp 14) (.tmp 75) rfl w2.heap.size (rcL D.t D.n D.s) _ rfl rfl rfl rfl (by simp [rcL, Value.oneCell']) b3.out ?_; (intro w4 b4 B4 s4 x4; have J : Bx4 w w.heap.size (w.heap.size + 1) (w.heap.size + 1 + 1) w2.heap.size A B C D w4 := ⟨K.step (C3.out.trans B4), b4⟩; obtain ⟨⟨⟨a0, a1, a2⟩, ⟨b0, b1, b2⟩, c0, c1, c2⟩, x0, x1, x2⟩ := And.intro J.b.cc (rc_box J.b4); clear b4 B4 s4 x4))
            | (go_at_call 9; first | ((with_reducible refine (jm _ _ J).mono ?_); (rintro e wy ⟨rfl, J⟩; obtain ⟨⟨⟨a0, a1, a2⟩, ⟨b0, b1, b2⟩, c0, c1, c2⟩, x0, x1, x2⟩ := And.intro J.b.cc (rc_box J.b4))))
            | (go_at_call 15; first | ((with_reducible refine (jm _ _ J).mono ?_); (rintro e wy ⟨rfl, J⟩; obtain ⟨⟨⟨a0, a1, a2⟩, ⟨b0, b1, b2⟩, c0, c1, c2⟩, x0, x1, x2⟩ := And.intro J.b.cc (rc_box J.b4))))
            | (go_at_call 13; first | ((with_reducible refine (jh _ _ J).mono ?_); (rintro e wy ⟨rfl, J⟩; obtain ⟨⟨⟨a0, a1, a2⟩, ⟨b0, b1, b2⟩, c0, c1, c2⟩, x0, x1, x2⟩ := And.intro J.b.cc (rc_box J.b4))) | ((with_reducible refine (ji _ _ J).mono ?_); (rintro e wy ⟨rfl, J⟩; obtain ⟨⟨⟨a0, a1, a2⟩, ⟨b0, b1, b2⟩, c0, c1, c2⟩, x0, x1, x2⟩ := And.intro J.b.cc (rc_box J.b4)))))
          go_ret
          exact ⟨rfl, J.b.fr⟩
  | false =>
    cases d with
    | true =>
      have hx0 : x = 0 := by simpa using hd
      subst hx0
      replace jd := jd rfl
      replace jda := jda rfl
      obtain ⟨dt, ds⟩ := hx rfl
      have l3 : (D.t != t) = false := by simp [dt]
      have l4 : (D.s != u) = false := by simp [ds]
      clear dt ds
      cases p with
      | true =>
        obtain rfl := hpq rfl
        cases r with
        | true =>
          obtain rfl := hprs rfl rfl
          clear hpq hprs hbe hm hd hx
          go_enter Try.func6, Try.ntmps6
          go_wp2_with (first
            | (go_at_call 5; (with_reducible refine (yk _ K).mono ?_); (rintro e wy ⟨rfl, K⟩; obtain ⟨⟨a0, a1, a2⟩, ⟨b0, b1, b2⟩, c0, c1, c2⟩ := K.cc))
            | (go_at_call 11; first | ((with_reducible refine (yaa _ K).mono ?_); (rintro e wy ⟨rfl, K⟩; obtain ⟨⟨a0, a1, a2⟩, ⟨b0, b1, b2⟩, c0, c1, c2⟩ := K.cc)) | ((with_reducible refine (yab _ K).mono ?_); (rintro e wy ⟨rfl, K⟩; obtain ⟨⟨a0, a1, a2⟩, ⟨b0, b1, b2⟩, c0, c1, c2⟩ := K.cc)) | ((with_reducible refine (yba _ K).mono ?_); (rintro e wy ⟨rfl, K⟩; obtain ⟨⟨a0, a1, a2⟩, ⟨b0, b1, b2⟩, c0, c1, c2⟩ := K.cc)) | ((with_reducible refine (ybc _ K).mono ?_); (rintro e wy ⟨rfl, K⟩; obtain ⟨⟨a0, a1, a2⟩, ⟨b0, b1, b2⟩, c0, c1, c2⟩ := K.cc)) | ((with_reducible refine (yac _ K).mono ?_); (rintro e wy ⟨rfl, K⟩; obtain ⟨⟨a0, a1, a2⟩, ⟨b0, b1, b2⟩, c0, c1, c2⟩ := K.cc)) | ((with_reducible refine (jda _ _ J).mono ?_); (rintro e wy ⟨rfl, J⟩; obtain ⟨⟨⟨a0, a1, a2⟩, ⟨b0, b1, b2⟩, c0, c1, c2⟩, x0, x1, x2⟩ := And.intro J.b.cc (rc_box J.b4))) | ((with_reducible refine (jab _ _ J).mono ?_); (rintro e wy ⟨rfl, J⟩; obtain ⟨⟨⟨a0, a1, a2⟩, ⟨b0, b1, b2⟩, c0, c1, c2⟩, x0, x1, x2⟩ := And.intro J.b.cc (rc_box J.b4))))
            | (go_at_call 18; (with_reducible refine (yn _ K).mono ?_); (rintro e w2 ⟨rfl, K⟩; obtain ⟨⟨a0, a1, a2⟩, ⟨b0, b1, b2⟩, c0, c1, c2⟩ := K.cc))
            | ((with_reducible refine atWorld w2 ?_); refine wpList_allocRow (w := w2) recTy rfl rfl ?_; (intro w3 b3 B3 s3; have b3 := Lib.hid b3; have C3 := Lib.hid B3; clear B3 s3))
            | ((with_reducible refine atWorld w3 ?_); refine wpList_storeRow (w := w3) recTy rfl (.tmp 14) (.tmp 75) rfl w2.heap.size (rcL D.t D.n D.s) _ rfl rfl rfl rfl (by simp [rcL, Value.oneCell']) b3.out ?_; (intro w4 b4 B4 s4 x4; have J : Bx4 w w.heap.size (w.heap.size + 1) (w.heap.size + 1 + 1) w2.heap.size A B C D w4 := ⟨K.step (C3.out.trans B4), b4⟩; obtain ⟨⟨⟨a0, a1, a2⟩, ⟨b0, b1, b2⟩, c0, c1, c2⟩, x0, x1, x2⟩ := And.intro J.b.cc (rc_box J.b4); clear b4 B4 s4 x4))
            | (go_at_call 9; first | ((with_reducible refine (jd _ _ J).mono ?_); (rintro e wy ⟨rfl, J⟩; obtain ⟨⟨⟨a0, a1, a2⟩, ⟨b0, b1, b2⟩, c0, c1, c2⟩, x0, x1, x2⟩ := And.intro J.b.cc (rc_box J.b4))))
            | (go_at_call 15; first | ((with_reducible refine (jm _ _ J).mono ?_); (rintro e wy ⟨rfl, J⟩; obtain ⟨⟨⟨a0, a1, a2⟩, ⟨b0, b1, b2⟩, c0, c1, c2⟩, x0, x1, x2⟩ := And.intro J.b.cc (rc_box J.b4))))
            | (go_at_call 13; first | ((with_reducible refine (jh _ _ J).mono ?_); (rintro e wy ⟨rfl, J⟩; obtain ⟨⟨⟨a0, a1, a2⟩, ⟨b0, b1, b2⟩, c0, c1, c2⟩, x0, x1, x2⟩ := And.intro J.b.cc (rc_box J.b4))) | ((with_reducible refine (ji _ _ J).mono ?_); (rintro e wy ⟨rfl, J⟩; obtain ⟨⟨⟨a0, a1, a2⟩, ⟨b0, b1, b2⟩, c0, c1, c2⟩, x0, x1, x2⟩ := And.intro J.b.cc (rc_box J.b4)))))
          go_ret
          exact ⟨rfl, J.b.fr⟩
        | false =>
          clear hpq hprs hbe hm hd hx
          go_enter Try.func6, Try.ntmps6
          go_wp2_with (first
            | (go_at_call 5; (with_reducible refine (yk _ K).mono ?_); (rintro e wy ⟨rfl, K⟩; obtain ⟨⟨a0, a1, a2⟩, ⟨b0, b1, b2⟩, c0, c1, c2⟩ := K.cc))
            | (go_at_call 11; first | ((with_reducible refine (yaa _ K).mono ?_); (rintro e wy ⟨rfl, K⟩; obtain ⟨⟨a0, a1, a2⟩, ⟨b0, b1, b2⟩, c0, c1, c2⟩ := K.cc)) | ((with_reducible refine (yab _ K).mono ?_); (rintro e wy ⟨rfl, K⟩; obtain ⟨⟨a0, a1, a2⟩, ⟨b0, b1, b2⟩, c0, c1, c2⟩ := K.cc)) | ((with_reducible refine (yba _ K).mono ?_); (rintro e wy ⟨rfl, K⟩; obtain ⟨⟨a0, a1, a2⟩, ⟨b0, b1, b2⟩, c0, c1, c2⟩ := K.cc)) | ((with_reducible refine (ybc _ K).mono ?_); (rintro e wy ⟨rfl, K⟩; obtain ⟨⟨a0, a1, a2⟩, ⟨b0, b1, b2⟩, c0, c1, c2⟩ := K.cc)) | ((with_reducible refine (yac _ K).mono ?_); (rintro e wy ⟨rfl, K⟩; obtain ⟨⟨a0, a1, a2⟩, ⟨b0, b1, b2⟩, c0, c1, c2⟩ := K.cc)) | ((with_reducible refine (jda _ _ J).mono ?_); (rintro e wy ⟨rfl, J⟩; obtain ⟨⟨⟨a0, a1, a2⟩, ⟨b0, b1, b2⟩, c0, c1, c2⟩, x0, x1, x2⟩ := And.intro J.b.cc (rc_box J.b4))) | ((with_reducible refine (jab _ _ J).mono ?_); (rintro e wy ⟨rfl, J⟩; obtain ⟨⟨⟨a0, a1, a2⟩, ⟨b0, b1, b2⟩, c0, c1, c2⟩, x0, x1, x2⟩ := And.intro J.b.cc (rc_box J.b4))))
            | (go_at_call 18; (with_reducible refine (yn _ K).mono ?_); (rintro e w2 ⟨rfl, K⟩; obtain ⟨⟨a0, a1, a2⟩, ⟨b0, b1, b2⟩, c0, c1, c2⟩ := K.cc))
            | ((with_reducible refine atWorld w2 ?_); refine wpList_allocRow (w := w2) recTy rfl rfl ?_; (intro w3 b3 B3 s3; have b3 := Lib.hid b3; have C3 := Lib.hid B3; clear B3 s3))
            | ((with_reducible refine atWorld w3 ?_); refine wpList_storeRow (w := w3) recTy rfl (.tmp 14) (.tmp 75) rfl w2.heap.size (rcL D.t D.n D.s) _ rfl rfl rfl rfl (by simp [rcL, Value.oneCell']) b3.out ?_; (intro w4 b4 B4 s4 x4; have J : Bx4 w w.heap.size (w.heap.size + 1) (w.heap.size + 1 + 1) w2.heap.size A B C D w4 := ⟨K.step (C3.out.trans B4), b4⟩; obtain ⟨⟨⟨a0, a1, a2⟩, ⟨b0, b1, b2⟩, c0, c1, c2⟩, x0, x1, x2⟩ := And.intro J.b.cc (rc_box J.b4); clear b4 B4 s4 x4))
            | (go_at_call 9; first | ((with_reducible refine (jd _ _ J).mono ?_); (rintro e wy ⟨rfl, J⟩; obtain ⟨⟨⟨a0, a1, a2⟩, ⟨b0, b1, b2⟩, c0, c1, c2⟩, x0, x1, x2⟩ := And.intro J.b.cc (rc_box J.b4))))
            | (go_at_call 15; first | ((with_reducible refine (jm _ _ J).mono ?_); (rintro e wy ⟨rfl, J⟩; obtain ⟨⟨⟨a0, a1, a2⟩, ⟨b0, b1, b2⟩, c0, c1, c2⟩, x0, x1, x2⟩ := And.intro J.b.cc (rc_box J.b4))))
            | (go_at_call 13; first | ((with_reducible refine (jh _ _ J).mono ?_); (rintro e wy ⟨rfl, J⟩; obtain ⟨⟨⟨a0, a1, a2⟩, ⟨b0, b1, b2⟩, c0, c1, c2⟩, x0, x1, x2⟩ := And.intro J.b.cc (rc_box J.b4))) | ((with_reducible refine (ji _ _ J).mono ?_); (rintro e wy ⟨rfl, J⟩; obtain ⟨⟨⟨a0, a1, a2⟩, ⟨b0, b1, b2⟩, c0, c1, c2⟩, x0, x1, x2⟩ := And.intro J.b.cc (rc_box J.b4)))))
          go_ret
          exact ⟨rfl, J.b.fr⟩
      | false =>
        cases q with
        | true =>
          clear hpq hprs hbe hm hd hx
          go_enter Try.func6, Try.ntmps6
          go_wp2_with (first
            | (go_at_call 5; (with_reducible refine (yk _ K).mono ?_); (rintro e wy ⟨rfl, K⟩; obtain ⟨⟨a0, a1, a2⟩, ⟨b0, b1, b2⟩, c0, c1, c2⟩ := K.cc))
            | (go_at_call 11; first | ((with_reducible refine (yaa _ K).mono ?_); (rintro e wy ⟨rfl, K⟩; obtain ⟨⟨a0, a1, a2⟩, ⟨b0, b1, b2⟩, c0, c1, c2⟩ := K.cc)) | ((with_reducible refine (yab _ K).mono ?_); (rintro e wy ⟨rfl, K⟩; obtain ⟨⟨a0, a1, a2⟩, ⟨b0, b1, b2⟩, c0, c1, c2⟩ := K.cc)) | ((with_reducible refine (yba _ K).mono ?_); (rintro e wy ⟨rfl, K⟩; obtain ⟨⟨a0, a1, a2⟩, ⟨b0, b1, b2⟩, c0, c1, c2⟩ := K.cc)) | ((with_reducible refine (ybc _ K).mono ?_); (rintro e wy ⟨rfl, K⟩; obtain ⟨⟨a0, a1, a2⟩, ⟨b0, b1, b2⟩, c0, c1, c2⟩ := K.cc)) | ((with_reducible refine (yac _ K).mono ?_); (rintro e wy ⟨rfl, K⟩; obtain ⟨⟨a0, a1, a2⟩, ⟨b0, b1, b2⟩, c0, c1, c2⟩ := K.cc)) | ((with_reducible refine (jda _ _ J).mono ?_); (rintro e wy ⟨rfl, J⟩; obtain ⟨⟨⟨a0, a1, a2⟩, ⟨b0, b1, b2⟩, c0, c1, c2⟩, x0, x1, x2⟩ := And.intro J.b.cc (rc_box J.b4))) | ((with_reducible refine (jab _ _ J).mono ?_); (rintro e wy ⟨rfl, J⟩; obtain ⟨⟨⟨a0, a1, a2⟩, ⟨b0, b1, b2⟩, c0, c1, c2⟩, x0, x1, x2⟩ := And.intro J.b.cc (rc_box J.b4))))
            | (go_at_call 18; (with_reducible refine (yn _ K).mono ?_); (rintro e w2 ⟨rfl, K⟩; obtain ⟨⟨a0, a1, a2⟩, ⟨b0, b1, b2⟩, c0, c1, c2⟩ := K.cc))
            | ((with_reducible refine atWorld w2 ?_); refine wpList_allocRow (w := w2) recTy rfl rfl ?_; (intro w3 b3 B3 s3; have b3 := Lib.hid b3; have C3 := Lib.hid B3; clear B3 s3))
            | ((with_reducible refine atWorld w3 ?_); refine wpList_storeRow (w := w3) recTy rfl (.tmp 14) (.tmp 75) rfl w2.heap.size (rcL D.t D.n D.s) _ rfl rfl rfl rfl (by simp [rcL, Value.oneCell']) b3.out ?_; (intro w4 b4 B4 s4 x4; have J : Bx4 w w.heap.size (w.heap.size + 1) (w.heap.size + 1 + 1) w2.heap.size A B C D w4 := ⟨K.step (C3.out.trans B4), b4⟩; obtain ⟨⟨⟨a0, a1, a2⟩, ⟨b0, b1, b2⟩, c0, c1, c2⟩, x0, x1, x2⟩ := And.intro J.b.cc (rc_box J.b4); clear b4 B4 s4 x4))
            | (go_at_call 9; first | ((with_reducible refine (jd _ _ J).mono ?_); (rintro e wy ⟨rfl, J⟩; obtain ⟨⟨⟨a0, a1, a2⟩, ⟨b0, b1, b2⟩, c0, c1, c2⟩, x0, x1, x2⟩ := And.intro J.b.cc (rc_box J.b4))))
            | (go_at_call 15; first | ((with_reducible refine (jm _ _ J).mono ?_); (rintro e wy ⟨rfl, J⟩; obtain ⟨⟨⟨a0, a1, a2⟩, ⟨b0, b1, b2⟩, c0, c1, c2⟩, x0, x1, x2⟩ := And.intro J.b.cc (rc_box J.b4))))
            | (go_at_call 13; first | ((with_reducible refine (jh _ _ J).mono ?_); (rintro e wy ⟨rfl, J⟩; obtain ⟨⟨⟨a0, a1, a2⟩, ⟨b0, b1, b2⟩, c0, c1, c2⟩, x0, x1, x2⟩ := And.intro J.b.cc (rc_box J.b4))) | ((with_reducible refine (ji _ _ J).mono ?_); (rintro e wy ⟨rfl, J⟩; obtain ⟨⟨⟨a0, a1, a2⟩, ⟨b0, b1, b2⟩, c0, c1, c2⟩, x0, x1, x2⟩ := And.intro J.b.cc (rc_box J.b4)))))
          go_ret
          exact ⟨rfl, J.b.fr⟩
        | false =>
          obtain ⟨e1, e2⟩ := hbe rfl rfl
          have l1 : (A.t != B.t) = false := by simp [e1]
          have l2 : (A.n != B.n) = false := by simp [e2]
          clear e1 e2
          clear hpq hprs hbe hm hd hx
          go_enter Try.func6, Try.ntmps6
          go_wp2_with (first
            | (go_at_call 5; (with_reducible refine (yk _ K).mono ?_); (rintro e wy ⟨rfl, K⟩; obtain ⟨⟨a0, a1, a2⟩, ⟨b0, b1, b2⟩, c0, c1, c2⟩ := K.cc))
            | (go_at_call 11; first | ((with_reducible refine (yaa _ K).mono ?_); (rintro e wy ⟨rfl, K⟩; obtain ⟨⟨a0, a1, a2⟩, ⟨b0, b1, b2⟩, c0, c1, c2⟩ := K.cc)) | ((with_reducible refine (yab _ K).mono ?_); (rintro e wy ⟨rfl, K⟩; obtain ⟨⟨a0, a1, a2⟩, ⟨b0, b1, b2⟩, c0, c1, c2⟩ := K.cc)) | ((with_reducible refine (yba _ K).mono ?_); (rintro e wy ⟨rfl, K⟩; obtain ⟨⟨a0, a1, a2⟩, ⟨b0, b1, b2⟩, c0, c1, c2⟩ := K.cc)) | ((with_reducible refine (ybc _ K).mono ?_); (rintro e wy ⟨rfl, K⟩; obtain ⟨⟨a0, a1, a2⟩, ⟨b0, b1, b2⟩, c0, c1, c2⟩ := K.cc)) | ((with_reducible refine (yac _ K).mono ?_); (rintro e wy ⟨rfl, K⟩; obtain ⟨⟨a0, a1, a2⟩, ⟨b0, b1, b2⟩, c0, c1, c2⟩ := K.cc)) | ((with_reducible refine (jda _ _ J).mono ?_); (rintro e wy ⟨rfl, J⟩; obtain ⟨⟨⟨a0, a1, a2⟩, ⟨b0, b1, b2⟩, c0, c1, c2⟩, x0, x1, x2⟩ := And.intro J.b.cc (rc_box J.b4))) | ((with_reducible refine (jab _ _ J).mono ?_); (rintro e wy ⟨rfl, J⟩; obtain ⟨⟨⟨a0, a1, a2⟩, ⟨b0, b1, b2⟩, c0, c1, c2⟩, x0, x1, x2⟩ := And.intro J.b.cc (rc_box J.b4))))
            | (go_at_call 18; (with_reducible refine (yn _ K).mono ?_); (rintro e w2 ⟨rfl, K⟩; obtain ⟨⟨a0, a1, a2⟩, ⟨b0, b1, b2⟩, c0, c1, c2⟩ := K.cc))
            | ((with_reducible refine atWorld w2 ?_); refine wpList_allocRow (w := w2) recTy rfl rfl ?_; (intro w3 b3 B3 s3; have b3 := Lib.hid b3; have C3 := Lib.hid B3; clear B3 s3))
            | ((with_reducible refine atWorld w3 ?_); refine wpList_storeRow (w := w3) recTy rfl (.tmp 14) (.tmp 75) rfl w2.heap.size (rcL D.t D.n D.s) _ rfl rfl rfl rfl (by simp [rcL, Value.oneCell']) b3.out ?_; (intro w4 b4 B4 s4 x4; have J : Bx4 w w.heap.size (w.heap.size + 1) (w.heap.size + 1 + 1) w2.heap.size A B C D w4 := ⟨K.step (C3.out.trans B4), b4⟩; obtain ⟨⟨⟨a0, a1, a2⟩, ⟨b0, b1, b2⟩, c0, c1, c2⟩, x0, x1, x2⟩ := And.intro J.b.cc (rc_box J.b4); clear b4 B4 s4 x4))
            | (go_at_call 9; first | ((with_reducible refine (jd _ _ J).mono ?_); (rintro e wy ⟨rfl, J⟩; obtain ⟨⟨⟨a0, a1, a2⟩, ⟨b0, b1, b2⟩, c0, c1, c2⟩, x0, x1, x2⟩ := And.intro J.b.cc (rc_box J.b4))))
            | (go_at_call 15; first | ((with_reducible refine (jm _ _ J).mono ?_); (rintro e wy ⟨rfl, J⟩; obtain ⟨⟨⟨a0, a1, a2⟩, ⟨b0, b1, b2⟩, c0, c1, c2⟩, x0, x1, x2⟩ := And.intro J.b.cc (rc_box J.b4))))
            | (go_at_call 13; first | ((with_reducible refine (jh _ _ J).mono ?_); (rintro e wy ⟨rfl, J⟩; obtain ⟨⟨⟨a0, a1, a2⟩, ⟨b0, b1, b2⟩, c0, c1, c2⟩, x0, x1, x2⟩ := And.intro J.b.cc (rc_box J.b4))) | ((with_reducible refine (ji _ _ J).mono ?_); (rintro e wy ⟨rfl, J⟩; obtain ⟨⟨⟨a0, a1, a2⟩, ⟨b0, b1, b2⟩, c0, c1, c2⟩, x0, x1, x2⟩ := And.intro J.b.cc (rc_box J.b4)))))
          go_ret
          exact ⟨rfl, J.b.fr⟩
    | false =>
      clear jd jda
      cases p with
      | true =>
        obtain rfl := hpq rfl
        cases r with
        | true =>
          obtain rfl := hprs rfl rfl
          clear hpq hprs hbe hm hx
          go_enter Try.func6, Try.ntmps6
          go_wp2_with (first
            | (go_at_call 5; (with_reducible refine (yk _ K).mono ?_); (rintro e wy ⟨rfl, K⟩; obtain ⟨⟨a0, a1, a2⟩, ⟨b0, b1, b2⟩, c0, c1, c2⟩ := K.cc))
            | (go_at_call 11; first | ((with_reducible refine (yaa _ K).mono ?_); (rintro e wy ⟨rfl, K⟩; obtain ⟨⟨a0, a1, a2⟩, ⟨b0, b1, b2⟩, c0, c1, c2⟩ := K.cc)) | ((with_reducible refine (yab _ K).mono ?_); (rintro e wy ⟨rfl, K⟩; obtain ⟨⟨a0, a1, a2⟩, ⟨b0, b1, b2⟩, c0, c1, c2⟩ := K.cc)) | ((with_reducible refine (yba _ K).mono ?_); (rintro e wy ⟨rfl, K⟩; obtain ⟨⟨a0, a1, a2⟩, ⟨b0, b1, b2⟩, c0, c1, c2⟩ := K.cc)) | ((with_reducible refine (ybc _ K).mono ?_); (rintro e wy ⟨rfl, K⟩; obtain ⟨⟨a0, a1, a2⟩, ⟨b0, b1, b2⟩, c0, c1, c2⟩ := K.cc)) | ((with_reducible refine (yac _ K).mono ?_); (rintro e wy ⟨rfl, K⟩; obtain ⟨⟨a0, a1, a2⟩, ⟨b0, b1, b2⟩, c0, c1, c2⟩ := K.cc)) | ((with_reducible refine (jab _ _ J).mono ?_); (rintro e wy ⟨rfl, J⟩; obtain ⟨⟨⟨a0, a1, a2⟩, ⟨b0, b1, b2⟩, c0, c1, c2⟩, x0, x1, x2⟩ := And.intro J.b.cc (rc_box J.b4))) | ((with_reducible refine (jab _ _ J).mono ?_); (rintro e wy ⟨rfl, J⟩; obtain ⟨⟨⟨a0, a1, a2⟩, ⟨b0, b1, b2⟩, c0, c1, c2⟩, x0, x1, x2⟩ := And.intro J.b.cc (rc_box J.b4))))
            | (go_at_call 18; (with_reducible refine (yn _ K).mono ?_); (rintro e w2 ⟨rfl, K⟩; obtain ⟨⟨a0, a1, a2⟩, ⟨b0, b1, b2⟩, c0, c1, c2⟩ := K.cc))
            | ((with_reducible refine atWorld w2 ?_); refine wpList_allocRow (w := w2) recTy rfl rfl ?_; (intro w3 b3 B3 s3; have b3 := Lib.hid b3; have C3 := Lib.hid B3; clear B3 s3))
            | ((with_reducible refine atWorld w3 ?_); refine wpList_storeRow (w := w3) recTy rfl (.tmp 14) (.tmp 75) rfl w2.heap.size (rcL D.t D.n D.s) _ rfl rfl rfl rfl (by simp [rcL, Value.oneCell']) b3.out ?_; (intro w4 b4 B4 s4 x4; have J : Bx4 w w.heap.size (w.heap.size + 1) (w.heap.size + 1 + 1) w2.heap.size A B C D w4 := ⟨K.step (C3.out.trans B4), b4⟩; obtain ⟨⟨⟨a0, a1, a2⟩, ⟨b0, b1, b2⟩, c0, c1, c2⟩, x0, x1, x2⟩ := And.intro J.b.cc (rc_box J.b4); clear b4 B4 s4 x4))
            | (go_at_call 9; first | ((with_reducible refine (jm _ _ J).mono ?_); (rintro e wy ⟨rfl, J⟩; obtain ⟨⟨⟨a0, a1, a2⟩, ⟨b0, b1, b2⟩, c0, c1, c2⟩, x0, x1, x2⟩ := And.intro J.b.cc (rc_box J.b4))))
            | (go_at_call 15; first | ((with_reducible refine (jm _ _ J).mono ?_); (rintro e wy ⟨rfl, J⟩; obtain ⟨⟨⟨a0, a1, a2⟩, ⟨b0, b1, b2⟩, c0, c1, c2⟩, x0, x1, x2⟩ := And.intro J.b.cc (rc_box J.b4))))
            | (go_at_call 13; first | ((with_reducible refine (jh _ _ J).mono ?_); (rintro e wy ⟨rfl, J⟩; obtain ⟨⟨⟨a0, a1, a2⟩, ⟨b0, b1, b2⟩, c0, c1, c2⟩, x0, x1, x2⟩ := And.intro J.b.cc (rc_box J.b4))) | ((with_reducible refine (ji _ _ J).mono ?_); (rintro e wy ⟨rfl, J⟩; obtain ⟨⟨⟨a0, a1, a2⟩, ⟨b0, b1, b2⟩, c0, c1, c2⟩, x0, x1, x2⟩ := And.intro J.b.cc (rc_box J.b4)))))
          go_ret
          exact ⟨rfl, J.b.fr⟩
        | false =>
          clear hpq hprs hbe hm hx
          go_enter Try.func6, Try.ntmps6
          go_wp2_with (first
            | (go_at_call 5; (with_reducible refine (yk _ K).mono ?_); (rintro e wy ⟨rfl, K⟩; obtain ⟨⟨a0, a1, a2⟩, ⟨b0, b1, b2⟩, c0, c1, c2⟩ := K.cc))
            | (go_at_call 11; first | ((with_reducible refine (yaa _ K).mono ?_); (rintro e wy ⟨rfl, K⟩; obtain ⟨⟨a0, a1, a2⟩, ⟨b0, b1, b2⟩, c0, c1, c2⟩ := K.cc)) | ((with_reducible refine (yab _ K).mono ?_); (rintro e wy ⟨rfl, K⟩; obtain ⟨⟨a0, a1, a2⟩, ⟨b0, b1, b2⟩, c0, c1, c2⟩ := K.cc)) | ((with_reducible refine (yba _ K).mono ?_); (rintro e wy ⟨rfl, K⟩; obtain ⟨⟨a0, a1, a2⟩, ⟨b0, b1, b2⟩, c0, c1, c2⟩ := K.cc)) | ((with_reducible refine (ybc _ K).mono ?_); (rintro e wy ⟨rfl, K⟩; obtain ⟨⟨a0, a1, a2⟩, ⟨b0, b1, b2⟩, c0, c1, c2⟩ := K.cc)) | ((with_reducible refine (yac _ K).mono ?_); (rintro e wy ⟨rfl, K⟩; obtain ⟨⟨a0, a1, a2⟩, ⟨b0, b1, b2⟩, c0, c1, c2⟩ := K.cc)) | ((with_reducible refine (jab _ _ J).mono ?_); (rintro e wy ⟨rfl, J⟩; obtain ⟨⟨⟨a0, a1, a2⟩, ⟨b0, b1, b2⟩, c0, c1, c2⟩, x0, x1, x2⟩ := And.intro J.b.cc (rc_box J.b4))) | ((with_reducible refine (jab _ _ J).mono ?_); (rintro e wy ⟨rfl, J⟩; obtain ⟨⟨⟨a0, a1, a2⟩, ⟨b0, b1, b2⟩, c0, c1, c2⟩, x0, x1, x2⟩ := And.intro J.b.cc (rc_box J.b4))))
            | (go_at_call 18; (with_reducible refine (yn _ K).mono ?_); (rintro e w2 ⟨rfl, K⟩; obtain ⟨⟨a0, a1, a2⟩, ⟨b0, b1, b2⟩, c0, c1, c2⟩ := K.cc))
            | ((with_reducible refine atWorld w2 ?_); refine wpList_allocRow (w := w2) recTy rfl rfl ?_; (intro w3 b3 B3 s3; have b3 := Lib.hid b3; have C3 := Lib.hid B3; clear B3 s3))
            | ((with_reducible refine atWorld w3 ?_); refine wpList_storeRow (w := w3) recTy rfl (.tmp 14) (.tmp 75) rfl w2.heap.size (rcL D.t D.n D.s) _ rfl rfl rfl rfl (by simp [rcL, Value.oneCell']) b3.out ?_; (intro w4 b4 B4 s4 x4; have J : Bx4 w w.heap.size (w.heap.size + 1) (w.heap.size + 1 + 1) w2.heap.size A B C D w4 := ⟨K.step (C3.out.trans B4), b4⟩; obtain ⟨⟨⟨a0, a1, a2⟩, ⟨b0, b1, b2⟩, c0, c1, c2⟩, x0, x1, x2⟩ := And.intro J.b.cc (rc_box J.b4); clear b4 B4 s4 x4))
            | (go_at_call 9; first | ((with_reducible refine (jm _ _ J).mono ?_); (rintro e wy ⟨rfl, J⟩; obtain ⟨⟨⟨a0, a1, a2⟩, ⟨b0, b1, b2⟩, c0, c1, c2⟩, x0, x1, x2⟩ := And.intro J.b.cc (rc_box J.b4))))
            | (go_at_call 15; first | ((with_reducible refine (jm _ _ J).mono ?_); (rintro e wy ⟨rfl, J⟩; obtain ⟨⟨⟨a0, a1, a2⟩, ⟨b0, b1, b2⟩, c0, c1, c2⟩, x0, x1, x2⟩ := And.intro J.b.cc (rc_box J.b4))))
            | (go_at_call 13; first | ((with_reducible refine (jh _ _ J).mono ?_); (rintro e wy ⟨rfl, J⟩; obtain ⟨⟨⟨a0, a1, a2⟩, ⟨b0, b1, b2⟩, c0, c1, c2⟩, x0, x1, x2⟩ := And.intro J.b.cc (rc_box J.b4))) | ((with_reducible refine (ji _ _ J).mono ?_); (rintro e wy ⟨rfl, J⟩; obtain ⟨⟨⟨a0, a1, a2⟩, ⟨b0, b1, b2⟩, c0, c1, c2⟩, x0, x1, x2⟩ := And.intro J.b.cc (rc_box J.b4)))))
          go_ret
          exact ⟨rfl, J.b.fr⟩
      | false =>
        cases q with
        | true =>
          clear hpq hprs hbe hm hx
          go_enter Try.func6, Try.ntmps6
          go_wp2_with (first
            | (go_at_call 5; (with_reducible refine (yk _ K).mono ?_); (rintro e wy ⟨rfl, K⟩; obtain ⟨⟨a0, a1, a2⟩, ⟨b0, b1, b2⟩, c0, c1, c2⟩ := K.cc))
            | (go_at_call 11; first | ((with_reducible refine (yaa _ K).mono ?_); (rintro e wy ⟨rfl, K⟩; obtain ⟨⟨a0, a1, a2⟩, ⟨b0, b1, b2⟩, c0, c1, c2⟩ := K.cc)) | ((with_reducible refine (yab _ K).mono ?_); (rintro e wy ⟨rfl, K⟩; obtain ⟨⟨a0, a1, a2⟩, ⟨b0, b1, b2⟩, c0, c1, c2⟩ := K.cc)) | ((with_reducible refine (yba _ K).mono ?_); (rintro e wy ⟨rfl, K⟩; obtain ⟨⟨a0, a1, a2⟩, ⟨b0, b1, b2⟩, c0, c1, c2⟩ := K.cc)) | ((with_reducible refine (ybc _ K).mono ?_); (rintro e wy ⟨rfl, K⟩; obtain ⟨⟨a0, a1, a2⟩, ⟨b0, b1, b2⟩, c0, c1, c2⟩ := K.cc)) | ((with_reducible refine (yac _ K).mono ?_); (rintro e wy ⟨rfl, K⟩; obtain ⟨⟨a0, a1, a2⟩, ⟨b0, b1, b2⟩, c0, c1, c2⟩ := K.cc)) | ((with_reducible refine (jab _ _ J).mono ?_); (rintro e wy ⟨rfl, J⟩; obtain ⟨⟨⟨a0, a1, a2⟩, ⟨b0, b1, b2⟩, c0, c1, c2⟩, x0, x1, x2⟩ := And.intro J.b.cc (rc_box J.b4))) | ((with_reducible refine (jab _ _ J).mono ?_); (rintro e wy ⟨rfl, J⟩; obtain ⟨⟨⟨a0, a1, a2⟩, ⟨b0, b1, b2⟩, c0, c1, c2⟩, x0, x1, x2⟩ := And.intro J.b.cc (rc_box J.b4))))
            | (go_at_call 18; (with_reducible refine (yn _ K).mono ?_); (rintro e w2 ⟨rfl, K⟩; obtain ⟨⟨a0, a1, a2⟩, ⟨b0, b1, b2⟩, c0, c1, c2⟩ := K.cc))
            | ((with_reducible refine atWorld w2 ?_); refine wpList_allocRow (w := w2) recTy rfl rfl ?_; (intro w3 b3 B3 s3; have b3 := Lib.hid b3; have C3 := Lib.hid B3; clear B3 s3))
            | ((with_reducible refine atWorld w3 ?_); refine wpList_storeRow (w := w3) recTy rfl (.tmp 14) (.tmp 75) rfl w2.heap.size (rcL D.t D.n D.s) _ rfl rfl rfl rfl (by simp [rcL, Value.oneCell']) b3.out ?_; (intro w4 b4 B4 s4 x4; have J : Bx4 w w.heap.size (w.heap.size + 1) (w.heap.size + 1 + 1) w2.heap.size A B C D w4 := ⟨K.step (C3.out.trans B4), b4⟩; obtain ⟨⟨⟨a0, a1, a2⟩, ⟨b0, b1, b2⟩, c0, c1, c2⟩, x0, x1, x2⟩ := And.intro J.b.cc (rc_box J.b4); clear b4 B4 s4 x4))
            | (go_at_call 9; first | ((with_reducible refine (jm _ _ J).mono ?_); (rintro e wy ⟨rfl, J⟩; obtain ⟨⟨⟨a0, a1, a2⟩, ⟨b0, b1, b2⟩, c0, c1, c2⟩, x0, x1, x2⟩ := And.intro J.b.cc (rc_box J.b4))))
            | (go_at_call 15; first | ((with_reducible refine (jm _ _ J).mono ?_); (rintro e wy ⟨rfl, J⟩; obtain ⟨⟨⟨a0, a1, a2⟩, ⟨b0, b1, b2⟩, c0, c1, c2⟩, x0, x1, x2⟩ := And.intro J.b.cc (rc_box J.b4))))
            | (go_at_call 13; first | ((with_reducible refine (jh _ _ J).mono ?_); (rintro e wy ⟨rfl, J⟩; obtain ⟨⟨⟨a0, a1, a2⟩, ⟨b0, b1, b2⟩, c0, c1, c2⟩, x0, x1, x2⟩ := And.intro J.b.cc (rc_box J.b4))) | ((with_reducible refine (ji _ _ J).mono ?_); (rintro e wy ⟨rfl, J⟩; obtain ⟨⟨⟨a0, a1, a2⟩, ⟨b0, b1, b2⟩, c0, c1, c2⟩, x0, x1, x2⟩ := And.intro J.b.cc (rc_box J.b4)))))
          go_ret
          exact ⟨rfl, J.b.fr⟩
        | false =>
          obtain ⟨e1, e2⟩ := hbe rfl rfl
          have l1 : (A.t != B.t) = false := by simp [e1]
          have l2 : (A.n != B.n) = false := by simp [e2]
          clear e1 e2
          clear hpq hprs hbe hm hx
          go_enter Try.func6, Try.ntmps6
          go_wp2_with (first
            | (go_at_call 5; (with_reducible refine (yk _ K).mono ?_); (rintro e wy ⟨rfl, K⟩; obtain ⟨⟨a0, a1, a2⟩, ⟨b0, b1, b2⟩, c0, c1, c2⟩ := K.cc))
            | (go_at_call 11; first | ((with_reducible refine (yaa _ K).mono ?_); (rintro e wy ⟨rfl, K⟩; obtain ⟨⟨a0, a1, a2⟩, ⟨b0, b1, b2⟩, c0, c1, c2⟩ := K.cc)) | ((with_reducible refine (yab _ K).mono ?_); (rintro e wy ⟨rfl, K⟩; obtain ⟨⟨a0, a1, a2⟩, ⟨b0, b1, b2⟩, c0, c1, c2⟩ := K.cc)) | ((with_reducible refine (yba _ K).mono ?_); (rintro e wy ⟨rfl, K⟩; obtain ⟨⟨a0, a1, a2⟩, ⟨b0, b1, b2⟩, c0, c1, c2⟩ := K.cc)) | ((with_reducible refine (ybc _ K).mono ?_); (rintro e wy ⟨rfl, K⟩; obtain ⟨⟨a0, a1, a2⟩, ⟨b0, b1, b2⟩, c0, c1, c2⟩ := K.cc)) | ((with_reducible refine (yac _ K).mono ?_); (rintro e wy ⟨rfl, K⟩; obtain ⟨⟨a0, a1, a2⟩, ⟨b0, b1, b2⟩, c0, c1, c2⟩ := K.cc)) | ((with_reducible refine (jab _ _ J).mono ?_); (rintro e wy ⟨rfl, J⟩; obtain ⟨⟨⟨a0, a1, a2⟩, ⟨b0, b1, b2⟩, c0, c1, c2⟩, x0, x1, x2⟩ := And.intro J.b.cc (rc_box J.b4))) | ((with_reducible refine (jab _ _ J).mono ?_); (rintro e wy ⟨rfl, J⟩; obtain ⟨⟨⟨a0, a1, a2⟩, ⟨b0, b1, b2⟩, c0, c1, c2⟩, x0, x1, x2⟩ := And.intro J.b.cc (rc_box J.b4))))
            | (go_at_call 18; (with_reducible refine (yn _ K).mono ?_); (rintro e w2 ⟨rfl, K⟩; obtain ⟨⟨a0, a1, a2⟩, ⟨b0, b1, b2⟩, c0, c1, c2⟩ := K.cc))
            | ((with_reducible refine atWorld w2 ?_); refine wpList_allocRow (w := w2) recTy rfl rfl ?_; (intro w3 b3 B3 s3; have b3 := Lib.hid b3; have C3 := Lib.hid B3; clear B3 s3))
            | ((with_reducible refine atWorld w3 ?_); refine wpList_storeRow (w := w3) recTy rfl (.tmp 14) (.tmp 75) rfl w2.heap.size (rcL D.t D.n D.s) _ rfl rfl rfl rfl (by simp [rcL, Value.oneCell']) b3.out ?_; (intro w4 b4 B4 s4 x4; have J : Bx4 w w.heap.size (w.heap.size + 1) (w.heap.size + 1 + 1) w2.heap.size A B C D w4 := ⟨K.step (C3.out.trans B4), b4⟩; obtain ⟨⟨⟨a0, a1, a2⟩, ⟨b0, b1, b2⟩, c0, c1, c2⟩, x0, x1, x2⟩ := And.intro J.b.cc (rc_box J.b4); clear b4 B4 s4 x4))
            | (go_at_call 9; first | ((with_reducible refine (jm _ _ J).mono ?_); (rintro e wy ⟨rfl, J⟩; obtain ⟨⟨⟨a0, a1, a2⟩, ⟨b0, b1, b2⟩, c0, c1, c2⟩, x0, x1, x2⟩ := And.intro J.b.cc (rc_box J.b4))))
            | (go_at_call 15; first | ((with_reducible refine (jm _ _ J).mono ?_); (rintro e wy ⟨rfl, J⟩; obtain ⟨⟨⟨a0, a1, a2⟩, ⟨b0, b1, b2⟩, c0, c1, c2⟩, x0, x1, x2⟩ := And.intro J.b.cc (rc_box J.b4))))
            | (go_at_call 13; first | ((with_reducible refine (jh _ _ J).mono ?_); (rintro e wy ⟨rfl, J⟩; obtain ⟨⟨⟨a0, a1, a2⟩, ⟨b0, b1, b2⟩, c0, c1, c2⟩, x0, x1, x2⟩ := And.intro J.b.cc (rc_box J.b4))) | ((with_reducible refine (ji _ _ J).mono ?_); (rintro e wy ⟨rfl, J⟩; obtain ⟨⟨⟨a0, a1, a2⟩, ⟨b0, b1, b2⟩, c0, c1, c2⟩, x0, x1, x2⟩ := And.intro J.b.cc (rc_box J.b4)))))
          go_ret
          exact ⟨rfl, J.b.fr⟩
theorem rcOrder_any (A B C : R) (t u n : Int) (hA : I64 A.s) (hB : I64 B.s) (hu : I64 u) (w : World) : Calls Try.prog 6 #[.agg #[.int .i64 A.t, .int .i64 A.n, .int .i64 A.s], .agg #[.int .i64 B.t, .int .i64 B.n, .int .i64 B.s], .agg #[.int .i64 C.t, .int .i64 C.n, .int .i64 C.s], .int .i64 t, .int .i64 u, .int .i64 n] w (Tlb true w) :=
  rcOrder_core A B C (nextV A t u) t u n (nextE A t u) w _ _ _ _ _ _ _ _ rcKnown_any
    (fun wx => by have := rcNewer_any A.t A.n A.s A.t A.n A.s wx; rwa [decide_eq_false (new_self A)] at this)
    (fun wx => rcNewer_any A.t A.n A.s B.t B.n B.s wx) (fun wx => rcNewer_any B.t B.n B.s A.t A.n A.s wx) (fun wx => rcNewer_any B.t B.n B.s C.t C.n C.s wx) (fun wx => rcNewer_any A.t A.n A.s C.t C.n C.s wx)
    (fun wx => rcNext_any A.t A.n A.s t u hA hu wx)
    (fun h wx => by have := rcNewer_any (nextV A t u).t (nextV A t u).n (nextV A t u).s A.t A.n A.s wx; rwa [decide_eq_true (next_new h).1] at this)
    (fun h wx => by have := rcCheck_any (nextV A t u).t (nextV A t u).n (nextV A t u).s (by rw [(next_new h).2.2.2]; exact hu) wx; rwa [show errN _ = 0 from if_pos (next_new h).2.1] at this)
    (fun wx => rcMay_any A.t A.n A.s B.t B.n B.s n hA hB wx) (fun wx => rcHas_any A.t A.n A.s n wx) (fun wx => rcHas_any B.t B.n B.s n wx)
    (fun h => decide_eq_false (new_two (of_decide_eq_true h))) (fun h k => decide_eq_true (new_three (of_decide_eq_true h) (of_decide_eq_true k)))
    (fun h k => new_beside (of_decide_eq_false h) (of_decide_eq_false k)) (fun h => ⟨(next_new h).2.2.1, (next_new h).2.2.2⟩) rfl
    (fun h => by
      obtain ⟨_, _, x, y⟩ := of_decide_eq_true h
      exact ⟨decide_eq_true x, by rcases y with y | y <;> simp [decide_eq_true y]⟩)
end Go.Proofs.Ytofecokbpopdnaa
