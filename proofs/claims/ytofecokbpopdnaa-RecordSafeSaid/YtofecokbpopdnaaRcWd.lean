/-
  RecordSafe: its world in memory; another set is the primary's. Conditions: none.
-/
import Derived.Test.YtofecokbpopdnaaRcLaw
import Derived.Test.YtofecokbpopdnaaStoreCell
import Derived.Test.YtofecokbpopdnaaModNat
import Derived.Test.YtofecokbpopdnaaRegTail
namespace Go.Proofs.Ytofecokbpopdnaa
open Go.RowKit Rc

def wdC (r : Nat → R) (h : Nat → Bool) (p t : Int) (no sa : Bool) : List Value := [.int .i64 (r 0).t, .int .i64 (r 0).n, .int .i64 (r 0).s, .int .i64 (r 1).t, .int .i64 (r 1).n, .int .i64 (r 1).s, .int .i64 (r 2).t, .int .i64 (r 2).n, .int .i64 (r 2).s, .bool (h 0), .bool (h 1), .int .i64 p, .int .i64 t, .bool no, .bool sa]
/-- since w0: the law's world at g -/
structure Wm (w0 : World) (g : Nat) (r : Nat → R) (h : Nat → Bool) (p t : Int) (no sa : Bool) (w : World) : Prop where
  fr : Below w0.heap.size w0 w
  blk : BlkR 43 w g (wdC r h p t no sa)
  ge : w0.heap.size ≤ g
section
variable {w0 w w' : World} {g k : Nat} {r : Nat → R} {h : Nat → Bool} {p t : Int} {no sa : Bool}
theorem Wm.step (K : Wm w0 g r h p t no sa w) (B : Below w.heap.size w w') : Wm w0 g r h p t no sa w' := ⟨step_trans K.fr B, K.blk.below B K.blk.lt, K.ge⟩
theorem Wm.rec3 (K : Wm w0 g r h p t no sa w) (hk : k < 3) : w.cell? ⟨g, k * 3, none⟩ = some (.int .i64 (r k).t) ∧ w.cell? ⟨g, k * 3 + 1, none⟩ = some (.int .i64 (r k).n) ∧ w.cell? ⟨g, k * 3 + 2, none⟩ = some (.int .i64 (r k).s) := by
  rcases lt3 hk with rfl | rfl | rfl <;> exact ⟨K.blk.cell rfl, K.blk.cell rfl, K.blk.cell rfl⟩
theorem Wm.has2 (K : Wm w0 g r h p t no sa w) (hk : k < 2) : w.cell? ⟨g, 9 + k, none⟩ = some (.bool (h k)) := by
  rcases lt2 hk with rfl | rfl <;> exact K.blk.cell rfl
theorem Wm.own (K : Wm w0 g r h p t no sa w) : w.cell? ⟨g, 11, none⟩ = some (.int .i64 p) ∧ w.cell? ⟨g, 12, none⟩ = some (.int .i64 t) ∧ w.cell? ⟨g, 13, none⟩ = some (.bool no) ∧ w.cell? ⟨g, 14, none⟩ = some (.bool sa) := ⟨K.blk.cell rfl, K.blk.cell rfl, K.blk.cell rfl, K.blk.cell rfl⟩
/-- some cells of it are others now -/
theorem Wm.put (K : Wm w0 g r h p t no sa w) {r' : Nat → R} {h' : Nat → Bool} {p' t' : Int} {no' sa' : Bool} {xs : List Value} (b : BlkR 43 w' g xs) (e : xs = wdC r' h' p' t' no' sa') (B : Below g w w') : Wm w0 g r' h' p' t' no' sa' w' := ⟨K.fr.trans (B.mono K.ge), e ▸ b, K.ge⟩
/-- another block's cell is another one now -/
theorem Wm.far (K : Wm w0 g r h p t no sa w) {m j : Nat} (hm : m ≠ g) (h0 : w0.heap.size ≤ m) (v : Value) : Wm w0 g r h p t no sa (w.setCell ⟨m, j, none⟩ v) :=
  ⟨K.fr.trans ((Below.refl _ _).setCell (p := ⟨m, j, none⟩) h0 v), (Below.heap_setCell w ⟨m, j, none⟩ v g fun e => hm e.symm).trans K.blk, K.ge⟩
theorem Wm.name {m : Nat} {xs : List Value} {x : R} (K : Wm w0 g r h p t no sa w ∧ BlkR 23 w m xs) (e : xs = rcL x.t x.n x.s) : ∃ we, we = { w with drawn := w.drawn + 1 } ∧ Wm w0 g r h p t no sa we ∧ BlkR 23 we m (rcL x.t x.n x.s) :=
  ⟨_, rfl, K.1.step (Below.refl _ w).drew, e ▸ K.2.below (Below.refl _ w).drew K.2.lt⟩
theorem wd_rec (x : R) (hk : k < 3) : (wdC r h p t no sa).take (k * 3) ++ rcL x.t x.n x.s ++ (wdC r h p t no sa).drop (k * 3 + (rcL x.t x.n x.s).length) = wdC (updR r k x) h p t no sa := by
  rcases lt3 hk with rfl | rfl | rfl <;> rfl
theorem wd_has (x : Bool) (hk : k < 2) : (wdC r h p t no sa).set (9 + k) (.bool x) = wdC r (updR h k x) p t no sa := by
  rcases lt2 hk with rfl | rfl <;> rfl
theorem wd_len : (wdC r h p t no sa).length = 15 := rfl
end
set_option maxRecDepth 100000 in
set_option maxHeartbeats 1000000 in
theorem set_any {w0 w : World} {g q : Nat} {r : Nat → R} {h : Nat → Bool} {p t s : Int} {no sa : Bool} {x : R} (K : Wm w0 g r h p t no sa w) (hq : q < 2) (hp : p = (q : Int)) (hrs : I64 (r q).s) (hs : I64 s) (he : nextE (r q) t s = 0) (hv : nextV (r q) t s = x) :
    Calls Try.prog 29 #[.pointer (some ⟨g, 0, none⟩), .int .i64 s] w fun e w' => e = .returned (.bool true) ∧ Wm w0 g (updR r q x) h p t false sa w' := by
  subst hp
  have Kd : Wm w0 g r h q t no sa w.drew := K.step (Below.refl _ w).drew
  have rd : ∀ wx, Wm w0 g r h q t no sa wx → wx.cell? ⟨g, 11, none⟩ = some (.int .i64 (q : Int)) ∧ wx.cell? ⟨g, 12, none⟩ = some (.int .i64 t) ∧ wx.cell? ⟨g, q * 3, none⟩ = some (.int .i64 (r q).t) ∧ wx.cell? ⟨g, q * 3 + 1, none⟩ = some (.int .i64 (r q).n) ∧ wx.cell? ⟨g, q * 3 + 2, none⟩ = some (.int .i64 (r q).s) := fun wx K => by
    obtain ⟨c11, c12, _, _⟩ := K.own
    obtain ⟨a0, a1, a2⟩ := K.rec3 (show q < 3 by omega)
    exact ⟨c11, c12, a0, a1, a2⟩
  have S0 := rd _ Kd
  obtain ⟨y, hy⟩ : ∃ y, y = Obj.cells #[.int .i64 0, .int .i64 0, .int .i64 0] 23 := ⟨_, rfl⟩
  have Ka : Wm w0 g r h q t no sa (w.alloc y).drew := K.step (step_alloc (Below.refl _ w) y).drew
  have ba : BlkR 23 (w.alloc y).drew w.heap.size (rcL 0 0 0) := by rw [hy]; have b := BlkR.new w (rcL 0 0 0) 23; exact b.below (Below.refl _ _).drew b.lt
  rw [hy] at Ka ba
  have S1 := rd _ Ka
  have zn := fun wx => rcNext_any (r q).t (r q).n (r q).s t s hrs hs wx
  rw [show nextE ⟨(r q).t, (r q).n, (r q).s⟩ t s = 0 from he, show nextV ⟨(r q).t, (r q).n, (r q).s⟩ t s = x from hv] at zn
  have l3 : (q : Int) < 3 := by omega
  have HK := Lib.hid Kd
  have HA := Lib.hid (And.intro Ka ba)
  have HQ := Lib.hid hq
  have NG := Lib.hid (show w.heap.size ≠ g ∧ w0.heap.size ≤ w.heap.size from ⟨by have := K.blk.lt; omega, K.fr.size⟩)
  clear K Kd hrs hs he hv hq Ka ba hy
  go_enter Try.func29, Try.ntmps29
  go_wp2
  go_region_held3 (fun w' => w'.cell? ⟨g, 11, none⟩ = some (.int .i64 (q : Int)) ∧ w'.cell? ⟨g, 12, none⟩ = some (.int .i64 t) ∧ w'.cell? ⟨g, q * 3, none⟩ = some (.int .i64 (r q).t) ∧ w'.cell? ⟨g, q * 3 + 1, none⟩ = some (.int .i64 (r q).n) ∧ w'.cell? ⟨g, q * 3 + 2, none⟩ = some (.int .i64 (r q).s)) (first | exact S0 | exact S1 | assumption | go_keep) (first
    | (go_at_call 18; first
      | ((with_reducible refine (zn w.drew).mono ?_); (rintro e w2 ⟨rfl, B2⟩; have K2 := HK.out.step B2; have S2 := rd _ K2; have Kb := K2.step (step_alloc (Below.refl _ w2) (.cells #[.int .i64 0, .int .i64 0, .int .i64 0] 23)); have Sb := rd _ Kb; have b2 := BlkR.new w2 (rcL 0 0 0) 23; obtain ⟨y0, y1, y2⟩ := rc_box b2; have f2 := b2.frozen; have K3 := K2.step (step_alloc (Below.refl _ w2) (.cells #[.int .i64 x.t, .int .i64 x.n, .int .i64 x.s] 23)); have S3 := rd _ K3; have b3 := BlkR.new w2 (rcL x.t x.n x.s) 23; have K3 := Lib.hid (And.intro K3 b3); clear B2 b3 b2))
      | ((with_reducible refine (zn (w.alloc (.cells #[.int .i64 0, .int .i64 0, .int .i64 0] 23)).drew).mono ?_); (rintro e w2 ⟨rfl, B2⟩; have K2 := HA.out.1.step B2; have b2 := HA.out.2.below B2 HA.out.2.lt; have S2 := rd _ K2; obtain ⟨y0, y1, y2⟩ := rc_box b2; have f2 := b2.frozen; have K3 := ((K2.far (j := 0) NG.out.1 NG.out.2 (.int .i64 x.t)).far (j := 1) NG.out.1 NG.out.2 (.int .i64 x.n)).far (j := 2) NG.out.1 NG.out.2 (.int .i64 x.s); have S3 := rd _ K3; have b3 := ((b2.set_ 0 (.int .i64 x.t)).set_ 1 (.int .i64 x.n)).set_ 2 (.int .i64 x.s); have K3 := Lib.hid (And.intro K3 b3); clear B2 b3 b2))))
  all_goals
    obtain ⟨we, hwe, Ke, be⟩ := Wm.name (x := x) K3.out rfl
    obtain ⟨d11, d12, _, _⟩ := Ke.own
    obtain ⟨y0, y1, y2⟩ := rc_box be
    have HE := Lib.hid Ke
    clear Ke be
    go_wp2
    refine region_tail 9 (by kernel_rfl) (by kernel_rfl) we hwe ?_
    clear hwe
    simp only [List.take_succ_cons, List.take_zero, List.drop_succ_cons, List.drop_zero]
    repeat still_step
    refine wpStill_nil ?_
    go_wp2_with (first
      | ((with_reducible refine atWorld we ?_); refine wpList_putRow (w := we) recTy rfl (.tmp 35) (.tmp 32) rfl (q * 3) (rcL x.t x.n x.s) (wdC r h q t no sa) rfl rfl rfl (by have := HQ.out; simp [rcL, wd_len]; omega) (by simp [rcL, Value.oneCell']) HE.out.blk ?_; (intro w5 b5 B5 s5 x5; have K5 := HE.out.put b5 (wd_rec x (Nat.lt_trans HQ.out (by decide))) B5; have b6 := K5.blk; have HK5 := Lib.hid K5; clear b5 B5 s5 x5 K5))
      | ((with_reducible refine atWorld w5 ?_); refine wpList_storeCell (w := w5) rfl 4 (.tmp 38) (.const (.bool false)) rfl (.bool false) rfl rfl b6 (show 13 < 15 by decide) (by kernel_rfl) rfl ?_; (intro w6 b7 B7 s7 x7; have HK7 := Lib.hid (HK5.out.put b7 (show _ = wdC (updR r q x) h q t false sa from rfl) B7); clear b7 B7 s7 x7)))
    go_ret
    exact ⟨rfl, HK7.out⟩
end Go.Proofs.Ytofecokbpopdnaa
