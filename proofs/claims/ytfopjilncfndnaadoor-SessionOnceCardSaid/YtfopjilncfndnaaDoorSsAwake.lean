/-
  awake, over two new sessions. Conditions: the table of crc lies as the program's text lays it.
-/
import Derived.Test.YtfopjilncfndnaaDoorSsTwo
namespace Go.Proofs.YtfopjilncfndnaaDoor
open Go.RowKit Fix

/-- the chapter's first examples -/
def aw0 : Ss.S := Ss.new 1
def aw1 : Ss.S := aw0.send [7]
def awD : Ss.D := aw1.dat (1, [7])
def bw0 : Ss.S := Ss.new 2
def bw1 : Ss.S := bw0.recv awD
def bw2 : Ss.S := bw1.recv awD
theorem aw_ok : awD.Ok := ⟨by decide, by decide, by decide, by decide, by decide, by decide, by decide⟩
set_option maxRecDepth 100000 in
set_option maxHeartbeats 2000000 in
theorem awake_any (w : World) (ht : TabAt w) : Calls Tryd.prog 8 #[] w fun e w' => e = .returned (.bool true) ∧ Below w.heap.size w w' := by
  have z1 := new_at 1 1 rfl w (by decide) (by decide)
  have z2 := fun w1 => new_at 2 2 rfl w1 (by decide) (by decide)
  obtain ⟨hE, hD⟩ := Ss.read_enc awD aw_ok
  have hlen : awD.enc.length = 42 := Ss.enc_length awD
  have hn1 : bw0.news awD = true := by decide +kernel
  have hn2 : bw1.news awD = false := by decide +kernel
  have he0 : aw0.sendE [7] = 0 := by decide
  have NW := Lib.hid (fun w1 w2 (B1 : Below w.heap.size w w1) h1 h2 (B2 : Below w1.heap.size w1 w2) => two_new (w0 := w) (na := 1) (nb := 2) ht B1 h1 h2 B2)
  have zs : ∀ (a b g : Nat) (w3 : World) (T : TwoAt w w3 a b (fun _ => False) (fun _ => False) aw0 bw0), g = w3.heap.size → _ := fun a b g w3 T hg => send_two (T.step ((Below.refl _ w3).alloc (Nat.le_refl _) (.cells (cellsOfBytes [7]).toArray 5))) (some ⟨g, 0, none⟩) [7] 1 1 rfl (T.txt [7] g hg 5 (0, 0)) (fun ad e => by cases e; have := T.a_.blt; show g ≠ a; omega) he0
  have zg : ∀ (a b g : Nat) (w3 : World) (Fa : Nat → Prop) (T : TwoAt w w3 a b Fa (fun _ => False) aw1 bw0) (A : Option Addr) (c : Nat) (hc : 42 ≤ c) (x : Txt a b w3 A awD.enc), g = w3.heap.size → _ := fun a b g w3 Fa T A c hc x hg => gets_two (T.step ((Below.refl _ w3).alloc (Nat.le_refl _) (.cells (cellsOfBytes [7]).toArray 5))).swap A awD.enc 42 c hlen hc (by decide) (x.step ((Below.refl _ w3).alloc (Nat.le_refl _) _)).swap awD hE hD hn1 (some ⟨g, 0, none⟩) [7] 1 1 rfl (T.txt [7] g hg 5 (0, 0)).swap rfl
  have zn : ∀ (a b : Nat) (w3 : World) (Fa : Nat → Prop) (T : TwoAt w w3 b a (fun _ => False) Fa bw1 aw1) (A : Option Addr) (c : Nat) (hc : 42 ≤ c) (x : Txt a b w3 A awD.enc), _ := fun a b w3 Fa T A c hc x => not_two T A awD.enc 42 c hlen hc (by decide) x.swap awD hE hD hn2
  have zw : ∀ (a b : Nat) (w3 : World) (Fa : Nat → Prop) (T : TwoAt w w3 b a (fun _ => False) Fa bw2 aw1), _ := fun a b w3 Fa T => waiting_any a Fa aw1 w3 T.b_
  obtain ⟨E, hE0⟩ : ∃ E, E = awD.enc := ⟨_, rfl⟩
  have hsd : (aw0.send [7]).dat (aw0.sent + 1, [7]) = awD := rfl
  rw [hsd] at zs
  rw [← hE0] at zs zg zn
  have hwl : aw1.wait.length = 1 := rfl
  rw [hwl] at zw
  have e1 : aw0.send [7] = aw1 := rfl
  have e2 : bw0.recv awD = bw1 := rfl
  have e3 : bw1.recv awD = bw2 := rfl
  rw [e1] at zs
  rw [e2] at zg
  rw [e3] at zn
  clear hE hD hlen hn1 hn2 he0 hE0 hsd hwl e1 e2 e3 ht
  go_enter Tryd.func8, Tryd.ntmps8
  go_wp2_with (first
    | (go_at_call 6; first
      | ((with_reducible refine (z1).mono ?_); (rintro e w1 ⟨rfl, S1, B1⟩; have H1 := Lib.hid (And.intro S1 B1); clear S1 B1))
      | ((with_reducible refine (z2 w1).mono ?_); (rintro e w2 ⟨rfl, S2, B2⟩; have T2 := NW.out w1 w2 H1.out.2 H1.out.1 S2 B2; have H2 := Lib.hid T2; clear S2 B2)))
    | (go_at_call 16; refine (zs _ _ _ w2 H2.out rfl).mono ?_; (rintro e w3 ⟨F3, A3, c3, rfl, hc3, T3, x3, F13⟩; have H3 := Lib.hid (And.intro T3 x3); clear T3 x3 F13))
    | (go_at_call 17; refine (zg _ _ _ w3 F3 H3.out.1 A3 c3 hc3 H3.out.2 rfl).mono ?_; (rintro e w4 ⟨rfl, T4, F34⟩; have x4 := H3.out.2.frame ((Frame.of_below ((Below.refl _ w3).alloc (Nat.le_refl _) (.cells (cellsOfBytes [7]).toArray 5))).trans (AB.swap F34) fun _ e => .inl e); have H4 := Lib.hid (And.intro T4 x4); clear T4 x4 F34))
    | (go_at_call 18; refine (zn _ _ w4 F3 H4.out.1 A3 c3 hc3 H4.out.2).mono ?_; (rintro e w5 ⟨rfl, T5, F45⟩; have H5 := Lib.hid T5; clear T5 F45))
    | (go_at_call 12; refine (zw _ _ w5 F3 H5.out).mono ?_; (rintro e w6 ⟨rfl, rfl⟩)))
  go_ret
  exact ⟨rfl, H5.out.fr⟩
end Go.Proofs.YtfopjilncfndnaaDoor
