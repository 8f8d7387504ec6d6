/- MasseyGoes: the arguments are in order -/
import Derived.Test.YtmjboiaopihjeaaMsO
namespace Go.Proofs.Ytmjboiaopihjeaa
open Go Go.RowKit Go.ChangeShapes Go.WideShapes
theorem Ms.again {lc l : List (BitVec 32)} {L k : Nat} (hk : l.length = k) (hL : L ≤ k) (hr : Ms.Rec lc L (Po.cf l) k) : Ms.Goes lc (l.take L) k l := by
  have ht : (l.take L).length = L := by rw [List.length_take]; omega
  exact ⟨hk, fun i h1 h2 => by rw [Po.cf_take, if_pos (by omega)], by rw [ht]; exact hr⟩
theorem Ms.Goes.ex (c b : List (BitVec 32)) (n : Nat) (hc : Po.cf c 0 = 1) (hl : c.length = b.length + 1) : ∃ l, Ms.Goes c b n l := by
  have h : ∀ j, ∃ f, Ms.Gs c b f (b.length + j) := by
    intro j
    induction j with
    | zero =>
      have := Ms.Gs.start c b b.length (Nat.le_refl _)
      exact ⟨_, this⟩
    | succ j ih =>
      obtain ⟨f, hf⟩ := ih
      exact ⟨fun i => if i = b.length + j then Po.mulL c f (b.length + j) else f i, hf.step hc (by omega) fun _ => rfl⟩
  obtain ⟨f, hf⟩ := h n
  exact ⟨_, hf.goes hc hl (by omega)⟩
set_option maxHeartbeats 2000000 in
set_option maxRecDepth 100000 in
theorem masseyGoes_short (ad : Addr) (a1 : Option Addr) (n0 c0 n1 c1 k : Nat) (l0 l1 : List (BitVec 32)) (W : World) (w0 : Words32 W (some ad) n0 l0) (w1' : Words32 W a1 n1 l1) (z1' : a1 = none → c1 = 0) (hR : Ms.isR l0 = true) (hnm : n0 = n1 + 1) (hk60 : k ≤ 60) (g1 : ¬ 12 < n0)
    (l : List (BitVec 32)) (hgl : Ms.Goes l0 l1 k l) (L : Nat) (hL : Ms.Least (Po.cf l) k L) (hc2 : k < 2 * L) :
    Calls Try.prog 5 #[.slice (some ad) n0 c0, .slice a1 n1 c1, .int .i64 (k : Int)] W fun e w' => e = .returned (.bool true) ∧ Below W.heap.size W w' := by
  have hl0 := w0.1
  have hl1 := w1'.1
  have hLk := hL.le
  have g1' : ¬ (12 : Int) < (n0 : Int) := by omega
  have g2' : ¬ (12 : Int) < (n1 : Int) := by omega
  have g4 : ¬ (60 : Int) < (k : Int) := by omega
  have g6 : ¬ (k : Int) < 0 := by omega
  have g7 : ¬ (1000 : Int) < (k : Int) := by omega
  have hwn : IntKind.i64.wrap ((n0 : Int) - 1) = (n0 : Int) - 1 := IntWalk.i64_in _ (by omega)
  have hne : ((n1 : Int) != (n0 : Int) - 1) = false := by simp; omega
  have e0' : ((n0 : Int) == 0) = false := by simp; omega
  obtain ⟨hl0n, h1c⟩ := Ms.isR_true.1 hR
  obtain ⟨ad', e, hx⟩ := w0.2.2 0 (by omega)
  injection e with e
  subst e
  rw [show ad.add 0 = ad from by unfold Addr.add; cases ad; simp, show l0.getD 0 0 = 1#32 from h1c] at hx
  have hcl : ∀ w2, Below W.heap.size W w2 → w2.cell? ad = some (.int .u32 (nb32 1#32)) := fun w2 hb => (hb.cell (isSome_lt (by rw [hx]; rfl))).trans hx
  have hrec : Ms.Rec l0 (n0 - 1) (Po.cf l) k := by rw [show n0 - 1 = l1.length from by omega]; exact hgl.rc
  have hLn := hL.least _ _ hrec
  have hLn0 : ¬ (n0 : Int) ≤ (L : Int) := by omega
  have hll := hgl.len
  have HH := Lib.hid (And.intro hL (And.intro hgl (And.intro hrec hnm)))
  have hk1k : k ≤ 1000 := by omega
  have hk1m : k ≤ 1000000 := by omega
  have hn1m : n0 ≤ 1000000 := by omega
  have hn1k : n1 ≤ 1000 := by omega
  have hwL : IntKind.i64.wrap (2 * (L : Int)) = 2 * (L : Int) := IntWalk.i64_in _ (by omega)
  have q1 : ¬ (k : Int) < (L : Int) := by omega
  have q2 : (L : Int) ≤ (k : Int) := by omega
  have q3 : (0 : Int) ≤ (L : Int) := by omega
  clear hL hgl hrec hnm hx h1c hl0n
  have hc2' : (k : Int) < 2 * (L : Int) := by omega
  go_enter Try.func5, Try.ntmps5
  go_wp2_with (first
    | (go_at_call 9; refine (shortest_any sa k sc L _ w6 (hsw.below hX6) hsc hk1m HH.out.1).mono ?_; rintro e w7 ⟨⟨v7, ld, rfl, hv7, hld, hrd⟩, hb7⟩; obtain ⟨da, dc, rfl, hdc, hdw⟩ := fresh_shape hv7 hld; have hX7 := hX6.trans (hb7.mono hX6.size))
    | (go_at_call 11; refine (length_any sa k sc L _ w5 (hsw.below hX5) hsc hk1m HH.out.1).mono ?_; rintro e w6 ⟨rfl, hb6⟩; have hX6 := hX5.trans (hb6.mono hX5.size))
    | (go_at_call 13; refine (keeps_any (some ad) sa n0 c0 k sc l0 _ w4 (w0.below (hB2.trans (hX4.mono hB2.size))) (hsw.below hX4) hsc hn1m hk1m true ⟨fun _ => ⟨by have := HH.out.2.2.2; omega, HH.out.2.2.1⟩, fun _ => rfl⟩).mono ?_; rintro e w5 ⟨rfl, hb5⟩; have hX5 := hX4.trans (hb5.mono hX4.size))
    | (go_at_call 14; refine (words_same sa ra k sc k rc _ _ w3 (hsw.below hX3) hrw rfl).mono ?_; rintro e w4 ⟨rfl, hd4⟩; have hX4 := hX3.trans (hd4.below _))
    | (go_at_call 17; refine (rgoes_any (some ad) a1 n0 c0 n1 c1 k l0 l1 w2 (w0.below hB2) (w1'.below hB2) z1' hR HH.out.2.2.2 hk1k hn1k).mono ?_; rintro e w3 ⟨⟨v3, l3, rfl, hv3, hgo3⟩, hb3⟩; have el := hgo3.unique HH.out.2.1; subst el; obtain ⟨ra, rc, rfl, hrc, hrw⟩ := fresh_shape hv3 hll; have hX3 := hX2.trans (hb3.mono hX2.size))
    | (go_at_call 15; refine (goes_any (some ad) a1 n0 c0 n1 c1 k l0 l1 w1 (w0.below hb1) (w1'.below hb1) hR HH.out.2.2.2 hk1k).mono ?_; rintro e w2 ⟨⟨v, l', rfl, hv, hgo⟩, hb2⟩; have el := hgo.unique HH.out.2.1; subst el; obtain ⟨sa, sc, rfl, hsc, hsw⟩ := fresh_shape hv hll; have hB2 := hb1.trans (hb2.mono hb1.size); have hX2 := Below.refl w2.heap.size w2; have hcl2 := hcl _ hB2)
    | (go_at_call 8; refine (alive03 _).mono ?_; rintro e w1 ⟨rfl, hb1⟩))
  go_ret
  exact ⟨rfl, hB2.trans (hX7.mono hB2.size)⟩
set_option maxHeartbeats 2000000 in
set_option maxRecDepth 100000 in
theorem masseyGoes_long (ad : Addr) (a1 : Option Addr) (n0 c0 n1 c1 k : Nat) (l0 l1 : List (BitVec 32)) (W : World) (w0 : Words32 W (some ad) n0 l0) (w1' : Words32 W a1 n1 l1) (z1' : a1 = none → c1 = 0) (hR : Ms.isR l0 = true) (hnm : n0 = n1 + 1) (hk60 : k ≤ 60) (g1 : ¬ 12 < n0)
    (l : List (BitVec 32)) (hgl : Ms.Goes l0 l1 k l) (L : Nat) (hL : Ms.Least (Po.cf l) k L) (hc2 : ¬ k < 2 * L) :
    Calls Try.prog 5 #[.slice (some ad) n0 c0, .slice a1 n1 c1, .int .i64 (k : Int)] W fun e w' => e = .returned (.bool true) ∧ Below W.heap.size W w' := by
  have hl0 := w0.1
  have hl1 := w1'.1
  have hLk := hL.le
  have g1' : ¬ (12 : Int) < (n0 : Int) := by omega
  have g2' : ¬ (12 : Int) < (n1 : Int) := by omega
  have g4 : ¬ (60 : Int) < (k : Int) := by omega
  have g6 : ¬ (k : Int) < 0 := by omega
  have g7 : ¬ (1000 : Int) < (k : Int) := by omega
  have hwn : IntKind.i64.wrap ((n0 : Int) - 1) = (n0 : Int) - 1 := IntWalk.i64_in _ (by omega)
  have hne : ((n1 : Int) != (n0 : Int) - 1) = false := by simp; omega
  have e0' : ((n0 : Int) == 0) = false := by simp; omega
  obtain ⟨hl0n, h1c⟩ := Ms.isR_true.1 hR
  obtain ⟨ad', e, hx⟩ := w0.2.2 0 (by omega)
  injection e with e
  subst e
  rw [show ad.add 0 = ad from by unfold Addr.add; cases ad; simp, show l0.getD 0 0 = 1#32 from h1c] at hx
  have hcl : ∀ w2, Below W.heap.size W w2 → w2.cell? ad = some (.int .u32 (nb32 1#32)) := fun w2 hb => (hb.cell (isSome_lt (by rw [hx]; rfl))).trans hx
  have hrec : Ms.Rec l0 (n0 - 1) (Po.cf l) k := by rw [show n0 - 1 = l1.length from by omega]; exact hgl.rc
  have hLn := hL.least _ _ hrec
  have hLn0 : ¬ (n0 : Int) ≤ (L : Int) := by omega
  have hll := hgl.len
  have HH := Lib.hid (And.intro hL (And.intro hgl (And.intro hrec hnm)))
  have hk1k : k ≤ 1000 := by omega
  have hk1m : k ≤ 1000000 := by omega
  have hn1m : n0 ≤ 1000000 := by omega
  have hn1k : n1 ≤ 1000 := by omega
  have hwL : IntKind.i64.wrap (2 * (L : Int)) = 2 * (L : Int) := IntWalk.i64_in _ (by omega)
  have q1 : ¬ (k : Int) < (L : Int) := by omega
  have q2 : (L : Int) ≤ (k : Int) := by omega
  have q3 : (0 : Int) ≤ (L : Int) := by omega
  clear hL hgl hrec hnm hx h1c hl0n
  have hc2' : ¬ (k : Int) < 2 * (L : Int) := by omega
  go_enter Try.func5, Try.ntmps5
  go_wp2_with (first
    | (go_at_call 14; refine (words_same ta sa k tc k sc _ _ w8 htw (hsw.below hX8) rfl).mono ?_; rintro e w9 ⟨rfl, hd9⟩; have hX9 := hX8.trans (hd9.below _))
    | (go_at_call 15; refine (goes_any da sa (L + 1) dc L sc k ld _ w7 hdw ((hsw.below hX7).take hLk) (Ms.isR_true.2 ⟨by rw [hld]; exact Nat.succ_ne_zero _, hrd.one⟩) rfl hk1k).mono ?_; rintro e w8 ⟨⟨v8, l8, rfl, hv8, hgo8⟩, hb8⟩; have el := hgo8.unique (Ms.again hll hLk hrd); subst el; obtain ⟨ta, tc, rfl, htc, htw⟩ := fresh_shape hv8 hll; have hX8 := hX7.trans (hb8.mono hX7.size))
    | (go_at_call 9; refine (shortest_any sa k sc L _ w6 (hsw.below hX6) hsc hk1m HH.out.1).mono ?_; rintro e w7 ⟨⟨v7, ld, rfl, hv7, hld, hrd⟩, hb7⟩; obtain ⟨da, dc, rfl, hdc, hdw⟩ := fresh_shape hv7 hld; have hX7 := hX6.trans (hb7.mono hX6.size))
    | (go_at_call 11; refine (length_any sa k sc L _ w5 (hsw.below hX5) hsc hk1m HH.out.1).mono ?_; rintro e w6 ⟨rfl, hb6⟩; have hX6 := hX5.trans (hb6.mono hX5.size))
    | (go_at_call 13; refine (keeps_any (some ad) sa n0 c0 k sc l0 _ w4 (w0.below (hB2.trans (hX4.mono hB2.size))) (hsw.below hX4) hsc hn1m hk1m true ⟨fun _ => ⟨by have := HH.out.2.2.2; omega, HH.out.2.2.1⟩, fun _ => rfl⟩).mono ?_; rintro e w5 ⟨rfl, hb5⟩; have hX5 := hX4.trans (hb5.mono hX4.size))
    | (go_at_call 14; refine (words_same sa ra k sc k rc _ _ w3 (hsw.below hX3) hrw rfl).mono ?_; rintro e w4 ⟨rfl, hd4⟩; have hX4 := hX3.trans (hd4.below _))
    | (go_at_call 17; refine (rgoes_any (some ad) a1 n0 c0 n1 c1 k l0 l1 w2 (w0.below hB2) (w1'.below hB2) z1' hR HH.out.2.2.2 hk1k hn1k).mono ?_; rintro e w3 ⟨⟨v3, l3, rfl, hv3, hgo3⟩, hb3⟩; have el := hgo3.unique HH.out.2.1; subst el; obtain ⟨ra, rc, rfl, hrc, hrw⟩ := fresh_shape hv3 hll; have hX3 := hX2.trans (hb3.mono hX2.size))
    | (go_at_call 15; refine (goes_any (some ad) a1 n0 c0 n1 c1 k l0 l1 w1 (w0.below hb1) (w1'.below hb1) hR HH.out.2.2.2 hk1k).mono ?_; rintro e w2 ⟨⟨v, l', rfl, hv, hgo⟩, hb2⟩; have el := hgo.unique HH.out.2.1; subst el; obtain ⟨sa, sc, rfl, hsc, hsw⟩ := fresh_shape hv hll; have hB2 := hb1.trans (hb2.mono hb1.size); have hX2 := Below.refl w2.heap.size w2; have hcl2 := hcl _ hB2)
    | (go_at_call 8; refine (alive03 _).mono ?_; rintro e w1 ⟨rfl, hb1⟩))
  go_ret
  exact ⟨rfl, hB2.trans (hX9.mono hB2.size)⟩
end Go.Proofs.Ytmjboiaopihjeaa
