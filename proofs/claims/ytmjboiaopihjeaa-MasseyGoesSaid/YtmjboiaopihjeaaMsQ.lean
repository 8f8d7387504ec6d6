/- MasseyGoes -/
import Derived.Test.YtmjboiaopihjeaaMsP
namespace Go.Proofs.Ytmjboiaopihjeaa
open Go Go.RowKit Go.ChangeShapes Go.WideShapes
set_option maxHeartbeats 8000000 in
set_option maxRecDepth 100000 in
theorem masseyGoesWalk {H : Type} {enc : TypeId × Value → H} (W : World) (base : Nat) (v0 : Value) (d0 : DataW H) (p0 : List MemPlace) (v1 : Value) (d1 : DataW H) (p1 : List MemPlace) (v2 : Value) (d2 : DataW H) (p2 : List MemPlace)
    (o0 : Value.okWide Try.prog W .any base 22 v0) (o1 : Value.okWide Try.prog W .any base 22 v1) (o2 : Value.okWide Try.prog W .any base 3 v2)
    (h0 : DataW.Trod enc Try.prog W 0 (fun _ => true) true 22 v0 d0 p0) (h1 : DataW.Trod enc Try.prog W 0 (fun _ => true) true 22 v1 d1 p1) (h2 : DataW.Trod enc Try.prog W 0 (fun _ => true) true 3 v2 d2 p2) :
    Calls Try.prog 5 #[v0, v1, v2] W fun e w' => e = .returned (.bool true) ∧ Below W.heap.size W w' := by
  obtain ⟨a0, n0, c0, l0, rfl, w0, m0, z0⟩ := arg_wordsc Try.underlying22 Try.underlying29 (by kernel_rfl) o0 h0
  obtain ⟨a1, n1, c1, l1, rfl, w1, m1, z1⟩ := arg_wordsc Try.underlying22 Try.underlying29 (by kernel_rfl) o1 h1
  obtain ⟨z2, rfl, b2⟩ := arg_int Try.underlying3 o2 h2
  rename Words32 W a1 n1 l1 => w1'
  rename n1 ≤ c1 => m1'
  rename (a1 = none → c1 = 0) => z1'
  have hl0 := w0.1
  have hl1 := w1'.1
  by_cases g1 : 12 < n0
  · have g1' : (12 : Int) < (n0 : Int) := by omega
    go_enter Try.func5, Try.ntmps5
    go_wp2_with (first
      | (go_at_call 8; refine (alive03 _).mono ?_; rintro e w1 ⟨rfl, hb1⟩))
    go_ret
    exact ⟨rfl, hb1⟩
  have g1' : ¬ (12 : Int) < (n0 : Int) := by omega
  by_cases g2 : 12 < n1
  · have g2' : (12 : Int) < (n1 : Int) := by omega
    go_enter Try.func5, Try.ntmps5
    go_wp2_with (first
      | (go_at_call 8; refine (alive03 _).mono ?_; rintro e w1 ⟨rfl, hb1⟩))
    go_ret
    exact ⟨rfl, hb1⟩
  have g2' : ¬ (12 : Int) < (n1 : Int) := by omega
  by_cases g3 : 60 < z2 ∧ z2 ≤ 1000
  · obtain ⟨g3a, g3b⟩ := g3
    go_enter Try.func5, Try.ntmps5
    go_wp2_with (first
      | (go_at_call 8; refine (alive03 _).mono ?_; rintro e w1 ⟨rfl, hb1⟩))
    go_ret
    exact ⟨rfl, hb1⟩
  have hwn : IntKind.i64.wrap ((n0 : Int) - 1) = (n0 : Int) - 1 := IntWalk.i64_in _ (by omega)
  by_cases hbad : Ms.isR l0 = false ∨ n1 + 1 ≠ n0 ∨ z2 < 0 ∨ 1000 < z2
  · have HB := Lib.hid hbad
    have hbr : ¬ (60 : Int) < z2 ∨ ((60 : Int) < z2 ∧ ¬ z2 ≤ 1000) := by omega
    by_cases e0 : n0 = 0
    · have e0' : ((n0 : Int) == 0) = true := by simp [e0]
      clear hbad g3 e0
      rcases hbr with g4 | ⟨g4, g5⟩
      all_goals
        go_enter Try.func5, Try.ntmps5
        go_wp2_with (first
          | (go_at_call 8; refine (alive03 _).mono ?_; rintro e w1 ⟨rfl, hb1⟩)
          | (go_at_call 15; refine (goes_err a0 a1 n0 c0 n1 c1 z2 l0 _ (w0.below hb1) HB.out).mono ?_; rintro e w2 ⟨rfl, hb2⟩)
          | (go_at_call 16; refine (is_range _).mono ?_; rintro e w3 ⟨rfl, rfl⟩))
        go_ret
        exact ⟨rfl, hb1.trans (hb2.mono hb1.size)⟩
    · have e0' : ((n0 : Int) == 0) = false := by simp; omega
      obtain ⟨ad, rfl, hx⟩ := w0.2.2 0 (by omega)
      rw [show ad.add 0 = ad from by unfold Addr.add; cases ad; simp] at hx
      have hcl : ∀ w2, Below W.heap.size W w2 → w2.cell? ad = some (.int .u32 (nb32 (l0.getD 0 0))) := fun w2 hb => (hb.cell (isSome_lt (by rw [hx]; rfl))).trans hx
      have hRx : Ms.isR l0 = (l0.getD 0 0 == 1#32) := by unfold Ms.isR; rw [hl0, decide_eq_true e0]; rfl
      by_cases hx1 : l0.getD 0 0 = 1
      · have hR1 : Ms.isR l0 = true := by rw [hRx, hx1]; rfl
        rw [hx1] at hcl
        clear hRx hx hx1
        by_cases hnm : n1 + 1 = n0
        · have hne : ((n1 : Int) != (n0 : Int) - 1) = false := by simp; omega
          by_cases hz : z2 < 0
          · have g4 : ¬ (60 : Int) < z2 := by omega
            clear hbad hbr g3 hnm
            go_enter Try.func5, Try.ntmps5
            go_wp2_with (first
              | (go_at_call 8; refine (alive03 _).mono ?_; rintro e w1 ⟨rfl, hb1⟩)
              | (go_at_call 15; refine (goes_err (some ad) a1 n0 c0 n1 c1 z2 l0 _ (w0.below hb1) HB.out).mono ?_; rintro e w2 ⟨rfl, hb2⟩; have hcl2 := hcl _ (hb1.trans (hb2.mono hb1.size)))
              | (go_at_call 16; refine (is_range _).mono ?_; rintro e w3 ⟨rfl, rfl⟩))
            go_ret
            exact ⟨rfl, hb1.trans (hb2.mono hb1.size)⟩
          · have g4 : (60 : Int) < z2 := by
              rcases hbad with h | h | h | h
              · rw [hR1] at h; cases h
              · exact (h hnm).elim
              · exact (hz h).elim
              · omega
            have g5 : ¬ z2 ≤ 1000 := fun h => g3 ⟨g4, h⟩
            clear hbad hbr g3 hnm
            go_enter Try.func5, Try.ntmps5
            go_wp2_with (first
              | (go_at_call 8; refine (alive03 _).mono ?_; rintro e w1 ⟨rfl, hb1⟩)
              | (go_at_call 15; refine (goes_err (some ad) a1 n0 c0 n1 c1 z2 l0 _ (w0.below hb1) HB.out).mono ?_; rintro e w2 ⟨rfl, hb2⟩; have hcl2 := hcl _ (hb1.trans (hb2.mono hb1.size)))
              | (go_at_call 16; refine (is_range _).mono ?_; rintro e w3 ⟨rfl, rfl⟩))
            go_ret
            exact ⟨rfl, hb1.trans (hb2.mono hb1.size)⟩
        · have hne : ((n1 : Int) != (n0 : Int) - 1) = true := by simp; omega
          clear hbad g3 hnm
          rcases hbr with g4 | ⟨g4, g5⟩
          all_goals
            go_enter Try.func5, Try.ntmps5
            go_wp2_with (first
              | (go_at_call 8; refine (alive03 _).mono ?_; rintro e w1 ⟨rfl, hb1⟩)
              | (go_at_call 15; refine (goes_err (some ad) a1 n0 c0 n1 c1 z2 l0 _ (w0.below hb1) HB.out).mono ?_; rintro e w2 ⟨rfl, hb2⟩; have hcl2 := hcl _ (hb1.trans (hb2.mono hb1.size)))
              | (go_at_call 16; refine (is_range _).mono ?_; rintro e w3 ⟨rfl, rfl⟩))
            go_ret
            exact ⟨rfl, hb1.trans (hb2.mono hb1.size)⟩
      · have hxb : (l0.getD 0 0 != 1#32) = true := by simpa using hx1
        generalize l0.getD 0 0 = x at hcl hxb
        clear hbad g3 hRx hx1 hx
        rcases hbr with g4 | ⟨g4, g5⟩
        all_goals
          go_enter Try.func5, Try.ntmps5
          go_wp2_with (first
            | (go_at_call 8; refine (alive03 _).mono ?_; rintro e w1 ⟨rfl, hb1⟩)
            | (go_at_call 15; refine (goes_err (some ad) a1 n0 c0 n1 c1 z2 l0 _ (w0.below hb1) HB.out).mono ?_; rintro e w2 ⟨rfl, hb2⟩; have hcl2 := hcl _ (hb1.trans (hb2.mono hb1.size)))
            | (go_at_call 16; refine (is_range _).mono ?_; rintro e w3 ⟨rfl, rfl⟩))
          go_ret
          exact ⟨rfl, hb1.trans (hb2.mono hb1.size)⟩
  · have hR : Ms.isR l0 = true := by
      cases h : Ms.isR l0
      · exact (hbad (Or.inl h)).elim
      · rfl
    have hnm : n0 = n1 + 1 := by
      by_cases h : n1 + 1 = n0
      · exact h.symm
      · exact (hbad (Or.inr (Or.inl h))).elim
    obtain ⟨k, rfl⟩ : ∃ k : Nat, z2 = (k : Int) := ⟨z2.toNat, by omega⟩
    have hk60 : k ≤ 60 := by omega
    obtain ⟨hl0n, h1c⟩ := Ms.isR_true.1 hR
    obtain ⟨ad, rfl, hx⟩ := w0.2.2 0 (by omega)
    obtain ⟨l, hgl⟩ := Ms.Goes.ex l0 l1 k h1c (by omega)
    obtain ⟨L, hL, hLk⟩ := Ms.Least.ofn (Po.cf l) k
    by_cases hc2 : k < 2 * L
    · exact masseyGoes_short ad a1 n0 c0 n1 c1 k l0 l1 W w0 w1' z1' hR hnm hk60 g1 l hgl L hL hc2
    · exact masseyGoes_long ad a1 n0 c0 n1 c1 k l0 l1 W w0 w1' z1' hR hnm hk60 g1 l hgl L hL hc2
end Go.Proofs.Ytmjboiaopihjeaa
