/- PolyCommon -/
import Derived.Test.YtpemaglajhlghaaRows
import Derived.Test.YtpemaglajhlghaaPoC
import Derived.Test.YtpemaglajhlghaaSz
namespace Go.Proofs.Ytpemaglajhlghaa
open Go Go.RowKit Go.ChangeShapes Go.WideShapes
namespace Po
theorem Gcd.len {a b g : List E} (h : Gcd a b g) : g.length ≤ max (len1 a) (len1 b) := by
  induction h with
  | @base a b hb =>
    by_cases ha : len1 a = 0
    · rw [monic, if_pos ha]
      exact Nat.zero_le _
    · have h1 := (monic_norm ha).len1
      have h2 := (monic_len ha).1
      omega
  | @step a b g hb hg ih =>
    have := (qr_spec a hb).lt
    omega
end Po
theorem common_none (a b : Option Addr) (n c m d : Nat) (la lb : List (BitVec 32)) (w : World) (ha : Words32 w a n la) (hb : Words32 w b m lb) (hac : n ≤ c) (hbd : m ≤ d) (hs : n ≤ 274877906944) (hs2 : m ≤ 274877906944) (h1 : Po.len1 la = 0) (h2 : Po.len1 lb = 0) :
    Calls Try.prog 29 #[.slice a n c, .slice b m d] w fun e w' => (∃ v, e = .returned v ∧ Fresh 23 w.heap.size w' v []) ∧ Below w.heap.size w w' := by
  refine (common_any a b n c m d la lb w ha hb hac hbd hs hs2).mono ?_
  rintro e w' ⟨⟨v, g, rfl, hg, hv⟩, hbw⟩
  rw [hg.main.1 ⟨h1, h2⟩] at hv
  exact ⟨⟨v, rfl, hv⟩, hbw⟩
theorem common_some (a b : Option Addr) (n c m d : Nat) (la lb : List (BitVec 32)) (w : World) (ha : Words32 w a n la) (hb : Words32 w b m lb) (hac : n ≤ c) (hbd : m ≤ d) (hs : n ≤ 274877906944) (hs2 : m ≤ 274877906944) (h1 : ¬ (Po.len1 la = 0 ∧ Po.len1 lb = 0)) :
    Calls Try.prog 29 #[.slice a n c, .slice b m d] w fun e w' => (∃ v g K, e = .returned v ∧ Fresh 23 w.heap.size w' v g ∧ g.length = K + 1 ∧ Po.len1 g = K + 1 ∧ Po.cf g K = 1 ∧ g.length ≤ 274877906944 ∧ (Po.qr la g).2 = [] ∧ (Po.qr lb g).2 = [] ∧ (∀ c, Po.len1 c ≠ 0 → Po.Dv c la → Po.Dv c lb → (Po.qr g c).2 = [])) ∧ Below w.heap.size w w' := by
  refine (common_any a b n c m d la lb w ha hb hac hbd hs hs2).mono ?_
  rintro e w' ⟨⟨v, g, rfl, hg, hv⟩, hbw⟩
  obtain ⟨h2, h3, h4, h5, h6, h7⟩ := hg.main.2 h1
  have hl := hg.len
  have e1 := Po.len1_le la
  have e2 := Po.len1_le lb
  have e3 := ha.1
  have e4 := hb.1
  obtain ⟨K, hK⟩ : ∃ K, Po.len1 g = K + 1 := ⟨Po.len1 g - 1, by omega⟩
  exact ⟨⟨v, g, K, rfl, hv, by omega, hK, by rw [hK] at h3; exact h3, by omega, h5.rest h2, h6.rest h2, fun c hc hca hcb => (h7 c hca hcb).rest hc⟩, hbw⟩
set_option maxHeartbeats 4000000 in
set_option maxRecDepth 100000 in
theorem polyCommonWalk {H : Type} {enc : TypeId × Value → H} (W : World) (base : Nat) (v0 : Value) (d0 : DataW H) (p0 : List MemPlace) (v1 : Value) (d1 : DataW H) (p1 : List MemPlace) (v2 : Value) (d2 : DataW H) (p2 : List MemPlace)
    (o0 : Value.okWide Try.prog W .any base 22 v0) (o1 : Value.okWide Try.prog W .any base 22 v1) (o2 : Value.okWide Try.prog W .any base 22 v2)
    (h0 : DataW.Trod enc Try.prog W 0 (fun _ => true) true 22 v0 d0 p0) (h1 : DataW.Trod enc Try.prog W 0 (fun _ => true) true 22 v1 d1 p1) (h2 : DataW.Trod enc Try.prog W 0 (fun _ => true) true 22 v2 d2 p2) (sz : (DataW.weightsEach Try.prog [22, 22, 22] [d0, d1, d2]).all (fun x => decide (x ≤ reachBytes)) = true) :
    Calls Try.prog 7 #[v0, v1, v2] W fun e w' => e = .returned (.bool true) ∧ Below W.heap.size W w' := by
  obtain ⟨a0, n0, c0, l0, rfl, w0, m0, z0, s0⟩ := arg_wordss Try.underlying22 Try.underlying23 (by kernel_rfl) o0 h0
  have b0 := words_bound sz (j := 0) rfl rfl Try.underlying22 (by kernel_rfl) s0
  obtain ⟨a1, n1, c1, l1, rfl, w1, m1, z1, s1⟩ := arg_wordss Try.underlying22 Try.underlying23 (by kernel_rfl) o1 h1
  have b1 := words_bound sz (j := 1) rfl rfl Try.underlying22 (by kernel_rfl) s1
  obtain ⟨a2, n2, c2, l2, rfl, w2, m2, z2, s2⟩ := arg_wordss Try.underlying22 Try.underlying23 (by kernel_rfl) o2 h2
  have b2 := words_bound sz (j := 2) rfl rfl Try.underlying22 (by kernel_rfl) s2
  rename Words32 W a1 n1 l1 => w1'
  rename Words32 W a2 n2 l2 => w2'
  have hla := w0.1
  have hlb := w1'.1
  have hlc := w2'.1
  have hx0 : n0 ≤ 9223372036854775807 := w0.2.1
  have hx1 : n1 ≤ 9223372036854775807 := w1'.2.1
  have hx2 : n2 ≤ 9223372036854775807 := w2'.2.1
  by_cases hl1 : 24 < n0 + n2
  · have ht1 : (24 : Int) < (n0 : Int) + (n2 : Int) := by omega
    go_enter Try.func7, Try.ntmps7
    go_wp2_with (first
      | (go_at_call 8; refine (alive_any _).mono ?_; rintro e w4 ⟨rfl, hw4⟩; have hA4 := w0.below hw4; have hE4 := w1'.below hw4; have hF4 := w2'.below hw4; have hB4 := Below.refl w4.heap.size w4))
    go_ret
    exact ⟨rfl, hw4⟩
  · by_cases hl2 : 24 < n1 + n2
    · have ht1 : ¬ (24 : Int) < (n0 : Int) + (n2 : Int) := by omega
      have ht2 : (24 : Int) < (n1 : Int) + (n2 : Int) := by omega
      go_enter Try.func7, Try.ntmps7
      go_wp2_with (first
        | (go_at_call 8; refine (alive_any _).mono ?_; rintro e w4 ⟨rfl, hw4⟩; have hA4 := w0.below hw4; have hE4 := w1'.below hw4; have hF4 := w2'.below hw4; have hB4 := Below.refl w4.heap.size w4))
      go_ret
      exact ⟨rfl, hw4⟩
    · have ht1 : ¬ (24 : Int) < (n0 : Int) + (n2 : Int) := by omega
      have ht2 : ¬ (24 : Int) < (n1 : Int) + (n2 : Int) := by omega
      have hk0 : n0 + n2 ≤ 549755813888 := by omega
      have hk1 : n1 + n2 ≤ 549755813888 := by omega
      have hkbig : 274877906944 ≤ 1099511627776 := by omega
      obtain ⟨lp, hlp⟩ : ∃ lp, lp = Po.mulR l0 l2 := ⟨_, rfl⟩
      obtain ⟨lq, hlq⟩ : ∃ lq, lq = Po.mulR l1 l2 := ⟨_, rfl⟩
      have hp24 : lp.length ≤ 24 := by
        rw [hlp]
        exact Nat.le_trans ((Po.mulR_norm l0 l2).len (n := n0 + n2) (fun i hi => Po.mulL_ge _ _ n2 (fun i hi => Po.cf_ge (by omega)) i (by omega))) (by omega)
      have hq24 : lq.length ≤ 24 := by
        rw [hlq]
        exact Nat.le_trans ((Po.mulR_norm l1 l2).len (n := n1 + n2) (fun i hi => Po.mulL_ge _ _ n2 (fun i hi => Po.cf_ge (by omega)) i (by omega))) (by omega)
      have hk2 : lp.length ≤ 274877906944 := by omega
      have hk3 : lq.length ≤ 274877906944 := by omega
      have hk4 : lp.length ≤ 1099511627776 := by omega
      have hk5 : lq.length ≤ 1099511627776 := by omega
      have hk6 : n2 ≤ 1099511627776 := by omega
      have hdv1 := Lib.hid (show Po.Dv l2 lp from ⟨l0, by rw [hlp, Po.cf_mulR, Po.mulL_comm]⟩)
      have hdv2 := Lib.hid (show Po.Dv l2 lq from ⟨l1, by rw [hlq, Po.cf_mulR, Po.mulL_comm]⟩)
      have HP := Lib.hid hlp
      have HQ := Lib.hid hlq
      clear hlp hlq
      by_cases hz0 : Po.len1 lp = 0
      · have hd0 : (Po.len1 lp : Int) - 1 < 0 := by omega
        by_cases hz1 : Po.len1 lq = 0
        · have hd1 : (Po.len1 lq : Int) - 1 < 0 := by omega
          go_enter Try.func7, Try.ntmps7
          go_wp2_with (first
            | (go_at_call 8; refine (alive_any _).mono ?_; rintro e w4 ⟨rfl, hw4⟩; have hA4 := w0.below hw4; have hE4 := w1'.below hw4; have hF4 := w2'.below hw4; have hB4 := Below.refl w4.heap.size w4)
            | (go_at_call 12; with_reducible refine (pmul_any a0 a2 n0 c0 n2 c2 l0 l2 w4 hA4 hF4 m0 m2 hk0).mono ?_; rintro e w5 ⟨⟨v5, rfl, hv5⟩, hb5⟩; rw [← HP.out] at hv5; obtain ⟨s5, t5, rfl, ht5, hw5⟩ := hv5.slice; have hB5 := hB4.trans (hb5.mono hB4.size))
            | (go_at_call 12; with_reducible refine (pmul_any a1 a2 n1 c1 n2 c2 l1 l2 w5 (hE4.below hB5) (hF4.below hB5) m1 m2 hk1).mono ?_; rintro e w6 ⟨⟨v6, rfl, hv6⟩, hb6⟩; rw [← HQ.out] at hv6; obtain ⟨s6, t6, rfl, ht6, hw6⟩ := hv6.slice; have hB6 := hB5.trans (hb6.mono hB5.size))
            | (go_at_call 29; refine (common_none s5 s6 _ t5 _ t6 lp lq w6 (hw5.below hb6) hw6 ht5 ht6 hk2 hk3 hz0 hz1).mono ?_; rintro e w7 ⟨⟨v7, rfl, hv7⟩, hb7⟩; obtain ⟨s7, t7, rfl, ht7, hw7⟩ := hv7.slice; have hB7 := hB6.trans (hb7.mono hB6.size))
            | (go_at_call 24; with_reducible refine (pdegree_any s5 _ t5 lp w7 ((hw5.below hb6).below hb7)).mono ?_; rintro e w8 ⟨rfl, hb8⟩; have hB8 := hB7.trans (hb8.mono hB7.size))
            | (go_at_call 24; with_reducible refine (pdegree_any s6 _ t6 lq w8 ((hw6.below hb7).below hb8)).mono ?_; rintro e w9 ⟨rfl, hb9⟩; have hB9 := hB8.trans (hb9.mono hB8.size)))
          go_ret
          exact ⟨rfl, hw4.trans (hB9.mono hw4.size)⟩
        · have hd1 : ¬ (Po.len1 lq : Int) - 1 < 0 := by omega
          have hzz := Lib.hid (show ¬ (Po.len1 lp = 0 ∧ Po.len1 lq = 0) from fun h => hz1 h.2)
          clear hz0 hz1
          by_cases hz2 : Po.len1 l2 = 0
          · go_enter Try.func7, Try.ntmps7
            go_wp2_with (first
              | (go_at_call 8; refine (alive_any _).mono ?_; rintro e w4 ⟨rfl, hw4⟩; have hA4 := w0.below hw4; have hE4 := w1'.below hw4; have hF4 := w2'.below hw4; have hB4 := Below.refl w4.heap.size w4)
              | (go_at_call 12; with_reducible refine (pmul_any a0 a2 n0 c0 n2 c2 l0 l2 w4 hA4 hF4 m0 m2 hk0).mono ?_; rintro e w5 ⟨⟨v5, rfl, hv5⟩, hb5⟩; rw [← HP.out] at hv5; obtain ⟨s5, t5, rfl, ht5, hw5⟩ := hv5.slice; have hB5 := hB4.trans (hb5.mono hB4.size))
              | (go_at_call 12; with_reducible refine (pmul_any a1 a2 n1 c1 n2 c2 l1 l2 w5 (hE4.below hB5) (hF4.below hB5) m1 m2 hk1).mono ?_; rintro e w6 ⟨⟨v6, rfl, hv6⟩, hb6⟩; rw [← HQ.out] at hv6; obtain ⟨s6, t6, rfl, ht6, hw6⟩ := hv6.slice; have hB6 := hB5.trans (hb6.mono hB5.size))
              | (go_at_call 29; refine (common_some s5 s6 _ t5 _ t6 lp lq w6 (hw5.below hb6) hw6 ht5 ht6 hk2 hk3 hzz.out).mono ?_; rintro e w7 ⟨⟨v7, g, K, rfl, hv7, hgl, hg1, hgK, hgb, hr1, hr2, hr3⟩, hb7⟩; obtain ⟨s7, t7, rfl, ht7, hw7⟩ := hv7.slice; have hB7 := hB6.trans (hb7.mono hB6.size); have hD7 := Below.refl w7.heap.size w7; have hP7 : Words32 w7 s5 lp.length lp := (hw5.below hb6).below hb7; have hQ7 : Words32 w7 s6 lq.length lq := hw6.below hb7; have hgK' : g.getD K 0 = 1 := hgK; have HG := Lib.hid (And.intro hg1 (And.intro hgb (And.intro hr1 (And.intro hr2 hr3)))); have hne : Po.len1 g ≠ 0 := (by omega); have hge : (Po.len1 g : Int) - 1 = (K : Int) := (by omega); have hKg : K < g.length := (by omega); have HGL := Lib.hid hgl; obtain ⟨ad, rfl, hx⟩ := hw7.2.2 K hKg; rw [hgK'] at hx; change w7.cell? (ad.add K) = some (.int .u32 1) at hx; have hxs : (ad.add K).block < w7.heap.size := isSome_lt (by rw [hx]; rfl); have hnK : ¬ (K : Int) < 0 := (by omega); clear hgl hg1 hgK hgK' hgb hr1 hr2 hr3)
              | (go_at_call 24; with_reducible refine (pdegree_any s5 _ t5 lp w7 hP7).mono ?_; rintro e w8 ⟨rfl, hb8⟩; have hB8 := hB7.trans (hb8.mono hB7.size); have hD8 := hD7.trans (hb8.mono hD7.size))
              | (go_at_call 24; with_reducible refine (pdegree_any s6 _ t6 lq w8 (hQ7.below hD8)).mono ?_; rintro e w9 ⟨rfl, hb9⟩; have hB9 := hB8.trans (hb9.mono hB8.size); have hD9 := hD8.trans (hb9.mono hD8.size))
              | (go_at_call 24; with_reducible refine (pdegree_any (some ad) _ t7 g w9 (hw7.below hD9)).mono ?_; rintro e w10 ⟨rfl, hb10⟩; have hB10 := hB9.trans (hb10.mono hB9.size); have hD10 := hD9.trans (hb10.mono hD9.size))
              | (go_at_call 24; with_reducible refine (pdegree_any (some ad) _ t7 g w10 (hw7.below hD10)).mono ?_; rintro e w11 ⟨rfl, hb11⟩; have hB11 := hB10.trans (hb11.mono hB10.size); have hD11 := hD10.trans (hb11.mono hD10.size); have hcx : w11.cell? (ad.add K) = some (.int .u32 1) := (hD11.cell hxs).trans hx)
              | (go_at_call 25; with_reducible refine (pdiv_any s5 (some ad) _ t5 g.length t7 lp g w11 (hP7.below hD11) (hw7.below hD11) ht7 hk4 (Nat.le_trans HG.out.2.1 hkbig) hne).mono ?_; rintro e w12 ⟨⟨v12, u12, rfl, hv12, hu12⟩, hb12⟩; rw [HG.out.2.2.1] at hu12; obtain ⟨x12, y12, rfl, _, _⟩ := hv12.slice; obtain ⟨s12, t12, rfl, ht12, hw12⟩ := hu12.slice; have hB12 := hB11.trans (hb12.mono hB11.size); have hD12 := hD11.trans (hb12.mono hD11.size))
              | (go_at_call 25; with_reducible refine (pdiv_any s6 (some ad) _ t6 g.length t7 lq g w12 (hQ7.below hD12) (hw7.below hD12) ht7 hk5 (Nat.le_trans HG.out.2.1 hkbig) hne).mono ?_; rintro e w13 ⟨⟨v13, u13, rfl, hv13, hu13⟩, hb13⟩; rw [HG.out.2.2.2.1] at hu13; obtain ⟨x13, y13, rfl, _, _⟩ := hv13.slice; obtain ⟨s13, t13, rfl, ht13, hw13⟩ := hu13.slice; have hB13 := hB12.trans (hb13.mono hB12.size); have hD13 := hD12.trans (hb13.mono hD12.size))
              | (go_at_call 25; with_reducible refine (pdiv0_any (some ad) a2 g.length t7 n2 c2 l2 w13 (hF4.below hB13) hz2).mono ?_; rintro e w14 ⟨rfl, hb14⟩; unfold errRange; have hB14 := hB13.trans (hb14.mono hB13.size)))
            go_ret
            exact ⟨rfl, hw4.trans (hB14.mono hw4.size)⟩
          · go_enter Try.func7, Try.ntmps7
            go_wp2_with (first
              | (go_at_call 8; refine (alive_any _).mono ?_; rintro e w4 ⟨rfl, hw4⟩; have hA4 := w0.below hw4; have hE4 := w1'.below hw4; have hF4 := w2'.below hw4; have hB4 := Below.refl w4.heap.size w4)
              | (go_at_call 12; with_reducible refine (pmul_any a0 a2 n0 c0 n2 c2 l0 l2 w4 hA4 hF4 m0 m2 hk0).mono ?_; rintro e w5 ⟨⟨v5, rfl, hv5⟩, hb5⟩; rw [← HP.out] at hv5; obtain ⟨s5, t5, rfl, ht5, hw5⟩ := hv5.slice; have hB5 := hB4.trans (hb5.mono hB4.size))
              | (go_at_call 12; with_reducible refine (pmul_any a1 a2 n1 c1 n2 c2 l1 l2 w5 (hE4.below hB5) (hF4.below hB5) m1 m2 hk1).mono ?_; rintro e w6 ⟨⟨v6, rfl, hv6⟩, hb6⟩; rw [← HQ.out] at hv6; obtain ⟨s6, t6, rfl, ht6, hw6⟩ := hv6.slice; have hB6 := hB5.trans (hb6.mono hB5.size))
              | (go_at_call 29; refine (common_some s5 s6 _ t5 _ t6 lp lq w6 (hw5.below hb6) hw6 ht5 ht6 hk2 hk3 hzz.out).mono ?_; rintro e w7 ⟨⟨v7, g, K, rfl, hv7, hgl, hg1, hgK, hgb, hr1, hr2, hr3⟩, hb7⟩; obtain ⟨s7, t7, rfl, ht7, hw7⟩ := hv7.slice; have hB7 := hB6.trans (hb7.mono hB6.size); have hD7 := Below.refl w7.heap.size w7; have hP7 : Words32 w7 s5 lp.length lp := (hw5.below hb6).below hb7; have hQ7 : Words32 w7 s6 lq.length lq := hw6.below hb7; have hgK' : g.getD K 0 = 1 := hgK; have HG := Lib.hid (And.intro hg1 (And.intro hgb (And.intro hr1 (And.intro hr2 hr3)))); have hne : Po.len1 g ≠ 0 := (by omega); have hge : (Po.len1 g : Int) - 1 = (K : Int) := (by omega); have hKg : K < g.length := (by omega); have HGL := Lib.hid hgl; obtain ⟨ad, rfl, hx⟩ := hw7.2.2 K hKg; rw [hgK'] at hx; change w7.cell? (ad.add K) = some (.int .u32 1) at hx; have hxs : (ad.add K).block < w7.heap.size := isSome_lt (by rw [hx]; rfl); have hnK : ¬ (K : Int) < 0 := (by omega); clear hgl hg1 hgK hgK' hgb hr1 hr2 hr3)
              | (go_at_call 24; with_reducible refine (pdegree_any s5 _ t5 lp w7 hP7).mono ?_; rintro e w8 ⟨rfl, hb8⟩; have hB8 := hB7.trans (hb8.mono hB7.size); have hD8 := hD7.trans (hb8.mono hD7.size))
              | (go_at_call 24; with_reducible refine (pdegree_any s6 _ t6 lq w8 (hQ7.below hD8)).mono ?_; rintro e w9 ⟨rfl, hb9⟩; have hB9 := hB8.trans (hb9.mono hB8.size); have hD9 := hD8.trans (hb9.mono hD8.size))
              | (go_at_call 24; with_reducible refine (pdegree_any (some ad) _ t7 g w9 (hw7.below hD9)).mono ?_; rintro e w10 ⟨rfl, hb10⟩; have hB10 := hB9.trans (hb10.mono hB9.size); have hD10 := hD9.trans (hb10.mono hD9.size))
              | (go_at_call 24; with_reducible refine (pdegree_any (some ad) _ t7 g w10 (hw7.below hD10)).mono ?_; rintro e w11 ⟨rfl, hb11⟩; have hB11 := hB10.trans (hb11.mono hB10.size); have hD11 := hD10.trans (hb11.mono hD10.size); have hcx : w11.cell? (ad.add K) = some (.int .u32 1) := (hD11.cell hxs).trans hx)
              | (go_at_call 25; with_reducible refine (pdiv_any s5 (some ad) _ t5 g.length t7 lp g w11 (hP7.below hD11) (hw7.below hD11) ht7 hk4 (Nat.le_trans HG.out.2.1 hkbig) hne).mono ?_; rintro e w12 ⟨⟨v12, u12, rfl, hv12, hu12⟩, hb12⟩; rw [HG.out.2.2.1] at hu12; obtain ⟨x12, y12, rfl, _, _⟩ := hv12.slice; obtain ⟨s12, t12, rfl, ht12, hw12⟩ := hu12.slice; have hB12 := hB11.trans (hb12.mono hB11.size); have hD12 := hD11.trans (hb12.mono hD11.size))
              | (go_at_call 25; with_reducible refine (pdiv_any s6 (some ad) _ t6 g.length t7 lq g w12 (hQ7.below hD12) (hw7.below hD12) ht7 hk5 (Nat.le_trans HG.out.2.1 hkbig) hne).mono ?_; rintro e w13 ⟨⟨v13, u13, rfl, hv13, hu13⟩, hb13⟩; rw [HG.out.2.2.2.1] at hu13; obtain ⟨x13, y13, rfl, _, _⟩ := hv13.slice; obtain ⟨s13, t13, rfl, ht13, hw13⟩ := hu13.slice; have hB13 := hB12.trans (hb13.mono hB12.size); have hD13 := hD12.trans (hb13.mono hD12.size))
              | (go_at_call 25; with_reducible refine (pdiv_any (some ad) a2 g.length t7 n2 c2 g l2 w13 (hw7.below hD13) (hF4.below hB13) m2 (Nat.le_trans HG.out.2.1 hkbig) hk6 hz2).mono ?_; rintro e w14 ⟨⟨v14, u14, rfl, hv14, hu14⟩, hb14⟩; rw [HG.out.2.2.2.2 l2 hz2 hdv1.out hdv2.out] at hu14; obtain ⟨x14, y14, rfl, _, _⟩ := hv14.slice; obtain ⟨s14, t14, rfl, ht14, hw14⟩ := hu14.slice; have hB14 := hB13.trans (hb14.mono hB13.size)))
            go_ret
            exact ⟨rfl, hw4.trans (hB14.mono hw4.size)⟩
      · have hd0 : ¬ (Po.len1 lp : Int) - 1 < 0 := by omega
        have hzz := Lib.hid (show ¬ (Po.len1 lp = 0 ∧ Po.len1 lq = 0) from fun h => hz0 h.1)
        clear hz0
        by_cases hz2 : Po.len1 l2 = 0
        · go_enter Try.func7, Try.ntmps7
          go_wp2_with (first
            | (go_at_call 8; refine (alive_any _).mono ?_; rintro e w4 ⟨rfl, hw4⟩; have hA4 := w0.below hw4; have hE4 := w1'.below hw4; have hF4 := w2'.below hw4; have hB4 := Below.refl w4.heap.size w4)
            | (go_at_call 12; with_reducible refine (pmul_any a0 a2 n0 c0 n2 c2 l0 l2 w4 hA4 hF4 m0 m2 hk0).mono ?_; rintro e w5 ⟨⟨v5, rfl, hv5⟩, hb5⟩; rw [← HP.out] at hv5; obtain ⟨s5, t5, rfl, ht5, hw5⟩ := hv5.slice; have hB5 := hB4.trans (hb5.mono hB4.size))
            | (go_at_call 12; with_reducible refine (pmul_any a1 a2 n1 c1 n2 c2 l1 l2 w5 (hE4.below hB5) (hF4.below hB5) m1 m2 hk1).mono ?_; rintro e w6 ⟨⟨v6, rfl, hv6⟩, hb6⟩; rw [← HQ.out] at hv6; obtain ⟨s6, t6, rfl, ht6, hw6⟩ := hv6.slice; have hB6 := hB5.trans (hb6.mono hB5.size))
            | (go_at_call 29; refine (common_some s5 s6 _ t5 _ t6 lp lq w6 (hw5.below hb6) hw6 ht5 ht6 hk2 hk3 hzz.out).mono ?_; rintro e w7 ⟨⟨v7, g, K, rfl, hv7, hgl, hg1, hgK, hgb, hr1, hr2, hr3⟩, hb7⟩; obtain ⟨s7, t7, rfl, ht7, hw7⟩ := hv7.slice; have hB7 := hB6.trans (hb7.mono hB6.size); have hD7 := Below.refl w7.heap.size w7; have hP7 : Words32 w7 s5 lp.length lp := (hw5.below hb6).below hb7; have hQ7 : Words32 w7 s6 lq.length lq := hw6.below hb7; have hgK' : g.getD K 0 = 1 := hgK; have HG := Lib.hid (And.intro hg1 (And.intro hgb (And.intro hr1 (And.intro hr2 hr3)))); have hne : Po.len1 g ≠ 0 := (by omega); have hge : (Po.len1 g : Int) - 1 = (K : Int) := (by omega); have hKg : K < g.length := (by omega); have HGL := Lib.hid hgl; obtain ⟨ad, rfl, hx⟩ := hw7.2.2 K hKg; rw [hgK'] at hx; change w7.cell? (ad.add K) = some (.int .u32 1) at hx; have hxs : (ad.add K).block < w7.heap.size := isSome_lt (by rw [hx]; rfl); have hnK : ¬ (K : Int) < 0 := (by omega); clear hgl hg1 hgK hgK' hgb hr1 hr2 hr3)
            | (go_at_call 24; with_reducible refine (pdegree_any s5 _ t5 lp w7 hP7).mono ?_; rintro e w8 ⟨rfl, hb8⟩; have hB8 := hB7.trans (hb8.mono hB7.size); have hD8 := hD7.trans (hb8.mono hD7.size))
            | (go_at_call 24; with_reducible refine (pdegree_any (some ad) _ t7 g w8 (hw7.below hD8)).mono ?_; rintro e w9 ⟨rfl, hb9⟩; have hB9 := hB8.trans (hb9.mono hB8.size); have hD9 := hD8.trans (hb9.mono hD8.size))
            | (go_at_call 24; with_reducible refine (pdegree_any (some ad) _ t7 g w9 (hw7.below hD9)).mono ?_; rintro e w10 ⟨rfl, hb10⟩; have hB10 := hB9.trans (hb10.mono hB9.size); have hD10 := hD9.trans (hb10.mono hD9.size); have hcx : w10.cell? (ad.add K) = some (.int .u32 1) := (hD10.cell hxs).trans hx)
            | (go_at_call 25; with_reducible refine (pdiv_any s5 (some ad) _ t5 g.length t7 lp g w10 (hP7.below hD10) (hw7.below hD10) ht7 hk4 (Nat.le_trans HG.out.2.1 hkbig) hne).mono ?_; rintro e w11 ⟨⟨v11, u11, rfl, hv11, hu11⟩, hb11⟩; rw [HG.out.2.2.1] at hu11; obtain ⟨x11, y11, rfl, _, _⟩ := hv11.slice; obtain ⟨s11, t11, rfl, ht11, hw11⟩ := hu11.slice; have hB11 := hB10.trans (hb11.mono hB10.size); have hD11 := hD10.trans (hb11.mono hD10.size))
            | (go_at_call 25; with_reducible refine (pdiv_any s6 (some ad) _ t6 g.length t7 lq g w11 (hQ7.below hD11) (hw7.below hD11) ht7 hk5 (Nat.le_trans HG.out.2.1 hkbig) hne).mono ?_; rintro e w12 ⟨⟨v12, u12, rfl, hv12, hu12⟩, hb12⟩; rw [HG.out.2.2.2.1] at hu12; obtain ⟨x12, y12, rfl, _, _⟩ := hv12.slice; obtain ⟨s12, t12, rfl, ht12, hw12⟩ := hu12.slice; have hB12 := hB11.trans (hb12.mono hB11.size); have hD12 := hD11.trans (hb12.mono hD11.size))
            | (go_at_call 25; with_reducible refine (pdiv0_any (some ad) a2 g.length t7 n2 c2 l2 w12 (hF4.below hB12) hz2).mono ?_; rintro e w13 ⟨rfl, hb13⟩; unfold errRange; have hB13 := hB12.trans (hb13.mono hB12.size)))
          go_ret
          exact ⟨rfl, hw4.trans (hB13.mono hw4.size)⟩
        · go_enter Try.func7, Try.ntmps7
          go_wp2_with (first
            | (go_at_call 8; refine (alive_any _).mono ?_; rintro e w4 ⟨rfl, hw4⟩; have hA4 := w0.below hw4; have hE4 := w1'.below hw4; have hF4 := w2'.below hw4; have hB4 := Below.refl w4.heap.size w4)
            | (go_at_call 12; with_reducible refine (pmul_any a0 a2 n0 c0 n2 c2 l0 l2 w4 hA4 hF4 m0 m2 hk0).mono ?_; rintro e w5 ⟨⟨v5, rfl, hv5⟩, hb5⟩; rw [← HP.out] at hv5; obtain ⟨s5, t5, rfl, ht5, hw5⟩ := hv5.slice; have hB5 := hB4.trans (hb5.mono hB4.size))
            | (go_at_call 12; with_reducible refine (pmul_any a1 a2 n1 c1 n2 c2 l1 l2 w5 (hE4.below hB5) (hF4.below hB5) m1 m2 hk1).mono ?_; rintro e w6 ⟨⟨v6, rfl, hv6⟩, hb6⟩; rw [← HQ.out] at hv6; obtain ⟨s6, t6, rfl, ht6, hw6⟩ := hv6.slice; have hB6 := hB5.trans (hb6.mono hB5.size))
            | (go_at_call 29; refine (common_some s5 s6 _ t5 _ t6 lp lq w6 (hw5.below hb6) hw6 ht5 ht6 hk2 hk3 hzz.out).mono ?_; rintro e w7 ⟨⟨v7, g, K, rfl, hv7, hgl, hg1, hgK, hgb, hr1, hr2, hr3⟩, hb7⟩; obtain ⟨s7, t7, rfl, ht7, hw7⟩ := hv7.slice; have hB7 := hB6.trans (hb7.mono hB6.size); have hD7 := Below.refl w7.heap.size w7; have hP7 : Words32 w7 s5 lp.length lp := (hw5.below hb6).below hb7; have hQ7 : Words32 w7 s6 lq.length lq := hw6.below hb7; have hgK' : g.getD K 0 = 1 := hgK; have HG := Lib.hid (And.intro hg1 (And.intro hgb (And.intro hr1 (And.intro hr2 hr3)))); have hne : Po.len1 g ≠ 0 := (by omega); have hge : (Po.len1 g : Int) - 1 = (K : Int) := (by omega); have hKg : K < g.length := (by omega); have HGL := Lib.hid hgl; obtain ⟨ad, rfl, hx⟩ := hw7.2.2 K hKg; rw [hgK'] at hx; change w7.cell? (ad.add K) = some (.int .u32 1) at hx; have hxs : (ad.add K).block < w7.heap.size := isSome_lt (by rw [hx]; rfl); have hnK : ¬ (K : Int) < 0 := (by omega); clear hgl hg1 hgK hgK' hgb hr1 hr2 hr3)
            | (go_at_call 24; with_reducible refine (pdegree_any s5 _ t5 lp w7 hP7).mono ?_; rintro e w8 ⟨rfl, hb8⟩; have hB8 := hB7.trans (hb8.mono hB7.size); have hD8 := hD7.trans (hb8.mono hD7.size))
            | (go_at_call 24; with_reducible refine (pdegree_any (some ad) _ t7 g w8 (hw7.below hD8)).mono ?_; rintro e w9 ⟨rfl, hb9⟩; have hB9 := hB8.trans (hb9.mono hB8.size); have hD9 := hD8.trans (hb9.mono hD8.size))
            | (go_at_call 24; with_reducible refine (pdegree_any (some ad) _ t7 g w9 (hw7.below hD9)).mono ?_; rintro e w10 ⟨rfl, hb10⟩; have hB10 := hB9.trans (hb10.mono hB9.size); have hD10 := hD9.trans (hb10.mono hD9.size); have hcx : w10.cell? (ad.add K) = some (.int .u32 1) := (hD10.cell hxs).trans hx)
            | (go_at_call 25; with_reducible refine (pdiv_any s5 (some ad) _ t5 g.length t7 lp g w10 (hP7.below hD10) (hw7.below hD10) ht7 hk4 (Nat.le_trans HG.out.2.1 hkbig) hne).mono ?_; rintro e w11 ⟨⟨v11, u11, rfl, hv11, hu11⟩, hb11⟩; rw [HG.out.2.2.1] at hu11; obtain ⟨x11, y11, rfl, _, _⟩ := hv11.slice; obtain ⟨s11, t11, rfl, ht11, hw11⟩ := hu11.slice; have hB11 := hB10.trans (hb11.mono hB10.size); have hD11 := hD10.trans (hb11.mono hD10.size))
            | (go_at_call 25; with_reducible refine (pdiv_any s6 (some ad) _ t6 g.length t7 lq g w11 (hQ7.below hD11) (hw7.below hD11) ht7 hk5 (Nat.le_trans HG.out.2.1 hkbig) hne).mono ?_; rintro e w12 ⟨⟨v12, u12, rfl, hv12, hu12⟩, hb12⟩; rw [HG.out.2.2.2.1] at hu12; obtain ⟨x12, y12, rfl, _, _⟩ := hv12.slice; obtain ⟨s12, t12, rfl, ht12, hw12⟩ := hu12.slice; have hB12 := hB11.trans (hb12.mono hB11.size); have hD12 := hD11.trans (hb12.mono hD11.size))
            | (go_at_call 25; with_reducible refine (pdiv_any (some ad) a2 g.length t7 n2 c2 g l2 w12 (hw7.below hD12) (hF4.below hB12) m2 (Nat.le_trans HG.out.2.1 hkbig) hk6 hz2).mono ?_; rintro e w13 ⟨⟨v13, u13, rfl, hv13, hu13⟩, hb13⟩; rw [HG.out.2.2.2.2 l2 hz2 hdv1.out hdv2.out] at hu13; obtain ⟨x13, y13, rfl, _, _⟩ := hv13.slice; obtain ⟨s13, t13, rfl, ht13, hw13⟩ := hu13.slice; have hB13 := hB12.trans (hb13.mono hB12.size)))
          go_ret
          exact ⟨rfl, hw4.trans (hB13.mono hw4.size)⟩
end Go.Proofs.Ytpemaglajhlghaa
