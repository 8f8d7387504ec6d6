/- RootsAll -/
import Derived.Test.YtlackhjlnoefcaaRoL2
namespace Go.Proofs.Ytlackhjlnoefcaa
open Go Go.RowKit Go.ChangeShapes Go.WideShapes
set_option maxHeartbeats 4000000 in
set_option maxRecDepth 100000 in
theorem rootsAllWalkK (K : RootsOk) {H : Type} {enc : TypeId × Value → H} (W : World) (base : Nat) (v0 : Value) (d0 : DataW H) (p0 : List MemPlace)
    (o0 : Value.okWide Try.prog W .any base 22 v0)
    (h0 : DataW.Trod enc Try.prog W 0 (fun _ => true) true 22 v0 d0 p0) :
    Calls Try.prog 3 #[v0] W fun e w' => e = .returned (.bool true) ∧ Below W.heap.size W w' := by
  obtain ⟨a0, n0, c0, l0, rfl, w0, m0, z0⟩ := arg_wordsc Try.underlying22 Try.underlying37 (by kernel_rfl) o0 h0
  have hl0 := w0.1
  by_cases h9 : 9 < n0
  · have h9' : (9 : Int) < (n0 : Int) := by omega
    go_enter Try.func3, Try.ntmps3
    go_wp2_with (first
      | (go_at_call 8; refine (alive04 K _).mono ?_; rintro e w1 ⟨rfl, hb1⟩))
    go_ret
    exact ⟨rfl, hb1⟩
  · have h9' : ¬ (9 : Int) < (n0 : Int) := by omega
    have hle := Po.len1_le l0
    have hn54 : n0 ≤ 549755813888 := by omega
    have hn1k : n0 ≤ 1000 := by omega
    have hn900 : n0 ≤ 900 := by omega
    have hn1m : n0 ≤ 1000000 := by omega
    have hsb : ([] : List (BitVec 32)).length + n0 ≤ 1099511627776 := by simp; omega
    obtain ⟨TL, hTL⟩ : ∃ TL, TL = Po.len1 l0 := ⟨_, rfl⟩
    have htl : (Po.trim l0).length = TL := by rw [Po.trim_length, hTL]
    have HTL := Lib.hid hTL
    have hT9 : TL ≤ 9 := by omega
    have hwT : IntKind.i64.wrap ((TL : Int) - 1) = (TL : Int) - 1 := IntWalk.i64_in _ (by omega)
    clear hTL
    by_cases h0 : TL = 0
    · have hnf : ¬ Po.Fits l0 := fun h => h.1 (by rw [← HTL.out]; exact h0)
      have hns : ¬ (Po.Fits l0 ∧ (Po.rts l0).length + 1 = Po.len1 l0) := fun h => hnf h.1
      have h0b : ((TL : Int) == 0) = true := by simp [h0]
      have HN := Lib.hid (And.intro hnf hns)
      clear hnf hns h0
      go_enter Try.func3, Try.ntmps3
      go_wp2_with (first
        | (go_at_call 15; refine (is_range _).mono ?_; rintro e w9 ⟨rfl, rfl⟩)
        | (go_at_call 14; refine (rtrim_any a0 n0 c0 l0 w7 (w0.below (hB2.trans (hX7.mono hB2.size))) m0 z0 hn54).mono ?_; rintro e w8 ⟨⟨v8, rfl, hv8⟩, hb8⟩; obtain ⟨ra, rc, rfl, hrc, hr0, hrw⟩ := fresh_shapeK hv8 htl; have hX8 := hX7.trans (hb8.mono hX7.size))
        | (go_at_call 13; refine (words_same oa a0 n0 oc n0 c0 l0 l0 w6 (how.below hX6) (w0.below (hB2.trans (hX6.mono hB2.size))) rfl).mono ?_; rintro e w7 ⟨rfl, hd7⟩; have hX7 := hX6.trans (hd7.below _))
        | (go_at_call 12; refine (K.split_no oa n0 oc l0 w5 (how.below hX5) hoc ho0 hn1k HN.out.2).mono ?_; rintro e w6 ⟨⟨sa, sc, rfl⟩, hb6⟩; have hX6 := hX5.trans (hb6.mono hX5.size))
        | (go_at_call 11; refine (K.linear_no oa n0 oc l0 w4 (how.below hX4) hoc ho0 hn1k HN.out.1).mono ?_; rintro e w5 ⟨⟨ma, mc, rfl⟩, hb5⟩; have hX5 := hX4.trans (hb5.mono hX4.size))
        | (go_at_call 10; refine (K.count_no oa n0 oc l0 w3 (how.below hX3) hoc ho0 hn1k HN.out.1).mono ?_; rintro e w4 ⟨rfl, hb4⟩; have hX4 := hX3.trans (hb4.mono hX3.size))
        | (go_at_call 9; refine (K.all_no oa n0 oc l0 w2 how hoc ho0 hn1k HN.out.1).mono ?_; rintro e w3 ⟨⟨la, lc, rfl⟩, hb3⟩; have hX3 := hX2.trans hb3)
        | (at_builtin; refine wpList_append_words rfl (.tmp 19) (.tmp 20) 22 rfl 37 Try.underlying22 info_word w1.heap.size _ [] rfl (OwnW.empty (Nat.le_refl _) hfresh) a0 n0 c0 l0 rfl ((w0.below hb1).past _) z0 hsb (by simp) ?_; intro v' w2 h1 h2; have hB2 := hb1.trans ((below_own_row ((Below.refl _ w1).alloc (Nat.le_refl _) _) h2 (OwnW.empty (Nat.le_refl _) hfresh).lt).mono hb1.size); rw [List.nil_append] at h1; obtain ⟨oa, oc, rfl, hoc, ho0, how⟩ := fresh_shapeK h1.fresh hl0; have hX2 := Below.refl w2.heap.size w2)
        | (go_at_call 8; refine (alive04 K _).mono ?_; rintro e w1 ⟨rfl, hb1⟩; have hfresh := Has.fresh w1 37 #[]))
      go_ret
      exact ⟨rfl, hB2.trans (hX8.mono hB2.size)⟩
    · have hft : Po.Fits l0 := ⟨by rw [← HTL.out]; exact h0, by omega⟩
      have h0b : ((TL : Int) == 0) = false := by simpa using h0
      have h0l : Po.len1 l0 ≠ 0 := hft.1
      obtain ⟨RL, hRL⟩ : ∃ RL, RL = (Po.rts l0).length := ⟨_, rfl⟩
      have hrl : (Po.rts l0).length = RL := hRL.symm
      have hfl : (Po.fromL (Po.rts l0)).length = RL + 1 := by rw [(Po.fromL_all _).1, hrl]
      have HF := Lib.hid (And.intro hft hRL)
      clear hft hRL
      by_cases hsp : RL + 1 = TL
      · have hsb2 : ((RL : Int) == (TL : Int) - 1) = true := by simp; omega
        have HS := Lib.hid (show Po.Fits l0 ∧ (Po.rts l0).length + 1 = Po.len1 l0 from ⟨HF.out.1, by rw [hrl, ← HTL.out]; exact hsp⟩)
        clear hsp
        go_enter Try.func3, Try.ntmps3
        go_wp2_with (first
          | (go_at_call 13; refine (words_same sa ga RL sc RL gc _ _ w13 (hsw.below hU13) (hgw.below hV13) rfl).mono ?_; rintro e w14 ⟨rfl, hd14⟩; have hX14 := hX13.trans (hd14.below _))
          | (go_at_call 13; refine (words_same ma ka (RL + 1) mc (RL + 1) kc _ _ w12 (hmw.below hZ12) hkw rfl).mono ?_; rintro e w13 ⟨rfl, hd13⟩; have hX13 := hX12.trans (hd13.below _); have hY13 := hY12.trans (hd13.below _); have hZ13 := hZ12.trans (hd13.below _); have hU13 := hU12.trans (hd13.below _); have hV13 := hV12.trans (hd13.below _))
          | (go_at_call 17; refine (rlinear_any a0 n0 c0 l0 w11 (w0.below (hB2.trans (hX11.mono hB2.size))) m0 z0 hn1m h0l).mono ?_; rintro e w12 ⟨⟨v12, rfl, hv12⟩, hb12⟩; obtain ⟨ka, kc, rfl, hkc, hk0, hkw⟩ := fresh_shapeK hv12 hfl; have hX12 := hX11.trans (hb12.mono hX11.size); have hY12 := hY11.trans (hb12.mono hY11.size); have hZ12 := hZ11.trans (hb12.mono hZ11.size); have hU12 := hU11.trans (hb12.mono hU11.size); have hV12 := hV11.trans (hb12.mono hV11.size))
          | (go_at_call 13; refine (words_same la ga RL lc RL gc _ _ w10 (hlw.below hY10) (hgw.below hV10) rfl).mono ?_; rintro e w11 ⟨rfl, hd11⟩; have hX11 := hX10.trans (hd11.below _); have hY11 := hY10.trans (hd11.below _); have hZ11 := hZ10.trans (hd11.below _); have hU11 := hU10.trans (hd11.below _); have hV11 := hV10.trans (hd11.below _))
          | (go_at_call 14; refine (rtrim_any a0 n0 c0 l0 w9 (w0.below (hB2.trans (hX9.mono hB2.size))) m0 z0 hn54).mono ?_; rintro e w10 ⟨⟨v10, rfl, hv10⟩, hb10⟩; obtain ⟨ra2, rc2, rfl, hrc2, hr02, hrw2⟩ := fresh_shapeK hv10 htl; have hX10 := hX9.trans (hb10.mono hX9.size); have hY10 := hY9.trans (hb10.mono hY9.size); have hZ10 := hZ9.trans (hb10.mono hZ9.size); have hU10 := hU9.trans (hb10.mono hU9.size); have hV10 := hV9.trans (hb10.mono hV9.size))
          | (go_at_call 16; refine (rall_any a0 n0 c0 l0 w8 (w0.below (hB2.trans (hX8.mono hB2.size))) m0 z0 hn900 h0l).mono ?_; rintro e w9 ⟨⟨v9, rfl, hv9⟩, hb9⟩; obtain ⟨ga, gc, rfl, hgc, hg0, hgw⟩ := fresh_shapeK hv9.fresh hrl; have hX9 := hX8.trans (hb9.mono hX8.size); have hY9 := hY8.trans (hb9.mono hY8.size); have hZ9 := hZ8.trans (hb9.mono hZ8.size); have hU9 := hU8.trans (hb9.mono hU8.size); have hV9 := Below.refl w9.heap.size w9)
          | (go_at_call 14; refine (rtrim_any a0 n0 c0 l0 w7 (w0.below (hB2.trans (hX7.mono hB2.size))) m0 z0 hn54).mono ?_; rintro e w8 ⟨⟨v8, rfl, hv8⟩, hb8⟩; obtain ⟨ra, rc, rfl, hrc, hr0, hrw⟩ := fresh_shapeK hv8 htl; have hX8 := hX7.trans (hb8.mono hX7.size); have hY8 := hY7.trans (hb8.mono hY7.size); have hZ8 := hZ7.trans (hb8.mono hZ7.size); have hU8 := hU7.trans (hb8.mono hU7.size))
          | (go_at_call 13; refine (words_same oa a0 n0 oc n0 c0 l0 l0 w6 (how.below hX6) (w0.below (hB2.trans (hX6.mono hB2.size))) rfl).mono ?_; rintro e w7 ⟨rfl, hd7⟩; have hX7 := hX6.trans (hd7.below _); have hY7 := hY6.trans (hd7.below _); have hZ7 := hZ6.trans (hd7.below _); have hU7 := hU6.trans (hd7.below _))
          | (go_at_call 12; refine (K.split_ok oa n0 oc l0 w5 (how.below hX5) hoc ho0 hn1k HS.out).mono ?_; rintro e w6 ⟨⟨v6, rfl, hv6⟩, hb6⟩; obtain ⟨sa, sc, rfl, hsc, hsa0, hsw⟩ := fresh_shapeK hv6 hrl; have hX6 := hX5.trans (hb6.mono hX5.size); have hY6 := hY5.trans (hb6.mono hY5.size); have hZ6 := hZ5.trans (hb6.mono hZ5.size); have hU6 := Below.refl w6.heap.size w6)
          | (go_at_call 11; refine (K.linear_ok oa n0 oc l0 w4 (how.below hX4) hoc ho0 hn1k HF.out.1).mono ?_; rintro e w5 ⟨⟨v5, rfl, hv5⟩, hb5⟩; obtain ⟨ma, mc, rfl, hmc, hma0, hmw⟩ := fresh_shapeK hv5 hfl; have hX5 := hX4.trans (hb5.mono hX4.size); have hY5 := hY4.trans (hb5.mono hY4.size); have hZ5 := Below.refl w5.heap.size w5)
          | (go_at_call 10; refine (K.count_ok oa n0 oc l0 w3 (how.below hX3) hoc ho0 hn1k HF.out.1).mono ?_; rintro e w4 ⟨rfl, hb4⟩; rw [← HF.out.2]; have hX4 := hX3.trans (hb4.mono hX3.size); have hY4 := hY3.trans (hb4.mono hY3.size))
          | (go_at_call 9; refine (K.all_ok oa n0 oc l0 w2 how hoc ho0 hn1k HF.out.1).mono ?_; rintro e w3 ⟨⟨v3, rfl, hv3⟩, hb3⟩; obtain ⟨la, lc, rfl, hlc, hla0, hlw⟩ := fresh_shapeK hv3 hrl; have hX3 := hX2.trans hb3; have hY3 := Below.refl w3.heap.size w3)
          | (at_builtin; refine wpList_append_words rfl (.tmp 19) (.tmp 20) 22 rfl 37 Try.underlying22 info_word w1.heap.size _ [] rfl (OwnW.empty (Nat.le_refl _) hfresh) a0 n0 c0 l0 rfl ((w0.below hb1).past _) z0 hsb (by simp) ?_; intro v' w2 h1 h2; have hB2 := hb1.trans ((below_own_row ((Below.refl _ w1).alloc (Nat.le_refl _) _) h2 (OwnW.empty (Nat.le_refl _) hfresh).lt).mono hb1.size); rw [List.nil_append] at h1; obtain ⟨oa, oc, rfl, hoc, ho0, how⟩ := fresh_shapeK h1.fresh hl0; have hX2 := Below.refl w2.heap.size w2)
          | (go_at_call 8; refine (alive04 K _).mono ?_; rintro e w1 ⟨rfl, hb1⟩; have hfresh := Has.fresh w1 37 #[]))
        go_ret
        exact ⟨rfl, hB2.trans (hX14.mono hB2.size)⟩
      · have hsb2 : ((RL : Int) == (TL : Int) - 1) = false := by simp; omega
        have HS := Lib.hid (show ¬ (Po.Fits l0 ∧ (Po.rts l0).length + 1 = Po.len1 l0) from fun h => hsp (by have := h.2; rw [hrl, ← HTL.out] at this; exact this))
        clear hsp
        go_enter Try.func3, Try.ntmps3
        go_wp2_with (first
          | (go_at_call 13; refine (words_same ma ka (RL + 1) mc (RL + 1) kc _ _ w12 (hmw.below hZ12) hkw rfl).mono ?_; rintro e w13 ⟨rfl, hd13⟩; have hX13 := hX12.trans (hd13.below _); have hY13 := hY12.trans (hd13.below _); have hZ13 := hZ12.trans (hd13.below _); have hU13 := hU12.trans (hd13.below _); have hV13 := hV12.trans (hd13.below _))
          | (go_at_call 17; refine (rlinear_any a0 n0 c0 l0 w11 (w0.below (hB2.trans (hX11.mono hB2.size))) m0 z0 hn1m h0l).mono ?_; rintro e w12 ⟨⟨v12, rfl, hv12⟩, hb12⟩; obtain ⟨ka, kc, rfl, hkc, hk0, hkw⟩ := fresh_shapeK hv12 hfl; have hX12 := hX11.trans (hb12.mono hX11.size); have hY12 := hY11.trans (hb12.mono hY11.size); have hZ12 := hZ11.trans (hb12.mono hZ11.size); have hU12 := hU11.trans (hb12.mono hU11.size); have hV12 := hV11.trans (hb12.mono hV11.size))
          | (go_at_call 13; refine (words_same la ga RL lc RL gc _ _ w10 (hlw.below hY10) (hgw.below hV10) rfl).mono ?_; rintro e w11 ⟨rfl, hd11⟩; have hX11 := hX10.trans (hd11.below _); have hY11 := hY10.trans (hd11.below _); have hZ11 := hZ10.trans (hd11.below _); have hU11 := hU10.trans (hd11.below _); have hV11 := hV10.trans (hd11.below _))
          | (go_at_call 14; refine (rtrim_any a0 n0 c0 l0 w9 (w0.below (hB2.trans (hX9.mono hB2.size))) m0 z0 hn54).mono ?_; rintro e w10 ⟨⟨v10, rfl, hv10⟩, hb10⟩; obtain ⟨ra2, rc2, rfl, hrc2, hr02, hrw2⟩ := fresh_shapeK hv10 htl; have hX10 := hX9.trans (hb10.mono hX9.size); have hY10 := hY9.trans (hb10.mono hY9.size); have hZ10 := hZ9.trans (hb10.mono hZ9.size); have hU10 := hU9.trans (hb10.mono hU9.size); have hV10 := hV9.trans (hb10.mono hV9.size))
          | (go_at_call 16; refine (rall_any a0 n0 c0 l0 w8 (w0.below (hB2.trans (hX8.mono hB2.size))) m0 z0 hn900 h0l).mono ?_; rintro e w9 ⟨⟨v9, rfl, hv9⟩, hb9⟩; obtain ⟨ga, gc, rfl, hgc, hg0, hgw⟩ := fresh_shapeK hv9.fresh hrl; have hX9 := hX8.trans (hb9.mono hX8.size); have hY9 := hY8.trans (hb9.mono hY8.size); have hZ9 := hZ8.trans (hb9.mono hZ8.size); have hU9 := hU8.trans (hb9.mono hU8.size); have hV9 := Below.refl w9.heap.size w9)
          | (go_at_call 14; refine (rtrim_any a0 n0 c0 l0 w7 (w0.below (hB2.trans (hX7.mono hB2.size))) m0 z0 hn54).mono ?_; rintro e w8 ⟨⟨v8, rfl, hv8⟩, hb8⟩; obtain ⟨ra, rc, rfl, hrc, hr0, hrw⟩ := fresh_shapeK hv8 htl; have hX8 := hX7.trans (hb8.mono hX7.size); have hY8 := hY7.trans (hb8.mono hY7.size); have hZ8 := hZ7.trans (hb8.mono hZ7.size); have hU8 := hU7.trans (hb8.mono hU7.size))
          | (go_at_call 13; refine (words_same oa a0 n0 oc n0 c0 l0 l0 w6 (how.below hX6) (w0.below (hB2.trans (hX6.mono hB2.size))) rfl).mono ?_; rintro e w7 ⟨rfl, hd7⟩; have hX7 := hX6.trans (hd7.below _); have hY7 := hY6.trans (hd7.below _); have hZ7 := hZ6.trans (hd7.below _); have hU7 := hU6.trans (hd7.below _))
          | (go_at_call 12; refine (K.split_no oa n0 oc l0 w5 (how.below hX5) hoc ho0 hn1k HS.out).mono ?_; rintro e w6 ⟨⟨sa, sc, rfl⟩, hb6⟩; have hX6 := hX5.trans (hb6.mono hX5.size); have hY6 := hY5.trans (hb6.mono hY5.size); have hZ6 := hZ5.trans (hb6.mono hZ5.size); have hU6 := Below.refl w6.heap.size w6)
          | (go_at_call 11; refine (K.linear_ok oa n0 oc l0 w4 (how.below hX4) hoc ho0 hn1k HF.out.1).mono ?_; rintro e w5 ⟨⟨v5, rfl, hv5⟩, hb5⟩; obtain ⟨ma, mc, rfl, hmc, hma0, hmw⟩ := fresh_shapeK hv5 hfl; have hX5 := hX4.trans (hb5.mono hX4.size); have hY5 := hY4.trans (hb5.mono hY4.size); have hZ5 := Below.refl w5.heap.size w5)
          | (go_at_call 10; refine (K.count_ok oa n0 oc l0 w3 (how.below hX3) hoc ho0 hn1k HF.out.1).mono ?_; rintro e w4 ⟨rfl, hb4⟩; rw [← HF.out.2]; have hX4 := hX3.trans (hb4.mono hX3.size); have hY4 := hY3.trans (hb4.mono hY3.size))
          | (go_at_call 9; refine (K.all_ok oa n0 oc l0 w2 how hoc ho0 hn1k HF.out.1).mono ?_; rintro e w3 ⟨⟨v3, rfl, hv3⟩, hb3⟩; obtain ⟨la, lc, rfl, hlc, hla0, hlw⟩ := fresh_shapeK hv3 hrl; have hX3 := hX2.trans hb3; have hY3 := Below.refl w3.heap.size w3)
          | (at_builtin; refine wpList_append_words rfl (.tmp 19) (.tmp 20) 22 rfl 37 Try.underlying22 info_word w1.heap.size _ [] rfl (OwnW.empty (Nat.le_refl _) hfresh) a0 n0 c0 l0 rfl ((w0.below hb1).past _) z0 hsb (by simp) ?_; intro v' w2 h1 h2; have hB2 := hb1.trans ((below_own_row ((Below.refl _ w1).alloc (Nat.le_refl _) _) h2 (OwnW.empty (Nat.le_refl _) hfresh).lt).mono hb1.size); rw [List.nil_append] at h1; obtain ⟨oa, oc, rfl, hoc, ho0, how⟩ := fresh_shapeK h1.fresh hl0; have hX2 := Below.refl w2.heap.size w2)
          | (go_at_call 8; refine (alive04 K _).mono ?_; rintro e w1 ⟨rfl, hb1⟩; have hfresh := Has.fresh w1 37 #[]))
        go_ret
        exact ⟨rfl, hB2.trans (hX13.mono hB2.size)⟩
end Go.Proofs.Ytlackhjlnoefcaa
