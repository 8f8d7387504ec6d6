/- RootsFinds -/
import Derived.Test.YtlackhjlnoefcaaRoL2
namespace Go.Proofs.Ytlackhjlnoefcaa
open Go Go.RowKit Go.ChangeShapes Go.WideShapes
theorem Po.scale_ev {l : List (BitVec 32)} {b : BitVec 32} (hb : b ≠ 0) (x : BitVec 32) : Po.ev (Po.mulR l [b]) x = 0 ↔ Po.ev l x = 0 := by
  rw [Po.ev_scl (Po.scale_norm l b).2 x]
  constructor
  · intro h
    rcases Gf.no_divisors h with h | h
    · exact (hb h).elim
    · exact h
  · intro h
    rw [h]
    exact Gf.mul_zero _
theorem Po.len_single {b : BitVec 32} (hb : b ≠ 0) : Po.len1 [b] = 1 := Po.len1_eq (fun _ hi => Po.cf_ge hi) (fun _ => hb)
theorem Po.mul_rts {p o : List (BitVec 32)} {a : BitVec 32} : Po.ev (Po.mulR p o) a = 0 ↔ Po.ev p a = 0 ∨ Po.ev o a = 0 := by
  rw [Po.ev_mul (Po.cf_mulR p o)]
  exact Po.mul_eq_zero
set_option maxHeartbeats 4000000 in
set_option maxRecDepth 100000 in
theorem rootsFindsWalkK (K : RootsOk) {H : Type} {enc : TypeId × Value → H} (W : World) (base : Nat) (v0 : Value) (d0 : DataW H) (p0 : List MemPlace) (v1 : Value) (d1 : DataW H) (p1 : List MemPlace) (v2 : Value) (d2 : DataW H) (p2 : List MemPlace)
    (o0 : Value.okWide Try.prog W .any base 22 v0) (o1 : Value.okWide Try.prog W .any base 22 v1) (o2 : Value.okWide Try.prog W .any base 37 v2)
    (h0 : DataW.Trod enc Try.prog W 0 (fun _ => true) true 22 v0 d0 p0) (h1 : DataW.Trod enc Try.prog W 0 (fun _ => true) true 22 v1 d1 p1) (h2 : DataW.Trod enc Try.prog W 0 (fun _ => true) true 37 v2 d2 p2) :
    Calls Try.prog 5 #[v0, v1, v2] W fun e w' => e = .returned (.bool true) ∧ Below W.heap.size W w' := by
  obtain ⟨a0, n0, c0, l0, rfl, w0, m0, z0⟩ := arg_wordsc Try.underlying22 Try.underlying37 (by kernel_rfl) o0 h0
  obtain ⟨a1, n1, c1, l1, rfl, w1, m1, z1⟩ := arg_wordsc Try.underlying22 Try.underlying37 (by kernel_rfl) o1 h1
  obtain ⟨a2, rfl⟩ := arg_u32 Try.underlying37 o2 h2
  rename Words32 W a1 n1 l1 => w1'
  rename n1 ≤ c1 => m1'
  rename (a1 = none → c1 = 0) => z1'
  have hl0 := w0.1
  have hl1 := w1'.1
  by_cases g1 : 20 < n0
  · have g1' : (20 : Int) < (n0 : Int) := by omega
    go_enter Try.func5, Try.ntmps5
    go_wp2_with (first
      | (go_at_call 8; refine (alive04 K _).mono ?_; rintro e w1 ⟨rfl, hb1⟩))
    go_ret
    exact ⟨rfl, hb1⟩
  have g1' : ¬ (20 : Int) < (n0 : Int) := by omega
  by_cases g2 : 8 < n1
  · have g2' : (8 : Int) < (n1 : Int) := by omega
    go_enter Try.func5, Try.ntmps5
    go_wp2_with (first
      | (go_at_call 8; refine (alive04 K _).mono ?_; rintro e w1 ⟨rfl, hb1⟩))
    go_ret
    exact ⟨rfl, hb1⟩
  have g2' : ¬ (8 : Int) < (n1 : Int) := by omega
  by_cases g3 : a2 = 0
  · have g3' : (a2 == 0#32) = true := by rw [g3]; rfl
    clear g3
    go_enter Try.func5, Try.ntmps5
    go_wp2_with (first
      | (go_at_call 8; refine (alive04 K _).mono ?_; rintro e w1 ⟨rfl, hb1⟩))
    go_ret
    exact ⟨rfl, hb1⟩
  have g3' : (a2 == 0#32) = false := by simpa using g3
  have hfl := (Po.fromL_all l0).1
  have hfl1 := (Po.fromL_all l0).2
  rw [hl0] at hfl hfl1
  obtain ⟨p, hp⟩ : ∃ p, p = Po.mulR (Po.fromL l0) [a2] := ⟨_, rfl⟩
  have hpl : p.length = n0 + 1 := by rw [hp, Po.mulR_length (by omega) (by rw [Po.len_single g3]; omega), hfl1, Po.len_single g3]; omega
  have hp1 : Po.len1 p = n0 + 1 := by rw [hp, Po.mulR_len, ← hp, hpl]
  have hpf : Po.Fits p := ⟨by omega, by omega⟩
  have hpe : ∀ x, Po.ev p x = 0 ↔ Po.ev (Po.fromL l0) x = 0 := fun x => by rw [hp]; exact Po.scale_ev g3 x
  obtain ⟨q, hq⟩ : ∃ q, q = Po.rts p := ⟨_, rfl⟩
  have hqs : Po.Set q l0 := by rw [hq, Po.rts_congr hpe]; exact Po.set_rts l0
  obtain ⟨QL, hQL⟩ : ∃ QL, QL = q.length := ⟨_, rfl⟩
  have hql : q.length = QL := hQL.symm
  have hQn : QL ≤ n0 := by
    have := Po.count_le hpf.1 (Po.rts_srt p).nodup fun x hx => Po.rts_mem.1 hx
    rw [hQL, hq]
    omega
  have HP := Lib.hid (And.intro hp (And.intro hpf (And.intro hq (And.intro hqs hp1))))
  have hn30 : n0 ≤ 1073741824 := by omega
  have hn27 : n0 + 1 ≤ 274877906944 := by omega
  have hn1k : n0 + 1 ≤ 1000 := by omega
  have hnk : n0 ≤ 1000 := by omega
  have hn11k : n1 ≤ 1000 := by omega
  have hn54 : n0 + 1 + n1 ≤ 549755813888 := by omega
  have hle1 := Po.len1_le l1
  by_cases hdg : Po.len1 l1 = 0
  · have hdg' : (Po.len1 l1 : Int) - 1 < 0 := by omega
    clear hp hpf hpe hq hqs hQL hp1 g3 hfl1
    by_cases hsp : QL = n0
    · have hsb : ((QL : Int) == (n0 : Int)) = true := by simp [hsp]
      have HS := Lib.hid (show Po.Fits p ∧ (Po.rts p).length + 1 = Po.len1 p from ⟨HP.out.2.1, by rw [← HP.out.2.2.1, hql, HP.out.2.2.2.2, hsp]⟩)
      clear hsp
      go_enter Try.func5, Try.ntmps5
      go_wp2_with (first
        | (go_at_call 26; refine (pdegree_any a1 n1 c1 l1 w8 (w1'.below hW8)).mono ?_; rintro e w9 ⟨rfl, hb9⟩; have hW9 := hW8.trans (hb9.mono hW8.size); have hP9 := hP8.trans (hb9.mono hP8.size); have hL9 := hL8.trans (hb9.mono hL8.size); have hS9 := hS8.trans (hb9.mono hS8.size); have hG9 := hG8.trans (hb9.mono hG8.size))
        | (go_at_call 13; refine (words_same sa ga QL sc QL gc _ _ w7 (hsw.below hS7) (hgw.below hG7) rfl).mono ?_; rintro e w8 ⟨rfl, hd8⟩; have hW8 := hW7.trans (hd8.below _); have hP8 := hP7.trans (hd8.below _); have hL8 := hL7.trans (hd8.below _); have hS8 := hS7.trans (hd8.below _); have hG8 := hG7.trans (hd8.below _))
        | (go_at_call 13; refine (words_same la ga QL lc QL gc _ _ w6 (hlw.below hL6) hgw rfl).mono ?_; rintro e w7 ⟨rfl, hd7⟩; have hW7 := hW6.trans (hd7.below _); have hP7 := hP6.trans (hd7.below _); have hL7 := hL6.trans (hd7.below _); have hS7 := hS6.trans (hd7.below _); have hG7 := hG6.trans (hd7.below _))
        | (go_at_call 21; refine (sorted_any a0 n0 c0 l0 w5 (w0.below hW5) hnk).mono ?_; rintro e w6 ⟨⟨v6, q6, rfl, hv6, hq6⟩, hb6⟩; have e6 := hq6.unique HP.out.2.2.2.1; subst e6; obtain ⟨ga, gc, rfl, hgc, hg0, hgw⟩ := fresh_shapeK hv6.fresh hql; have hW6 := hW5.trans (hb6.mono hW5.size); have hP6 := hP5.trans (hb6.mono hP5.size); have hL6 := hL5.trans (hb6.mono hL5.size); have hS6 := hS5.trans (hb6.mono hS5.size); have hG6 := Below.refl w6.heap.size w6)
        | (go_at_call 12; refine (K.split_ok pa (n0 + 1) pc p w4 (hpw.below hP4) hpc hp0 hn1k HS.out).mono ?_; rintro e w5 ⟨⟨v5, rfl, hv5⟩, hb5⟩; rw [← HP.out.2.2.1] at hv5; obtain ⟨sa, sc, rfl, hsc, hsa0, hsw⟩ := fresh_shapeK hv5 hql; have hW5 := hW4.trans (hb5.mono hW4.size); have hP5 := hP4.trans (hb5.mono hP4.size); have hL5 := hL4.trans (hb5.mono hL4.size); have hS5 := Below.refl w5.heap.size w5)
        | (go_at_call 9; refine (K.all_ok pa (n0 + 1) pc p w3 hpw hpc hp0 hn1k HP.out.2.1).mono ?_; rintro e w4 ⟨⟨v4, rfl, hv4⟩, hb4⟩; rw [← HP.out.2.2.1] at hv4; obtain ⟨la, lc, rfl, hlc, hla0, hlw⟩ := fresh_shapeK hv4 hql; have hW4 := hW3.trans (hb4.mono hW3.size); have hP4 := hP3.trans (hb4.mono hP3.size); have hL4 := Below.refl w4.heap.size w4)
        | (go_at_call 25; refine (scale_any ra (n0 + 1) rc (Po.fromL l0) a2 w2 hrw hrc hn27).mono ?_; rintro e w3 ⟨⟨v3, rfl, hv3⟩, hb3⟩; rw [← HP.out.1] at hv3; obtain ⟨pa, pc, rfl, hpc, hp0, hpw⟩ := fresh_shapeK hv3 hpl; have hW3 := hW2.trans (hb3.mono hW2.size); have hP3 := Below.refl w3.heap.size w3)
        | (go_at_call 18; refine (from_any a0 n0 c0 l0 w1 (w0.below hW1) hn30).mono ?_; rintro e w2 ⟨⟨v2, rfl, hv2⟩, hb2⟩; obtain ⟨ra, rc, rfl, hrc, hr0, hrw⟩ := fresh_shapeK hv2 hfl; have hW2 := hW1.trans (hb2.mono hW1.size))
        | (go_at_call 8; refine (alive04 K _).mono ?_; rintro e w1 ⟨rfl, hW1⟩))
      go_ret
      exact ⟨rfl, hW9⟩
    · have hsb : ((QL : Int) == (n0 : Int)) = false := by simp; omega
      have HS := Lib.hid (show ¬ (Po.Fits p ∧ (Po.rts p).length + 1 = Po.len1 p) from fun h => hsp (by have := h.2; rw [← HP.out.2.2.1, hql, HP.out.2.2.2.2] at this; omega))
      clear hsp
      go_enter Try.func5, Try.ntmps5
      go_wp2_with (first
        | (go_at_call 26; refine (pdegree_any a1 n1 c1 l1 w7 (w1'.below hW7)).mono ?_; rintro e w9 ⟨rfl, hb9⟩; have hW9 := hW7.trans (hb9.mono hW7.size); have hP9 := hP7.trans (hb9.mono hP7.size); have hL9 := hL7.trans (hb9.mono hL7.size); have hG9 := hG7.trans (hb9.mono hG7.size))
        | (go_at_call 13; refine (words_same la ga QL lc QL gc _ _ w6 (hlw.below hL6) hgw rfl).mono ?_; rintro e w7 ⟨rfl, hd7⟩; have hW7 := hW6.trans (hd7.below _); have hP7 := hP6.trans (hd7.below _); have hL7 := hL6.trans (hd7.below _); have hG7 := hG6.trans (hd7.below _))
        | (go_at_call 21; refine (sorted_any a0 n0 c0 l0 w5 (w0.below hW5) hnk).mono ?_; rintro e w6 ⟨⟨v6, q6, rfl, hv6, hq6⟩, hb6⟩; have e6 := hq6.unique HP.out.2.2.2.1; subst e6; obtain ⟨ga, gc, rfl, hgc, hg0, hgw⟩ := fresh_shapeK hv6.fresh hql; have hW6 := hW5.trans (hb6.mono hW5.size); have hP6 := hP5.trans (hb6.mono hP5.size); have hL6 := hL5.trans (hb6.mono hL5.size); have hG6 := Below.refl w6.heap.size w6)
        | (go_at_call 12; refine (K.split_no pa (n0 + 1) pc p w4 (hpw.below hP4) hpc hp0 hn1k HS.out).mono ?_; rintro e w5 ⟨⟨sa, sc, rfl⟩, hb5⟩; have hW5 := hW4.trans (hb5.mono hW4.size); have hP5 := hP4.trans (hb5.mono hP4.size); have hL5 := hL4.trans (hb5.mono hL4.size))
        | (go_at_call 9; refine (K.all_ok pa (n0 + 1) pc p w3 hpw hpc hp0 hn1k HP.out.2.1).mono ?_; rintro e w4 ⟨⟨v4, rfl, hv4⟩, hb4⟩; rw [← HP.out.2.2.1] at hv4; obtain ⟨la, lc, rfl, hlc, hla0, hlw⟩ := fresh_shapeK hv4 hql; have hW4 := hW3.trans (hb4.mono hW3.size); have hP4 := hP3.trans (hb4.mono hP3.size); have hL4 := Below.refl w4.heap.size w4)
        | (go_at_call 25; refine (scale_any ra (n0 + 1) rc (Po.fromL l0) a2 w2 hrw hrc hn27).mono ?_; rintro e w3 ⟨⟨v3, rfl, hv3⟩, hb3⟩; rw [← HP.out.1] at hv3; obtain ⟨pa, pc, rfl, hpc, hp0, hpw⟩ := fresh_shapeK hv3 hpl; have hW3 := hW2.trans (hb3.mono hW2.size); have hP3 := Below.refl w3.heap.size w3)
        | (go_at_call 18; refine (from_any a0 n0 c0 l0 w1 (w0.below hW1) hn30).mono ?_; rintro e w2 ⟨⟨v2, rfl, hv2⟩, hb2⟩; obtain ⟨ra, rc, rfl, hrc, hr0, hrw⟩ := fresh_shapeK hv2 hfl; have hW2 := hW1.trans (hb2.mono hW1.size))
        | (go_at_call 8; refine (alive04 K _).mono ?_; rintro e w1 ⟨rfl, hW1⟩))
      go_ret
      exact ⟨rfl, hW9⟩
  · have hdg' : ¬ (Po.len1 l1 : Int) - 1 < 0 := by omega
    obtain ⟨ML, hML⟩ : ∃ ML, ML = (Po.mulR p l1).length := ⟨_, rfl⟩
    have hml : (Po.mulR p l1).length = ML := hML.symm
    have hmlv : (Po.mulR p l1).length = n0 + 1 + Po.len1 l1 - 1 := by rw [Po.mulR_length hpf.1 hdg, hp1]
    have hM1k : ML ≤ 1000 := by omega
    have hmf : Po.Fits (Po.mulR p l1) := ⟨by rw [Po.mulR_len]; omega, by rw [Po.mulR_len]; omega⟩
    have hof : Po.Fits l1 := ⟨hdg, by omega⟩
    obtain ⟨XL, hXL⟩ : ∃ XL, XL = (Po.rts (Po.mulR p l1)).length := ⟨_, rfl⟩
    have hxl : (Po.rts (Po.mulR p l1)).length = XL := hXL.symm
    obtain ⟨YL, hYL⟩ : ∃ YL, YL = (Po.rts l1).length := ⟨_, rfl⟩
    have hyl : (Po.rts l1).length = YL := hYL.symm
    have hY8 : YL ≤ 8 := by
      have := Po.count_le hdg (Po.rts_srt l1).nodup fun x hx => Po.rts_mem.1 hx
      omega
    have hcl : (q ++ Po.rts l1).length = QL + YL := by rw [List.length_append, hql, hyl]
    have hset : Po.Set (Po.rts (Po.mulR p l1)) (q ++ Po.rts l1) := ⟨Po.rts_srt _, fun x => by rw [Po.rts_mem, List.mem_append, Po.mul_rts, hq, Po.rts_mem, Po.rts_mem]⟩
    have HO := Lib.hid (And.intro hmf (And.intro hof hset))
    have hsb1 : ([] : List (BitVec 32)).length + QL ≤ 1099511627776 := by simp; omega
    have hsb2 : q.length + YL ≤ 1099511627776 := by omega
    have hn2k : QL + YL ≤ 1000 := by omega
    clear hp hpf hpe hq hqs hQL hp1 g3 hfl1 hML hmlv hmf hof hXL hYL hset hdg
    by_cases hsp : QL = n0
    · have hsb : ((QL : Int) == (n0 : Int)) = true := by simp [hsp]
      have HS := Lib.hid (show Po.Fits p ∧ (Po.rts p).length + 1 = Po.len1 p from ⟨HP.out.2.1, by rw [← HP.out.2.2.1, hql, HP.out.2.2.2.2, hsp]⟩)
      clear hsp
      go_enter Try.func5, Try.ntmps5
      go_wp2_with (first
        | (go_at_call 13; refine (words_same xa ua XL xc XL uc _ _ w15 (hxw.below hX15) huw rfl).mono ?_; rintro e w16 ⟨rfl, hd16⟩; have hW16 := hW15.trans (hd16.below _); have hP16 := hP15.trans (hd16.below _); have hL16 := hL15.trans (hd16.below _); have hS16 := hS15.trans (hd16.below _); have hG16 := hG15.trans (hd16.below _); have hX16 := hX15.trans (hd16.below _); have hY16 := hY15.trans (hd16.below _))
        | (go_at_call 21; refine (sorted_any ta (QL + YL) tc _ w14 htw hn2k).mono ?_; rintro e w15 ⟨⟨v15, q15, rfl, hv15, hq15⟩, hb15⟩; have e15 := hq15.unique HO.out.2.2; subst e15; obtain ⟨ua, uc, rfl, huc, hu0, huw⟩ := fresh_shapeK hv15.fresh hxl; have hW15 := hW14.trans (hb15.mono hW14.size); have hP15 := hP14.trans (hb15.mono hP14.size); have hL15 := hL14.trans (hb15.mono hL14.size); have hS15 := hS14.trans (hb15.mono hS14.size); have hG15 := hG14.trans (hb15.mono hG14.size); have hX15 := hX14.trans (hb15.mono hX14.size); have hY15 := hY14.trans (hb15.mono hY14.size))
        | (at_builtin; refine wpList_append_words_if rfl (.tmp 97) (.tmp 98) 22 rfl 37 Try.underlying22 info_word w12.heap.size _ q6 rfl h13 ya YL yc (Po.rts l1) rfl (hyw.below hY13) hy0 hsb2 hY13.size ?_; intro v14 w14 h14 g14; have hb14 := (below_own_row (hY13) g14 h13.lt); obtain ⟨ta, tc, rfl, htc, ht0, htw⟩ := fresh_shapeK h14.fresh hcl; have hW14 := hW12.trans (hb14.mono hW12.size); have hP14 := hP12.trans (hb14.mono hP12.size); have hL14 := hL12.trans (hb14.mono hL12.size); have hS14 := hS12.trans (hb14.mono hS12.size); have hG14 := hG12.trans (hb14.mono hG12.size); have hX14 := hX12.trans (hb14.mono hX12.size); have hY14 := hb14)
        | (at_builtin; refine wpList_append_words_if rfl (.tmp 95) (.tmp 96) 22 rfl 37 Try.underlying22 info_word w12.heap.size _ [] rfl (OwnW.empty (Nat.le_refl _) hfresh) la QL lc q6 rfl ((hlw.below hL12).past _) hla0 hsb1 (by simp) ?_; intro v13 w13 h13 g13; have hb13 := below_own_row ((Below.refl _ w12).alloc (Nat.le_refl _) _) g13 (OwnW.empty (Nat.le_refl _) hfresh).lt; rw [List.nil_append] at h13; have hW13 := hW12.trans (hb13.mono hW12.size); have hP13 := hP12.trans (hb13.mono hP12.size); have hL13 := hL12.trans (hb13.mono hL12.size); have hS13 := hS12.trans (hb13.mono hS12.size); have hG13 := hG12.trans (hb13.mono hG12.size); have hX13 := hX12.trans (hb13.mono hX12.size); have hY13 := hY12.trans (hb13.mono hY12.size))
        | (go_at_call 9; refine (K.all_ok a1 n1 c1 l1 w11 (w1'.below hW11) m1' z1' hn11k HO.out.2.1).mono ?_; rintro e w12 ⟨⟨v12, rfl, hv12⟩, hb12⟩; obtain ⟨ya, yc, rfl, hyc, hy0, hyw⟩ := fresh_shapeK hv12 hyl; have hW12 := hW11.trans (hb12.mono hW11.size); have hP12 := hP11.trans (hb12.mono hP11.size); have hL12 := hL11.trans (hb12.mono hL11.size); have hS12 := hS11.trans (hb12.mono hS11.size); have hG12 := hG11.trans (hb12.mono hG11.size); have hX12 := hX11.trans (hb12.mono hX11.size); have hY12 := Below.refl w12.heap.size w12; have hfresh := Has.fresh w12 37 #[])
        | (go_at_call 9; refine (K.all_ok ma ML mc (Po.mulR p l1) w10 hmw hmc hm0 hM1k HO.out.1).mono ?_; rintro e w11 ⟨⟨v11, rfl, hv11⟩, hb11⟩; obtain ⟨xa, xc, rfl, hxc, hx0, hxw⟩ := fresh_shapeK hv11 hxl; have hW11 := hW10.trans (hb11.mono hW10.size); have hP11 := hP10.trans (hb11.mono hP10.size); have hL11 := hL10.trans (hb11.mono hL10.size); have hS11 := hS10.trans (hb11.mono hS10.size); have hG11 := hG10.trans (hb11.mono hG10.size); have hX11 := Below.refl w11.heap.size w11)
        | (go_at_call 27; refine (pmul_any pa a1 (n0 + 1) pc n1 c1 p l1 w9 (hpw.below hP9) (w1'.below hW9) hpc m1' hn54).mono ?_; rintro e w10 ⟨⟨v10, rfl, hv10⟩, hb10⟩; obtain ⟨ma, mc, rfl, hmc, hm0, hmw⟩ := fresh_shapeK hv10 hml; have hW10 := hW9.trans (hb10.mono hW9.size); have hP10 := hP9.trans (hb10.mono hP9.size); have hL10 := hL9.trans (hb10.mono hL9.size); have hS10 := hS9.trans (hb10.mono hS9.size); have hG10 := hG9.trans (hb10.mono hG9.size))
        | (go_at_call 26; refine (pdegree_any a1 n1 c1 l1 w8 (w1'.below hW8)).mono ?_; rintro e w9 ⟨rfl, hb9⟩; have hW9 := hW8.trans (hb9.mono hW8.size); have hP9 := hP8.trans (hb9.mono hP8.size); have hL9 := hL8.trans (hb9.mono hL8.size); have hS9 := hS8.trans (hb9.mono hS8.size); have hG9 := hG8.trans (hb9.mono hG8.size))
        | (go_at_call 13; refine (words_same sa ga QL sc QL gc _ _ w7 (hsw.below hS7) (hgw.below hG7) rfl).mono ?_; rintro e w8 ⟨rfl, hd8⟩; have hW8 := hW7.trans (hd8.below _); have hP8 := hP7.trans (hd8.below _); have hL8 := hL7.trans (hd8.below _); have hS8 := hS7.trans (hd8.below _); have hG8 := hG7.trans (hd8.below _))
        | (go_at_call 13; refine (words_same la ga QL lc QL gc _ _ w6 (hlw.below hL6) hgw rfl).mono ?_; rintro e w7 ⟨rfl, hd7⟩; have hW7 := hW6.trans (hd7.below _); have hP7 := hP6.trans (hd7.below _); have hL7 := hL6.trans (hd7.below _); have hS7 := hS6.trans (hd7.below _); have hG7 := hG6.trans (hd7.below _))
        | (go_at_call 21; refine (sorted_any a0 n0 c0 l0 w5 (w0.below hW5) hnk).mono ?_; rintro e w6 ⟨⟨v6, q6, rfl, hv6, hq6⟩, hb6⟩; have e6 := hq6.unique HP.out.2.2.2.1; subst e6; obtain ⟨ga, gc, rfl, hgc, hg0, hgw⟩ := fresh_shapeK hv6.fresh hql; have hW6 := hW5.trans (hb6.mono hW5.size); have hP6 := hP5.trans (hb6.mono hP5.size); have hL6 := hL5.trans (hb6.mono hL5.size); have hS6 := hS5.trans (hb6.mono hS5.size); have hG6 := Below.refl w6.heap.size w6)
        | (go_at_call 12; refine (K.split_ok pa (n0 + 1) pc p w4 (hpw.below hP4) hpc hp0 hn1k HS.out).mono ?_; rintro e w5 ⟨⟨v5, rfl, hv5⟩, hb5⟩; rw [← HP.out.2.2.1] at hv5; obtain ⟨sa, sc, rfl, hsc, hsa0, hsw⟩ := fresh_shapeK hv5 hql; have hW5 := hW4.trans (hb5.mono hW4.size); have hP5 := hP4.trans (hb5.mono hP4.size); have hL5 := hL4.trans (hb5.mono hL4.size); have hS5 := Below.refl w5.heap.size w5)
        | (go_at_call 9; refine (K.all_ok pa (n0 + 1) pc p w3 hpw hpc hp0 hn1k HP.out.2.1).mono ?_; rintro e w4 ⟨⟨v4, rfl, hv4⟩, hb4⟩; rw [← HP.out.2.2.1] at hv4; obtain ⟨la, lc, rfl, hlc, hla0, hlw⟩ := fresh_shapeK hv4 hql; have hW4 := hW3.trans (hb4.mono hW3.size); have hP4 := hP3.trans (hb4.mono hP3.size); have hL4 := Below.refl w4.heap.size w4)
        | (go_at_call 25; refine (scale_any ra (n0 + 1) rc (Po.fromL l0) a2 w2 hrw hrc hn27).mono ?_; rintro e w3 ⟨⟨v3, rfl, hv3⟩, hb3⟩; rw [← HP.out.1] at hv3; obtain ⟨pa, pc, rfl, hpc, hp0, hpw⟩ := fresh_shapeK hv3 hpl; have hW3 := hW2.trans (hb3.mono hW2.size); have hP3 := Below.refl w3.heap.size w3)
        | (go_at_call 18; refine (from_any a0 n0 c0 l0 w1 (w0.below hW1) hn30).mono ?_; rintro e w2 ⟨⟨v2, rfl, hv2⟩, hb2⟩; obtain ⟨ra, rc, rfl, hrc, hr0, hrw⟩ := fresh_shapeK hv2 hfl; have hW2 := hW1.trans (hb2.mono hW1.size))
        | (go_at_call 8; refine (alive04 K _).mono ?_; rintro e w1 ⟨rfl, hW1⟩))
      go_ret
      exact ⟨rfl, hW16⟩
    · have hsb : ((QL : Int) == (n0 : Int)) = false := by simp; omega
      have HS := Lib.hid (show ¬ (Po.Fits p ∧ (Po.rts p).length + 1 = Po.len1 p) from fun h => hsp (by have := h.2; rw [← HP.out.2.2.1, hql, HP.out.2.2.2.2] at this; omega))
      clear hsp
      go_enter Try.func5, Try.ntmps5
      go_wp2_with (first
        | (go_at_call 13; refine (words_same xa ua XL xc XL uc _ _ w15 (hxw.below hX15) huw rfl).mono ?_; rintro e w16 ⟨rfl, hd16⟩; have hW16 := hW15.trans (hd16.below _); have hP16 := hP15.trans (hd16.below _); have hL16 := hL15.trans (hd16.below _); have hG16 := hG15.trans (hd16.below _); have hX16 := hX15.trans (hd16.below _); have hY16 := hY15.trans (hd16.below _))
        | (go_at_call 21; refine (sorted_any ta (QL + YL) tc _ w14 htw hn2k).mono ?_; rintro e w15 ⟨⟨v15, q15, rfl, hv15, hq15⟩, hb15⟩; have e15 := hq15.unique HO.out.2.2; subst e15; obtain ⟨ua, uc, rfl, huc, hu0, huw⟩ := fresh_shapeK hv15.fresh hxl; have hW15 := hW14.trans (hb15.mono hW14.size); have hP15 := hP14.trans (hb15.mono hP14.size); have hL15 := hL14.trans (hb15.mono hL14.size); have hG15 := hG14.trans (hb15.mono hG14.size); have hX15 := hX14.trans (hb15.mono hX14.size); have hY15 := hY14.trans (hb15.mono hY14.size))
        | (at_builtin; refine wpList_append_words_if rfl (.tmp 97) (.tmp 98) 22 rfl 37 Try.underlying22 info_word w12.heap.size _ q6 rfl h13 ya YL yc (Po.rts l1) rfl (hyw.below hY13) hy0 hsb2 hY13.size ?_; intro v14 w14 h14 g14; have hb14 := (below_own_row (hY13) g14 h13.lt); obtain ⟨ta, tc, rfl, htc, ht0, htw⟩ := fresh_shapeK h14.fresh hcl; have hW14 := hW12.trans (hb14.mono hW12.size); have hP14 := hP12.trans (hb14.mono hP12.size); have hL14 := hL12.trans (hb14.mono hL12.size); have hG14 := hG12.trans (hb14.mono hG12.size); have hX14 := hX12.trans (hb14.mono hX12.size); have hY14 := hb14)
        | (at_builtin; refine wpList_append_words_if rfl (.tmp 95) (.tmp 96) 22 rfl 37 Try.underlying22 info_word w12.heap.size _ [] rfl (OwnW.empty (Nat.le_refl _) hfresh) la QL lc q6 rfl ((hlw.below hL12).past _) hla0 hsb1 (by simp) ?_; intro v13 w13 h13 g13; have hb13 := below_own_row ((Below.refl _ w12).alloc (Nat.le_refl _) _) g13 (OwnW.empty (Nat.le_refl _) hfresh).lt; rw [List.nil_append] at h13; have hW13 := hW12.trans (hb13.mono hW12.size); have hP13 := hP12.trans (hb13.mono hP12.size); have hL13 := hL12.trans (hb13.mono hL12.size); have hG13 := hG12.trans (hb13.mono hG12.size); have hX13 := hX12.trans (hb13.mono hX12.size); have hY13 := hY12.trans (hb13.mono hY12.size))
        | (go_at_call 9; refine (K.all_ok a1 n1 c1 l1 w11 (w1'.below hW11) m1' z1' hn11k HO.out.2.1).mono ?_; rintro e w12 ⟨⟨v12, rfl, hv12⟩, hb12⟩; obtain ⟨ya, yc, rfl, hyc, hy0, hyw⟩ := fresh_shapeK hv12 hyl; have hW12 := hW11.trans (hb12.mono hW11.size); have hP12 := hP11.trans (hb12.mono hP11.size); have hL12 := hL11.trans (hb12.mono hL11.size); have hG12 := hG11.trans (hb12.mono hG11.size); have hX12 := hX11.trans (hb12.mono hX11.size); have hY12 := Below.refl w12.heap.size w12; have hfresh := Has.fresh w12 37 #[])
        | (go_at_call 9; refine (K.all_ok ma ML mc (Po.mulR p l1) w10 hmw hmc hm0 hM1k HO.out.1).mono ?_; rintro e w11 ⟨⟨v11, rfl, hv11⟩, hb11⟩; obtain ⟨xa, xc, rfl, hxc, hx0, hxw⟩ := fresh_shapeK hv11 hxl; have hW11 := hW10.trans (hb11.mono hW10.size); have hP11 := hP10.trans (hb11.mono hP10.size); have hL11 := hL10.trans (hb11.mono hL10.size); have hG11 := hG10.trans (hb11.mono hG10.size); have hX11 := Below.refl w11.heap.size w11)
        | (go_at_call 27; refine (pmul_any pa a1 (n0 + 1) pc n1 c1 p l1 w9 (hpw.below hP9) (w1'.below hW9) hpc m1' hn54).mono ?_; rintro e w10 ⟨⟨v10, rfl, hv10⟩, hb10⟩; obtain ⟨ma, mc, rfl, hmc, hm0, hmw⟩ := fresh_shapeK hv10 hml; have hW10 := hW9.trans (hb10.mono hW9.size); have hP10 := hP9.trans (hb10.mono hP9.size); have hL10 := hL9.trans (hb10.mono hL9.size); have hG10 := hG9.trans (hb10.mono hG9.size))
        | (go_at_call 26; refine (pdegree_any a1 n1 c1 l1 w7 (w1'.below hW7)).mono ?_; rintro e w9 ⟨rfl, hb9⟩; have hW9 := hW7.trans (hb9.mono hW7.size); have hP9 := hP7.trans (hb9.mono hP7.size); have hL9 := hL7.trans (hb9.mono hL7.size); have hG9 := hG7.trans (hb9.mono hG7.size))
        | (go_at_call 13; refine (words_same la ga QL lc QL gc _ _ w6 (hlw.below hL6) hgw rfl).mono ?_; rintro e w7 ⟨rfl, hd7⟩; have hW7 := hW6.trans (hd7.below _); have hP7 := hP6.trans (hd7.below _); have hL7 := hL6.trans (hd7.below _); have hG7 := hG6.trans (hd7.below _))
        | (go_at_call 21; refine (sorted_any a0 n0 c0 l0 w5 (w0.below hW5) hnk).mono ?_; rintro e w6 ⟨⟨v6, q6, rfl, hv6, hq6⟩, hb6⟩; have e6 := hq6.unique HP.out.2.2.2.1; subst e6; obtain ⟨ga, gc, rfl, hgc, hg0, hgw⟩ := fresh_shapeK hv6.fresh hql; have hW6 := hW5.trans (hb6.mono hW5.size); have hP6 := hP5.trans (hb6.mono hP5.size); have hL6 := hL5.trans (hb6.mono hL5.size); have hG6 := Below.refl w6.heap.size w6)
        | (go_at_call 12; refine (K.split_no pa (n0 + 1) pc p w4 (hpw.below hP4) hpc hp0 hn1k HS.out).mono ?_; rintro e w5 ⟨⟨sa, sc, rfl⟩, hb5⟩; have hW5 := hW4.trans (hb5.mono hW4.size); have hP5 := hP4.trans (hb5.mono hP4.size); have hL5 := hL4.trans (hb5.mono hL4.size))
        | (go_at_call 9; refine (K.all_ok pa (n0 + 1) pc p w3 hpw hpc hp0 hn1k HP.out.2.1).mono ?_; rintro e w4 ⟨⟨v4, rfl, hv4⟩, hb4⟩; rw [← HP.out.2.2.1] at hv4; obtain ⟨la, lc, rfl, hlc, hla0, hlw⟩ := fresh_shapeK hv4 hql; have hW4 := hW3.trans (hb4.mono hW3.size); have hP4 := hP3.trans (hb4.mono hP3.size); have hL4 := Below.refl w4.heap.size w4)
        | (go_at_call 25; refine (scale_any ra (n0 + 1) rc (Po.fromL l0) a2 w2 hrw hrc hn27).mono ?_; rintro e w3 ⟨⟨v3, rfl, hv3⟩, hb3⟩; rw [← HP.out.1] at hv3; obtain ⟨pa, pc, rfl, hpc, hp0, hpw⟩ := fresh_shapeK hv3 hpl; have hW3 := hW2.trans (hb3.mono hW2.size); have hP3 := Below.refl w3.heap.size w3)
        | (go_at_call 18; refine (from_any a0 n0 c0 l0 w1 (w0.below hW1) hn30).mono ?_; rintro e w2 ⟨⟨v2, rfl, hv2⟩, hb2⟩; obtain ⟨ra, rc, rfl, hrc, hr0, hrw⟩ := fresh_shapeK hv2 hfl; have hW2 := hW1.trans (hb2.mono hW1.size))
        | (go_at_call 8; refine (alive04 K _).mono ?_; rintro e w1 ⟨rfl, hW1⟩))
      go_ret
      exact ⟨rfl, hW16⟩
end Go.Proofs.Ytlackhjlnoefcaa
