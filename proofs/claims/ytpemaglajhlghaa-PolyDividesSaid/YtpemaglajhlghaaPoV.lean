/- PolyDivides -/
import Derived.Test.YtpemaglajhlghaaRows
import Derived.Test.YtpemaglajhlghaaPoE
namespace Go.Proofs.Ytpemaglajhlghaa
open Go Go.RowKit Go.ChangeShapes Go.WideShapes
set_option maxHeartbeats 4000000 in
set_option maxRecDepth 100000 in
theorem polyDividesWalk {H : Type} {enc : TypeId × Value → H} (W : World) (base : Nat) (v0 : Value) (d0 : DataW H) (p0 : List MemPlace) (v1 : Value) (d1 : DataW H) (p1 : List MemPlace)
    (o0 : Value.okWide Try.prog W .any base 22 v0) (o1 : Value.okWide Try.prog W .any base 22 v1)
    (h0 : DataW.Trod enc Try.prog W 0 (fun _ => true) true 22 v0 d0 p0) (h1 : DataW.Trod enc Try.prog W 0 (fun _ => true) true 22 v1 d1 p1) :
    Calls Try.prog 4 #[v0, v1] W fun e w' => e = .returned (.bool true) ∧ Below W.heap.size W w' := by
  obtain ⟨a0, n0, c0, l0, rfl, w0, m0, z0⟩ := arg_wordsc Try.underlying22 Try.underlying23 (by kernel_rfl) o0 h0
  obtain ⟨a1, n1, c1, l1, rfl, w1, m1, z1⟩ := arg_wordsc Try.underlying22 Try.underlying23 (by kernel_rfl) o1 h1
  rename Words32 W a1 n1 l1 => w1'
  have hla := w0.1
  have hlb := w1'.1
  by_cases hlong : 24 < n0 ∨ 24 < n1
  · have HL := Lib.hid hlong
    clear hlong
    go_enter Try.func4, Try.ntmps4
    go_wp2_with (first
      | (go_at_call 8; refine (alive_any _).mono ?_; rintro e w1 ⟨rfl, hb1⟩)
      | (go_at_call 9; refine (long_any _ _ _ _ _ _ _ _ (rows_two w1 a0 a1 n0 c0 n1 c1 l0 l1 (w0.below hb1) (w1'.below hb1) m0 m1 22) true (long_yes HL.out)).mono ?_; rintro e w2 ⟨rfl, rfl⟩))
    go_ret
    exact ⟨rfl, hb1.alloc hb1.size _⟩
  · have hn0 : n0 ≤ 24 := by omega
    have hn1 : n1 ≤ 24 := by omega
    have hk0 : n0 ≤ 1099511627776 := by omega
    have hk1 : n1 ≤ 1099511627776 := by omega
    have hk2 : n0 ≤ 274877906944 := by omega
    have hk3 : n1 ≤ 274877906944 := by omega
    have hk4 : n0 ≤ 68719476736 := by omega
    have hk5 : n1 ≤ 68719476736 := by omega
    have hk6 : n0 ≤ 549755813888 := by omega
    have hk7 : n1 ≤ 549755813888 := by omega
    have htl := Po.trim_length l1
    by_cases hz : Po.len1 l1 = 0
    · have ht0 : ((Po.len1 l1 : Int) == 0) = true := by simp [hz]
      go_enter Try.func4, Try.ntmps4
      go_wp2_with (first
        | (go_at_call 8; refine (alive_any _).mono ?_; rintro e w1 ⟨rfl, hb1⟩)
        | (go_at_call 9; refine (long_any _ _ _ _ _ _ _ _ (rows_two w1 a0 a1 n0 c0 n1 c1 l0 l1 (w0.below hb1) (w1'.below hb1) m0 m1 22) false (long_no hn0 hn1)).mono ?_; rintro e w2 ⟨rfl, rfl⟩)
        | (go_at_call 10; with_reducible refine (own_any a0 n0 c0 l0 _ ((w0.below hb1).past _) z0 hk6).mono ?_; rintro e w3 ⟨⟨v3, rfl, hv3⟩, hb3⟩; have hf3 := hv3.fresh; rw [OwnW] at hv3; obtain ⟨ca, cc, rfl, hcc, hcw⟩ := hf3.slice; rw [hla] at hcc hcw)
        | (go_at_call 10; with_reducible refine (own_any a1 n1 c1 l1 _ (((w1'.below hb1).past _).below hb3) z1 hk7).mono ?_; rintro e w4 ⟨⟨v4, rfl, hv4⟩, hb4⟩; have hf4 := hv4.fresh; obtain ⟨da, dc, rfl, hdc, hdw⟩ := hf4.slice; rw [hlb] at hdc hdw; have hA4 : Words32 w4 a0 n0 l0 := (((w0.below hb1).past _).below hb3).below hb4; have hE4 : Words32 w4 a1 n1 l1 := (((w1'.below hb1).past _).below hb3).below hb4; have hC4 := hcw.below hb4; have hB4 := Below.refl w4.heap.size w4)
        | (go_at_call 25; with_reducible refine (pdiv0_any ca da n0 cc n1 dc l1 w4 hdw hz).mono ?_; rintro e w5 ⟨rfl, hb5⟩; have hB5 := hB4.trans (hb5.mono hB4.size))
        | (go_at_call 26; with_reducible refine (psq0_any ca da n0 cc n1 dc l1 w5 (hdw.below hB5) hz).mono ?_; rintro e w6 ⟨rfl, hb6⟩; have hB6 := hB5.trans (hb6.mono hB5.size))
        | (go_at_call 27; with_reducible refine (monic_any ca n0 cc l0 w6 (hC4.below hB6) hcc hk2).mono ?_; rintro e w7 ⟨⟨v7, rfl, hv7⟩, hb7⟩; obtain ⟨s7, t7, rfl, ht7, hw7⟩ := hv7.slice; have hB7 := hB6.trans (hb7.mono hB6.size))
        | (go_at_call 28; with_reducible refine (rmonic_any a0 n0 c0 l0 w7 (hA4.below hB7) m0 z0 hk2).mono ?_; rintro e w8 ⟨⟨v8, rfl, hv8⟩, hb8⟩; obtain ⟨s8, t8, rfl, ht8, hw8⟩ := hv8.slice; have hB8 := hB7.trans (hb8.mono hB7.size))
        | (go_at_call 13; with_reducible refine (words_same s7 s8 _ t7 _ t8 (Po.monic l0) (Po.monic l0) w8 (hw7.below hb8) hw8 rfl).mono ?_; rintro e w9 ⟨rfl, hd9⟩; have hb9 := hd9.below w8.heap.size; have hB9 := hB8.trans (hb9.mono hB8.size))
        | (go_at_call 29; with_reducible refine (common_any ca da n0 cc n1 dc l0 l1 w9 (hC4.below hB9) (hdw.below hB9) hcc hdc hk2 hk3).mono ?_; rintro e w10 ⟨⟨v10, g10, rfl, hg10, hv10⟩, hb10⟩; obtain ⟨s10, t10, rfl, ht10, hw10⟩ := hv10.slice; have hB10 := hB9.trans (hb10.mono hB9.size))
        | (go_at_call 30; with_reducible refine (rcommon_any a0 a1 n0 c0 n1 c1 l0 l1 w10 (hA4.below hB10) (hE4.below hB10) m0 m1 z0 z1 hk4 hk5).mono ?_; rintro e w11 ⟨⟨v11, g11, rfl, hg11, hv11⟩, hb11⟩; obtain ⟨s11, t11, rfl, ht11, hw11⟩ := hv11.slice; have hB11 := hB10.trans (hb11.mono hB10.size))
        | (go_at_call 13; with_reducible refine (words_same s10 s11 _ t10 _ t11 g10 g11 w11 (hw10.below hb11) hw11 (hg10.unique hg11)).mono ?_; rintro e w12 ⟨rfl, hd12⟩; have hb12 := hd12.below w11.heap.size; have hB12 := hB11.trans (hb12.mono hB11.size))
        | (go_at_call 13; with_reducible refine (words_same ca a0 n0 cc n0 c0 l0 l0 w12 (hC4.below hB12) (hA4.below hB12) rfl).mono ?_; rintro e w13 ⟨rfl, hd13⟩; have hb13 := hd13.below w12.heap.size; have hB13 := hB12.trans (hb13.mono hB12.size))
        | (go_at_call 13; with_reducible refine (words_same da a1 n1 dc n1 c1 l1 l1 w13 (hdw.below hB13) (hE4.below hB13) rfl).mono ?_; rintro e w14 ⟨rfl, hd14⟩; have hb14 := hd14.below w13.heap.size; have hB14 := hB13.trans (hb14.mono hB13.size))
        | (go_at_call 23; with_reducible refine (rtrim_any a1 n1 c1 l1 w14 (hE4.below hB14) m1 z1 hk7).mono ?_; rintro e w15 ⟨⟨v15, rfl, hv15⟩, hb15⟩; obtain ⟨s15, t15, rfl, ht15, hw15⟩ := hv15.slice; have hB15 := hB14.trans (hb15.mono hB14.size); rw [htl] at hw15)
        | (go_at_call 31; refine (is_range _).mono ?_; rintro e w16 ⟨rfl, rfl⟩))
      go_ret
      have hw4 : Below W.heap.size W w4 := ((hb1.alloc hb1.size _).trans (hb3.mono (by simp; exact Nat.le_succ_of_le hb1.size))).trans (hb4.mono (Nat.le_trans (Nat.le_succ_of_le hb1.size) (by have := hb3.size; simpa using this)))
      exact ⟨rfl, hw4.trans (hB15.mono hw4.size)⟩
    · have ht0 : ((Po.len1 l1 : Int) == 0) = false := by simpa using hz
      have hsq : ∀ r, Po.Norm r (Po.mulL l0 (Po.cf l0)) → (Po.qr (Po.sqL l0) l1).2 = (Po.qr r l1).2 := fun r hr => by
        rw [Po.qr_congr (show Po.cf (Po.sqL l0) = Po.cf r by rw [hr.2, Po.sqL_cf]) hz]
      have hsqlen : ∀ r, Po.Norm r (Po.mulL l0 (Po.cf l0)) → r.length ≤ 48 := fun r hr => hr.len fun i hi => Po.mulL_ge _ _ n0 (fun i hi => Po.cf_ge (by omega)) i (by omega)
      go_enter Try.func4, Try.ntmps4
      go_wp2_with (first
        | (go_at_call 8; refine (alive_any _).mono ?_; rintro e w1 ⟨rfl, hb1⟩)
        | (go_at_call 9; refine (long_any _ _ _ _ _ _ _ _ (rows_two w1 a0 a1 n0 c0 n1 c1 l0 l1 (w0.below hb1) (w1'.below hb1) m0 m1 22) false (long_no hn0 hn1)).mono ?_; rintro e w2 ⟨rfl, rfl⟩)
        | (go_at_call 10; with_reducible refine (own_any a0 n0 c0 l0 _ ((w0.below hb1).past _) z0 hk6).mono ?_; rintro e w3 ⟨⟨v3, rfl, hv3⟩, hb3⟩; have hf3 := hv3.fresh; rw [OwnW] at hv3; obtain ⟨ca, cc, rfl, hcc, hcw⟩ := hf3.slice; rw [hla] at hcc hcw)
        | (go_at_call 10; with_reducible refine (own_any a1 n1 c1 l1 _ (((w1'.below hb1).past _).below hb3) z1 hk7).mono ?_; rintro e w4 ⟨⟨v4, rfl, hv4⟩, hb4⟩; have hf4 := hv4.fresh; obtain ⟨da, dc, rfl, hdc, hdw⟩ := hf4.slice; rw [hlb] at hdc hdw; have hA4 : Words32 w4 a0 n0 l0 := (((w0.below hb1).past _).below hb3).below hb4; have hE4 : Words32 w4 a1 n1 l1 := (((w1'.below hb1).past _).below hb3).below hb4; have hC4 := hcw.below hb4; have hB4 := Below.refl w4.heap.size w4)
        | (go_at_call 25; with_reducible refine (pdiv_any ca da n0 cc n1 dc l0 l1 w4 hC4 hdw hdc hk0 hk1 hz).mono ?_; rintro e w5 ⟨⟨v5, u5, rfl, hv5, hu5⟩, hb5⟩; obtain ⟨s5, t5, rfl, ht5, hw5⟩ := hv5.slice; obtain ⟨p5, q5, rfl, hq5, hp5⟩ := hu5.slice; have hB5 := hB4.trans (hb5.mono hB4.size); have hD5 := Below.refl w5.heap.size w5)
        | (go_at_call 26; with_reducible refine (psq_any ca da n0 cc n1 dc l0 l1 w5 (hC4.below hB5) (hdw.below hB5) hcc hdc hk2 hk1 hz).mono ?_; rintro e w6 ⟨⟨u6, rfl, hu6⟩, hb6⟩; obtain ⟨s6, t6, rfl, ht6, hw6⟩ := hu6.slice; have hB6 := hB5.trans (hb6.mono hB5.size); have hD6 := hD5.trans (hb6.mono hD5.size); have hG6 := Below.refl w6.heap.size w6)
        | (go_at_call 27; with_reducible refine (monic_any ca n0 cc l0 w6 (hC4.below hB6) hcc hk2).mono ?_; rintro e w7 ⟨⟨v7, rfl, hv7⟩, hb7⟩; obtain ⟨s7, t7, rfl, ht7, hw7⟩ := hv7.slice; have hB7 := hB6.trans (hb7.mono hB6.size); have hD7 := hD6.trans (hb7.mono hD6.size); have hG7 := hG6.trans (hb7.mono hG6.size))
        | (go_at_call 28; with_reducible refine (rmonic_any a0 n0 c0 l0 w7 (hA4.below hB7) m0 z0 hk2).mono ?_; rintro e w8 ⟨⟨v8, rfl, hv8⟩, hb8⟩; obtain ⟨s8, t8, rfl, ht8, hw8⟩ := hv8.slice; have hB8 := hB7.trans (hb8.mono hB7.size); have hD8 := hD7.trans (hb8.mono hD7.size); have hG8 := hG7.trans (hb8.mono hG7.size))
        | (go_at_call 13; with_reducible refine (words_same s7 s8 _ t7 _ t8 (Po.monic l0) (Po.monic l0) w8 (hw7.below hb8) hw8 rfl).mono ?_; rintro e w9 ⟨rfl, hd9⟩; have hb9 := hd9.below w8.heap.size; have hB9 := hB8.trans (hb9.mono hB8.size); have hD9 := hD8.trans (hb9.mono hD8.size); have hG9 := hG8.trans (hb9.mono hG8.size))
        | (go_at_call 29; with_reducible refine (common_any ca da n0 cc n1 dc l0 l1 w9 (hC4.below hB9) (hdw.below hB9) hcc hdc hk2 hk3).mono ?_; rintro e w10 ⟨⟨v10, g10, rfl, hg10, hv10⟩, hb10⟩; obtain ⟨s10, t10, rfl, ht10, hw10⟩ := hv10.slice; have hB10 := hB9.trans (hb10.mono hB9.size); have hD10 := hD9.trans (hb10.mono hD9.size); have hG10 := hG9.trans (hb10.mono hG9.size))
        | (go_at_call 30; with_reducible refine (rcommon_any a0 a1 n0 c0 n1 c1 l0 l1 w10 (hA4.below hB10) (hE4.below hB10) m0 m1 z0 z1 hk4 hk5).mono ?_; rintro e w11 ⟨⟨v11, g11, rfl, hg11, hv11⟩, hb11⟩; obtain ⟨s11, t11, rfl, ht11, hw11⟩ := hv11.slice; have hB11 := hB10.trans (hb11.mono hB10.size); have hD11 := hD10.trans (hb11.mono hD10.size); have hG11 := hG10.trans (hb11.mono hG10.size))
        | (go_at_call 13; with_reducible refine (words_same s10 s11 _ t10 _ t11 g10 g11 w11 (hw10.below hb11) hw11 (hg10.unique hg11)).mono ?_; rintro e w12 ⟨rfl, hd12⟩; have hb12 := hd12.below w11.heap.size; have hB12 := hB11.trans (hb12.mono hB11.size); have hD12 := hD11.trans (hb12.mono hD11.size); have hG12 := hG11.trans (hb12.mono hG11.size))
        | (go_at_call 13; with_reducible refine (words_same ca a0 n0 cc n0 c0 l0 l0 w12 (hC4.below hB12) (hA4.below hB12) rfl).mono ?_; rintro e w13 ⟨rfl, hd13⟩; have hb13 := hd13.below w12.heap.size; have hB13 := hB12.trans (hb13.mono hB12.size); have hD13 := hD12.trans (hb13.mono hD12.size); have hG13 := hG12.trans (hb13.mono hG12.size))
        | (go_at_call 13; with_reducible refine (words_same da a1 n1 dc n1 c1 l1 l1 w13 (hdw.below hB13) (hE4.below hB13) rfl).mono ?_; rintro e w14 ⟨rfl, hd14⟩; have hb14 := hd14.below w13.heap.size; have hB14 := hB13.trans (hb14.mono hB13.size); have hD14 := hD13.trans (hb14.mono hD13.size); have hG14 := hG13.trans (hb14.mono hG13.size))
        | (go_at_call 23; with_reducible refine (rtrim_any a1 n1 c1 l1 w14 (hE4.below hB14) m1 z1 hk7).mono ?_; rintro e w15 ⟨⟨v15, rfl, hv15⟩, hb15⟩; obtain ⟨s15, t15, rfl, ht15, hw15⟩ := hv15.slice; have hB15 := hB14.trans (hb15.mono hB14.size); rw [htl] at hw15; have hD15 := hD14.trans (hb15.mono hD14.size); have hG15 := hG14.trans (hb15.mono hG14.size))
        | (go_at_call 32; with_reducible refine (rdivide_any a0 a1 n0 c0 n1 c1 l0 l1 w15 (hA4.below hB15) (hE4.below hB15) m0 m1 z0 z1 hk4 hk5 hz).mono ?_; rintro e w16 ⟨⟨v16, u16, rfl, hv16, hu16⟩, hb16⟩; obtain ⟨s16, t16, rfl, ht16, hw16⟩ := hv16.slice; obtain ⟨p16, q16, rfl, hq16, hp16⟩ := hu16.slice; have hB16 := hB15.trans (hb16.mono hB15.size); have hD16 := hD15.trans (hb16.mono hD15.size); have hG16 := hG15.trans (hb16.mono hG15.size); have hM16 := Below.refl w16.heap.size w16)
        | (go_at_call 15; with_reducible refine (rpmul_any a0 a0 n0 c0 n0 c0 l0 l0 w16 (hA4.below hB16) (hA4.below hB16) hk4 hk4).mono ?_; rintro e w17 ⟨⟨v17, r17, rfl, hv17, hn17⟩, hb17⟩; obtain ⟨s17, t17, rfl, ht17, hw17⟩ := hv17.slice; have hc17 := hv17.cap0; have hB17 := hB16.trans (hb17.mono hB16.size); have hD17 := hD16.trans (hb17.mono hD16.size); have hG17 := hG16.trans (hb17.mono hG16.size); have hM17 := hM16.trans (hb17.mono hM16.size); have hl17 := Nat.le_trans (hsqlen r17 hn17) (show 48 ≤ 68719476736 by omega); have HQ := Lib.hid (hsq r17 hn17))
        | (go_at_call 32; with_reducible refine (rdivide_any s17 a1 r17.length t17 n1 c1 r17 l1 w17 hw17 (hE4.below hB17) ht17 m1 hc17 z1 hl17 hk5 hz).mono ?_; rintro e w18 ⟨⟨v18, u18, rfl, hv18, hu18⟩, hb18⟩; obtain ⟨s18, t18, rfl, ht18, hw18⟩ := hv18.slice; obtain ⟨p18, q18, rfl, hq18, hp18⟩ := hu18.slice; have hB18 := hB17.trans (hb18.mono hB17.size); have hD18 := hD17.trans (hb18.mono hD17.size); have hG18 := hG17.trans (hb18.mono hG17.size); have hM18 := hM17.trans (hb18.mono hM17.size))
        | (go_at_call 13; with_reducible refine (words_same s5 s16 _ t5 _ t16 (Po.qr l0 l1).1 (Po.qr l0 l1).1 w18 (hw5.below hD18) (hw16.below hM18) rfl).mono ?_; rintro e w19 ⟨rfl, hd19⟩; have hb19 := hd19.below w18.heap.size; have hB19 := hB18.trans (hb19.mono hB18.size); have hD19 := hD18.trans (hb19.mono hD18.size); have hG19 := hG18.trans (hb19.mono hG18.size); have hM19 := hM18.trans (hb19.mono hM18.size))
        | (go_at_call 13; with_reducible refine (words_same p5 p16 _ q5 _ q16 (Po.qr l0 l1).2 (Po.qr l0 l1).2 w19 (hp5.below hD19) (hp16.below hM19) rfl).mono ?_; rintro e w20 ⟨rfl, hd20⟩; have hb20 := hd20.below w19.heap.size; have hB20 := hB19.trans (hb20.mono hB19.size); have hD20 := hD19.trans (hb20.mono hD19.size); have hG20 := hG19.trans (hb20.mono hG19.size))
        | (go_at_call 13; with_reducible refine (words_same s6 p18 _ t6 _ q18 (Po.qr (Po.sqL l0) l1).2 (Po.qr r17 l1).2 w20 (hw6.below hG20) ((hp18.below hb19).below hb20) HQ.out).mono ?_; rintro e w21 ⟨rfl, hd21⟩; have hb21 := hd21.below w20.heap.size; have hB21 := hB20.trans (hb21.mono hB20.size)))
      go_ret
      have hw4 : Below W.heap.size W w4 := ((hb1.alloc hb1.size _).trans (hb3.mono (by simp; exact Nat.le_succ_of_le hb1.size))).trans (hb4.mono (Nat.le_trans (Nat.le_succ_of_le hb1.size) (by have := hb3.size; simpa using this)))
      exact ⟨rfl, hw4.trans (hB21.mono hw4.size)⟩
end Go.Proofs.Ytpemaglajhlghaa
