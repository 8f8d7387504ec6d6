/- PolySums -/
import Derived.Test.YtpemaglajhlghaaRows
import Derived.Test.YtpemaglajhlghaaPoE
namespace Go.Proofs.Ytpemaglajhlghaa
open Go Go.RowKit Go.ChangeShapes Go.WideShapes
set_option maxHeartbeats 4000000 in
set_option maxRecDepth 100000 in
theorem polySumsWalk {H : Type} {enc : TypeId × Value → H} (W : World) (base : Nat) (v0 : Value) (d0 : DataW H) (p0 : List MemPlace) (v1 : Value) (d1 : DataW H) (p1 : List MemPlace) (v2 : Value) (d2 : DataW H) (p2 : List MemPlace)
    (o0 : Value.okWide Try.prog W .any base 22 v0) (o1 : Value.okWide Try.prog W .any base 22 v1) (o2 : Value.okWide Try.prog W .any base 23 v2)
    (h0 : DataW.Trod enc Try.prog W 0 (fun _ => true) true 22 v0 d0 p0) (h1 : DataW.Trod enc Try.prog W 0 (fun _ => true) true 22 v1 d1 p1) (h2 : DataW.Trod enc Try.prog W 0 (fun _ => true) true 23 v2 d2 p2) :
    Calls Try.prog 3 #[v0, v1, v2] W fun e w' => e = .returned (.bool true) ∧ Below W.heap.size W w' := by
  obtain ⟨a0, n0, c0, l0, rfl, w0, m0, z0⟩ := arg_wordsc Try.underlying22 Try.underlying23 (by kernel_rfl) o0 h0
  obtain ⟨a1, n1, c1, l1, rfl, w1, m1, z1⟩ := arg_wordsc Try.underlying22 Try.underlying23 (by kernel_rfl) o1 h1
  obtain ⟨a2, rfl⟩ := arg_u32 Try.underlying23 o2 h2
  rename Words32 W a1 n1 l1 => w1'
  have hla := w0.1
  have hlb := w1'.1
  by_cases hlong : 24 < n0 ∨ 24 < n1
  · have HL := Lib.hid hlong
    clear hlong
    go_enter Try.func3, Try.ntmps3
    go_wp2_with (first
      | (go_at_call 8; refine (alive_any _).mono ?_; rintro e w1 ⟨rfl, hb1⟩)
      | (go_at_call 9; refine (long_any _ _ _ _ _ _ _ _ (rows_two w1 a0 a1 n0 c0 n1 c1 l0 l1 (w0.below hb1) (w1'.below hb1) m0 m1 22) true (long_yes HL.out)).mono ?_; rintro e w2 ⟨rfl, rfl⟩))
    go_ret
    exact ⟨rfl, hb1.alloc hb1.size _⟩
  · have hn0 : n0 ≤ 24 := by omega
    have hn1 : n1 ≤ 24 := by omega
    have hk0 : n0 ≤ 1099511627776 := by omega
    have hk1 : n1 ≤ 1099511627776 := by omega
    have hkp : n0 + n1 ≤ 549755813888 := by omega
    have hk2 : n0 ≤ 274877906944 := by omega
    have hk3 : n1 ≤ 274877906944 := by omega
    have hk4 : n0 ≤ 68719476736 := by omega
    have hk5 : n1 ≤ 68719476736 := by omega
    have hk6 : n0 ≤ 549755813888 := by omega
    have hder : Po.trim (Po.mk n0 (Po.dvK (Po.cf l0) n0)) = Po.derL l0 := by rw [Po.derL, hla]
    have htl := Po.trim_length l0
    have hle := Po.len1_le l0
    have hl24 : Po.len1 l0 ≤ 24 := by omega
    have hb0 : n0 ≤ 549755813888 := by omega
    have hb1' : n1 ≤ 549755813888 := by omega
    go_enter Try.func3, Try.ntmps3
    go_wp2_with (first
      | (go_at_call 8; refine (alive_any _).mono ?_; rintro e w1 ⟨rfl, hb1⟩)
      | (go_at_call 9; refine (long_any _ _ _ _ _ _ _ _ (rows_two w1 a0 a1 n0 c0 n1 c1 l0 l1 (w0.below hb1) (w1'.below hb1) m0 m1 22) false (long_no hn0 hn1)).mono ?_; rintro e w2 ⟨rfl, rfl⟩)
      | (go_at_call 10; with_reducible refine (own_any a0 n0 c0 l0 _ ((w0.below hb1).past _) z0 hb0).mono ?_; rintro e w3 ⟨⟨v3, rfl, hv3⟩, hb3⟩; have hf3 := hv3.fresh; rw [OwnW] at hv3; obtain ⟨ca, cc, rfl, hcc, hcw⟩ := hf3.slice; rw [hla] at hcc hcw)
      | (go_at_call 10; with_reducible refine (own_any a1 n1 c1 l1 _ (((w1'.below hb1).past _).below hb3) z1 hb1').mono ?_; rintro e w4 ⟨⟨v4, rfl, hv4⟩, hb4⟩; have hf4 := hv4.fresh; obtain ⟨da, dc, rfl, hdc, hdw⟩ := hf4.slice; rw [hlb] at hdc hdw; have hA4 : Words32 w4 a0 n0 l0 := (((w0.below hb1).past _).below hb3).below hb4; have hE4 : Words32 w4 a1 n1 l1 := (((w1'.below hb1).past _).below hb3).below hb4; have hC4 := hcw.below hb4; have hB4 := Below.refl w4.heap.size w4)
      | (go_at_call 11; refine (add_any _ 2 2 (two ca da) (two n0 n1) (two cc dc) (two l0 l1) _ (rows_two w4 ca da n0 cc n1 dc l0 l1 hC4 hdw hcc hdc 22) (two_le hk0 hk1)).mono ?_; rintro e w5 ⟨⟨v5, rfl, hv5⟩, hb5⟩; change Fresh _ _ _ _ (Po.addL l0 l1) at hv5; obtain ⟨s5, t5, rfl, ht5, hw5⟩ := hv5.slice; have hb5 := ((Below.refl w4.heap.size w4).alloc (Nat.le_refl _) _).trans (hb5.mono (by simp)); have hB5 := hB4.trans (hb5.mono hB4.size); have hD5 := Below.refl w5.heap.size w5)
      | (go_at_call 12; with_reducible refine (pmul_any ca da n0 cc n1 dc l0 l1 w5 (hC4.below hB5) (hdw.below hB5) hcc hdc hkp).mono ?_; rintro e w6 ⟨⟨v6, rfl, hv6⟩, hb6⟩; obtain ⟨s6, t6, rfl, ht6, hw6⟩ := hv6.slice; have hB6 := hB5.trans (hb6.mono hB5.size); have hD6 := hD5.trans (hb6.mono hD5.size))
      | (go_at_call 14; with_reducible refine (radd_any a0 a1 n0 c0 n1 c1 l0 l1 w6 (hA4.below hB6) (hE4.below hB6) hk2 hk3).mono ?_; rintro e w7 ⟨⟨v7, r7, rfl, hv7, hn7⟩, hb7⟩; obtain ⟨s7, t7, rfl, ht7, hw7⟩ := hv7.slice; have hB7 := hB6.trans (hb7.mono hB6.size); have hD7 := hD6.trans (hb7.mono hD6.size))
      | (go_at_call 13; with_reducible refine (words_same s5 s7 _ t5 _ t7 (Po.addL l0 l1) r7 w7 (hw5.below hD7) hw7 ((Po.addL_norm l0 l1).unique hn7)).mono ?_; rintro e w8 ⟨rfl, hd8⟩; have hb8 := hd8.below w7.heap.size; have hB8 := hB7.trans (hb8.mono hB7.size); have hD8 := hD7.trans (hb8.mono hD7.size))
      | (go_at_call 15; with_reducible refine (rpmul_any a0 a1 n0 c0 n1 c1 l0 l1 w8 (hA4.below hB8) (hE4.below hB8) hk4 hk5).mono ?_; rintro e w9 ⟨⟨v9, r9, rfl, hv9, hn9⟩, hb9⟩; obtain ⟨s9, t9, rfl, ht9, hw9⟩ := hv9.slice; have hB9 := hB8.trans (hb9.mono hB8.size); have hD9 := hD8.trans (hb9.mono hD8.size))
      | (go_at_call 13; with_reducible refine (words_same s6 s9 _ t6 _ t9 (Po.mulR l0 l1) r9 w9 (((hw6.below hb7).below hb8).below hb9) hw9 ((Po.mulR_norm l0 l1).unique hn9)).mono ?_; rintro e w10 ⟨rfl, hd10⟩; have hb10 := hd10.below w9.heap.size; have hB10 := hB9.trans (hb10.mono hB9.size); have hD10 := hD9.trans (hb10.mono hD9.size))
      | (go_at_call 16; with_reducible refine (scale_any ca n0 cc l0 a2 w10 (hC4.below hB10) hcc hk2).mono ?_; rintro e w11 ⟨⟨v11, rfl, hv11⟩, hb11⟩; obtain ⟨s11, t11, rfl, ht11, hw11⟩ := hv11.slice; have hB11 := hB10.trans (hb11.mono hB10.size); have hD11 := hD10.trans (hb11.mono hD10.size))
      | (go_at_call 17; with_reducible refine (rscale0_any a0 n0 c0 l0 a2 w11 (hA4.below hB11) hk2).mono ?_; rintro e w12 ⟨⟨v12, r12, rfl, hv12, hn12⟩, hb12⟩; obtain ⟨s12, t12, rfl, ht12, hw12⟩ := hv12.slice; have hB12 := hB11.trans (hb12.mono hB11.size); have hD12 := hD11.trans (hb12.mono hD11.size))
      | (go_at_call 13; with_reducible refine (words_same s11 s12 _ t11 _ t12 (Po.mulR l0 [a2]) r12 w12 (hw11.below hb12) hw12 ((Po.scale_norm l0 a2).unique hn12)).mono ?_; rintro e w13 ⟨rfl, hd13⟩; have hb13 := hd13.below w12.heap.size; have hB13 := hB12.trans (hb13.mono hB12.size); have hD13 := hD12.trans (hb13.mono hD12.size))
      | (go_at_call 18; with_reducible refine (at_any ca n0 cc l0 a2 w13 (hC4.below hB13)).mono ?_; rintro e w14 ⟨rfl, hb14⟩; have hB14 := hB13.trans (hb14.mono hB13.size); have hD14 := hD13.trans (hb14.mono hD13.size))
      | (go_at_call 19; with_reducible refine (rat_any a0 n0 c0 l0 a2 w14 (hA4.below hB14) hk2).mono ?_; rintro e w15 ⟨rfl, hd15⟩; have hb15 := hd15.below w14.heap.size; have hB15 := hB14.trans (hb15.mono hB14.size); have hD15 := hD14.trans (hb15.mono hD14.size))
      | (go_at_call 20; with_reducible refine (derived_any ca n0 cc l0 w15 (hC4.below hB15) hk0).mono ?_; rintro e w16 ⟨⟨v16, rfl, hv16⟩, hb16⟩; rw [hder] at hv16; obtain ⟨s16, t16, rfl, ht16, hw16⟩ := hv16.slice; have hB16 := hB15.trans (hb16.mono hB15.size); have hD16 := hD15.trans (hb16.mono hD15.size))
      | (go_at_call 21; with_reducible refine (rderived_any a0 n0 c0 l0 w16 (hA4.below hB16) hk2).mono ?_; rintro e w17 ⟨⟨v17, r17, rfl, hv17, hn17⟩, hb17⟩; obtain ⟨s17, t17, rfl, ht17, hw17⟩ := hv17.slice; have hB17 := hB16.trans (hb17.mono hB16.size); have hD17 := hD16.trans (hb17.mono hD16.size))
      | (go_at_call 13; with_reducible refine (words_same s16 s17 _ t16 _ t17 (Po.derL l0) r17 w17 (hw16.below hb17) hw17 ((Po.derL_norm l0).unique hn17)).mono ?_; rintro e w18 ⟨rfl, hd18⟩; have hb18 := hd18.below w17.heap.size; have hB18 := hB17.trans (hb18.mono hB17.size); have hD18 := hD17.trans (hb18.mono hD17.size))
      | (go_at_call 22; with_reducible refine (trim_any ca n0 cc l0 w18 (hC4.below hB18) hk0).mono ?_; rintro e w19 ⟨⟨v19, rfl, hv19⟩, hb19⟩; obtain ⟨s19, t19, rfl, ht19, hw19⟩ := hv19.slice; have hB19 := hB18.trans (hb19.mono hB18.size); rw [htl] at hw19; have hD19 := hD18.trans (hb19.mono hD18.size))
      | (go_at_call 23; with_reducible refine (rtrim_any a0 n0 c0 l0 w19 (hA4.below hB19) m0 z0 hk6).mono ?_; rintro e w20 ⟨⟨v20, rfl, hv20⟩, hb20⟩; obtain ⟨s20, t20, rfl, ht20, hw20⟩ := hv20.slice; have hB20 := hB19.trans (hb20.mono hB19.size); rw [htl] at hw20; have hD20 := hD19.trans (hb20.mono hD19.size))
      | (go_at_call 13; with_reducible refine (words_same s19 s20 _ t19 _ t20 (Po.trim l0) (Po.trim l0) w20 (hw19.below hb20) hw20 rfl).mono ?_; rintro e w21 ⟨rfl, hd21⟩; have hb21 := hd21.below w20.heap.size; have hB21 := hB20.trans (hb21.mono hB20.size); have hD21 := hD20.trans (hb21.mono hD20.size))
      | (go_at_call 24; with_reducible refine (pdegree_any ca n0 cc l0 w21 (hC4.below hB21)).mono ?_; rintro e w22 ⟨rfl, hb22⟩; have hB22 := hB21.trans (hb22.mono hB21.size); have hD22 := hD21.trans (hb22.mono hD21.size))
      | (go_at_call 23; with_reducible refine (rtrim_any a0 n0 c0 l0 w22 (hA4.below hB22) m0 z0 hk6).mono ?_; rintro e w23 ⟨⟨v23, rfl, hv23⟩, hb23⟩; obtain ⟨s23, t23, rfl, ht23, hw23⟩ := hv23.slice; have hB23 := hB22.trans (hb23.mono hB22.size); rw [htl] at hw23; have hD23 := hD22.trans (hb23.mono hD22.size))
      | (go_at_call 22; with_reducible refine (trim_any ca n0 cc l0 w23 (hC4.below hB23) hk0).mono ?_; rintro e w24 ⟨⟨v24, rfl, hv24⟩, hb24⟩; obtain ⟨s24, t24, rfl, ht24, hw24⟩ := hv24.slice; have hB24 := hB23.trans (hb24.mono hB23.size); rw [htl] at hw24; have hD24 := hD23.trans (hb24.mono hD23.size)))
    have hbuf24 : Buf 23 w23.heap.size w24 s24 (Po.len1 l0) := by have := hv24.buf; rwa [htl] at this
    have hbuf5 : Buf 23 w4.heap.size w23 s5 (Po.addL l0 l1).length := ((hv5.low (B' := w4.heap.size) (by simp)).buf).below hD23
    have hw4 : Below W.heap.size W w4 := ((hb1.alloc hb1.size _).trans (hb3.mono (by simp; exact Nat.le_succ_of_le hb1.size))).trans (hb4.mono (Nat.le_trans (Nat.le_succ_of_le hb1.size) (by have := hb3.size; simpa using this)))
    have HW := Lib.hid hw4
    clear hw4
    go_loopw [89] (fun i wr => ∃ k : Nat, k ≤ Po.len1 l0 ∧ i = .int .i64 k ∧ Buf 23 w23.heap.size wr s24 (Po.len1 l0) ∧ Below w23.heap.size w23 wr) (fun i _ => Po.len1 l0 - (intOf i).toNat)
    case atStart => exact ⟨0, Nat.zero_le _, rfl, hbuf24, hb24⟩
    case round =>
      obtain ⟨k, hk, rfl, hbf, hbe⟩ := hrel
      by_cases hlt : k < Po.len1 l0
      · obtain ⟨g, cs, rfl, hg, hh, hn⟩ := hbf.open hlt
        have hcell := hh.cell_at (i := k) (v := cs[k]) (Array.getElem?_eq_getElem (by omega))
        have hfree := hh.loose k
        go_wp2
        go_roundw
        case rel => exact ⟨k + 1, by omega, by go_num, Buf.put hg hh hn k _, hbe.setCell (p := ⟨g, k, none⟩) hg _⟩
        case measure => simp [intOf]; omega
      · obtain rfl : k = Po.len1 l0 := by omega
        go_wp2
        have hbuf5' := hbuf5.below hbe
        have hBe : Below w4.heap.size w4 wr := hB23.trans (hbe.mono hB23.size)
        go_loopw [98] (fun i wr => ∃ k : Nat, k ≤ (Po.addL l0 l1).length ∧ i = .int .i64 k ∧ Buf 23 w4.heap.size wr s5 (Po.addL l0 l1).length ∧ Below w4.heap.size w4 wr) (fun i _ => (Po.addL l0 l1).length - (intOf i).toNat)
        case atStart => exact ⟨0, Nat.zero_le _, rfl, hbuf5', hBe⟩
        case round =>
          obtain ⟨j, hj, rfl, hbf2, hbe2⟩ := hrel
          by_cases hlt2 : j < (Po.addL l0 l1).length
          · obtain ⟨g, cs, rfl, hg, hh, hn⟩ := hbf2.open hlt2
            have hcell := hh.cell_at (i := j) (v := cs[j]) (Array.getElem?_eq_getElem (by omega))
            have hfree := hh.loose j
            have hadd : (Po.addL l0 l1).length ≤ 24 := (Po.addL_norm l0 l1).len fun i hi => by
              show Po.cf l0 i ^^^ Po.cf l1 i = 0
              rw [Po.cf_ge (by omega), Po.cf_ge (by omega)]; rfl
            go_wp2
            go_roundw
            case rel => exact ⟨j + 1, by omega, by go_num, Buf.put hg hh hn j _, hbe2.setCell (p := ⟨g, j, none⟩) hg _⟩
            case measure => simp [intOf]; omega
          · obtain rfl : j = (Po.addL l0 l1).length := by omega
            go_wp2_with (first
              | (go_at_call 13; with_reducible refine (words_same ca a0 n0 cc n0 c0 l0 l0 _ (hC4.below hbe2) (hA4.below hbe2) rfl).mono ?_; rintro e w31 ⟨rfl, hd31⟩; have hB31 := hbe2.trans (hd31.below _))
              | (go_at_call 13; with_reducible refine (words_same da a1 n1 dc n1 c1 l1 l1 _ (hdw.below hB31) (hE4.below hB31) rfl).mono ?_; rintro e w32 ⟨rfl, hd32⟩))
            go_ret
            have hB32 := hB31.trans (hd32.below _)
            exact ⟨rfl, HW.out.trans (hB32.mono HW.out.size)⟩
end Go.Proofs.Ytpemaglajhlghaa
