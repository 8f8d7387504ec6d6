/- PolyValues -/
import Derived.Test.YtpemaglajhlghaaRows
import Derived.Test.YtpemaglajhlghaaPoC
namespace Go.Proofs.Ytpemaglajhlghaa
open Go Go.RowKit Go.ChangeShapes Go.WideShapes
set_option maxHeartbeats 4000000 in
set_option maxRecDepth 100000 in
theorem polyValuesWalk {H : Type} {enc : TypeId × Value → H} (W : World) (base : Nat) (v0 : Value) (d0 : DataW H) (p0 : List MemPlace) (v1 : Value) (d1 : DataW H) (p1 : List MemPlace) (v2 : Value) (d2 : DataW H) (p2 : List MemPlace)
    (o0 : Value.okWide Try.prog W .any base 22 v0) (o1 : Value.okWide Try.prog W .any base 22 v1) (o2 : Value.okWide Try.prog W .any base 23 v2)
    (h0 : DataW.Trod enc Try.prog W 0 (fun _ => true) true 22 v0 d0 p0) (h1 : DataW.Trod enc Try.prog W 0 (fun _ => true) true 22 v1 d1 p1) (h2 : DataW.Trod enc Try.prog W 0 (fun _ => true) true 23 v2 d2 p2) :
    Calls Try.prog 5 #[v0, v1, v2] W fun e w' => e = .returned (.bool true) ∧ Below W.heap.size W w' := by
  obtain ⟨a0, n0, c0, l0, rfl, w0, m0, z0⟩ := arg_wordsc Try.underlying22 Try.underlying23 (by kernel_rfl) o0 h0
  obtain ⟨a1, n1, c1, l1, rfl, w1, m1, z1⟩ := arg_wordsc Try.underlying22 Try.underlying23 (by kernel_rfl) o1 h1
  obtain ⟨a2, rfl⟩ := arg_u32 Try.underlying23 o2 h2
  rename Words32 W a1 n1 l1 => w1'
  have hla := w0.1
  have hlb := w1'.1
  by_cases hlong : 24 < n0 ∨ 24 < n1
  · have HL := Lib.hid hlong
    clear hlong
    go_enter Try.func5, Try.ntmps5
    go_wp2_with (first
      | (go_at_call 8; refine (alive_any _).mono ?_; rintro e w1 ⟨rfl, hb1⟩)
      | (go_at_call 9; refine (long_any _ _ _ _ _ _ _ _ (rows_two w1 a0 a1 n0 c0 n1 c1 l0 l1 (w0.below hb1) (w1'.below hb1) m0 m1 22) true (long_yes HL.out)).mono ?_; rintro e w2 ⟨rfl, rfl⟩))
    go_ret
    exact ⟨rfl, hb1.alloc hb1.size _⟩
  · have hn0 : n0 ≤ 24 := by omega
    have hn1 : n1 ≤ 24 := by omega
    have hk0 : n0 ≤ 1099511627776 := by omega
    have hk1 : n1 ≤ 1099511627776 := by omega
    have hkp : n0 + n1 ≤ 549755813888 := by omega
    have htl := Po.trim_length l0
    have hE1 : Po.ev (Po.addL l0 l1) a2 = Po.ev l0 a2 ^^^ Po.ev l1 a2 := Po.ev_add (Po.addL_norm l0 l1).2 a2
    have hE2 : Po.ev (Po.mulR l0 l1) a2 = Gf.mul (Po.ev l0 a2) (Po.ev l1 a2) := Po.ev_mul (Po.cf_mulR l0 l1) a2
    by_cases hz : Po.len1 l1 = 0
    · have hlt : (Po.len1 l1 : Int) - 1 < 0 := by omega
      go_enter Try.func5, Try.ntmps5
      go_wp2_with (first
        | (go_at_call 8; refine (alive_any _).mono ?_; rintro e w1 ⟨rfl, hb1⟩)
        | (go_at_call 9; refine (long_any _ _ _ _ _ _ _ _ (rows_two w1 a0 a1 n0 c0 n1 c1 l0 l1 (w0.below hb1) (w1'.below hb1) m0 m1 22) false (long_no hn0 hn1)).mono ?_; rintro e w4 ⟨rfl, hq⟩; have hA4 : Words32 w4 a0 n0 l0 := (by rw [← hq]; exact (w0.below hb1).past _); have hE4 : Words32 w4 a1 n1 l1 := (by rw [← hq]; exact (w1'.below hb1).past _); have hw4 : Below W.heap.size W w4 := (by rw [← hq]; exact hb1.alloc hb1.size _); clear hq; have hB4 := Below.refl w4.heap.size w4)
        | (go_at_call 11; refine (add_any _ 2 2 (two a0 a1) (two n0 n1) (two c0 c1) (two l0 l1) _ (rows_two w4 a0 a1 n0 c0 n1 c1 l0 l1 hA4 hE4 m0 m1 22) (two_le hk0 hk1)).mono ?_; rintro e w5 ⟨⟨v5, rfl, hv5⟩, hb5⟩; change Fresh _ _ _ _ (Po.addL l0 l1) at hv5; obtain ⟨s5, t5, rfl, ht5, hw5⟩ := hv5.slice; have hb5 := ((Below.refl w4.heap.size w4).alloc (Nat.le_refl _) _).trans (hb5.mono (by simp)); have hB5 := hB4.trans (hb5.mono hB4.size))
        | (go_at_call 18; with_reducible refine (at_any s5 _ t5 (Po.addL l0 l1) a2 w5 hw5).mono ?_; rintro e w6 ⟨rfl, hb6⟩; have hB6 := hB5.trans (hb6.mono hB5.size))
        | (go_at_call 18; with_reducible refine (at_any a0 n0 c0 l0 a2 w6 (hA4.below hB6)).mono ?_; rintro e w7 ⟨rfl, hb7⟩; have hB7 := hB6.trans (hb7.mono hB6.size))
        | (go_at_call 18; with_reducible refine (at_any a1 n1 c1 l1 a2 w7 (hE4.below hB7)).mono ?_; rintro e w8 ⟨rfl, hb8⟩; have hB8 := hB7.trans (hb8.mono hB7.size))
        | (go_at_call 12; with_reducible refine (pmul_any a0 a1 n0 c0 n1 c1 l0 l1 w8 (hA4.below hB8) (hE4.below hB8) m0 m1 hkp).mono ?_; rintro e w9 ⟨⟨v9, rfl, hv9⟩, hb9⟩; obtain ⟨s9, t9, rfl, ht9, hw9⟩ := hv9.slice; have hB9 := hB8.trans (hb9.mono hB8.size))
        | (go_at_call 18; with_reducible refine (at_any s9 _ t9 (Po.mulR l0 l1) a2 w9 hw9).mono ?_; rintro e w10 ⟨rfl, hb10⟩; have hB10 := hB9.trans (hb10.mono hB9.size))
        | (go_at_call 18; with_reducible refine (at_any a0 n0 c0 l0 a2 w10 (hA4.below hB10)).mono ?_; rintro e w11 ⟨rfl, hb11⟩; have hB11 := hB10.trans (hb11.mono hB10.size))
        | (go_at_call 18; with_reducible refine (at_any a1 n1 c1 l1 a2 w11 (hE4.below hB11)).mono ?_; rintro e w12 ⟨rfl, hb12⟩; have hB12 := hB11.trans (hb12.mono hB11.size))
        | (go_at_call 33; refine (mul_any _ _ _).mono ?_; rintro e w' ⟨rfl, rfl⟩)
        | (go_at_call 25; with_reducible refine (pdiv0_any a0 a1 n0 c0 n1 c1 l1 w12 (hE4.below hB12) hz).mono ?_; rintro e w13 ⟨rfl, hb13⟩; unfold errRange; have hB13 := hB12.trans (hb13.mono hB12.size))
        | (go_at_call 24; with_reducible refine (pdegree_any a1 n1 c1 l1 w13 (hE4.below hB13)).mono ?_; rintro e w14 ⟨rfl, hb14⟩; have hB14 := hB13.trans (hb14.mono hB13.size)))
      go_ret
      exact ⟨rfl, hw4.trans (hB14.mono hw4.size)⟩
    · obtain ⟨hq1, hq2⟩ := Po.qr_len l0 hz
      have hspec := Po.qr_spec l0 hz
      have hlt : (Po.len1 (Po.qr l0 l1).2 : Int) - 1 < (Po.len1 l1 : Int) - 1 := by have := hspec.lt; omega
      have hle := Po.len1_le l0
      have hle1 := Po.len1_le l1
      have hkq : (Po.qr l0 l1).1.length + n1 ≤ 549755813888 := by omega
      have hkr : (Po.qr l0 l1).2.length ≤ 1099511627776 := by omega
      have hkm : (Po.mulR (Po.qr l0 l1).1 l1).length ≤ 1099511627776 := by
        have h1 := (Po.mulR_norm (Po.qr l0 l1).1 l1).len (n := (Po.qr l0 l1).1.length + n1) (fun i hi => Po.mulL_ge _ _ n1 (fun i hi => Po.cf_ge (by omega)) i (by omega))
        omega
      have hback := Lib.hid (Po.qr_back l0 hz)
      clear hspec
      go_enter Try.func5, Try.ntmps5
      go_wp2_with (first
        | (go_at_call 8; refine (alive_any _).mono ?_; rintro e w1 ⟨rfl, hb1⟩)
        | (go_at_call 9; refine (long_any _ _ _ _ _ _ _ _ (rows_two w1 a0 a1 n0 c0 n1 c1 l0 l1 (w0.below hb1) (w1'.below hb1) m0 m1 22) false (long_no hn0 hn1)).mono ?_; rintro e w4 ⟨rfl, hq⟩; have hA4 : Words32 w4 a0 n0 l0 := (by rw [← hq]; exact (w0.below hb1).past _); have hE4 : Words32 w4 a1 n1 l1 := (by rw [← hq]; exact (w1'.below hb1).past _); have hw4 : Below W.heap.size W w4 := (by rw [← hq]; exact hb1.alloc hb1.size _); clear hq; have hB4 := Below.refl w4.heap.size w4)
        | (go_at_call 11; refine (add_any _ 2 2 (two s14 p13) (two (Po.mulR (Po.qr l0 l1).1 l1).length (Po.qr l0 l1).2.length) (two t14 q13) (two (Po.mulR (Po.qr l0 l1).1 l1) (Po.qr l0 l1).2) _ (rows_two w14 s14 p13 _ t14 _ q13 _ _ hw14 (hp13.below hb14) ht14 hq13 22) (two_le hkm hkr)).mono ?_; rintro e w15 ⟨⟨v15, rfl, hv15⟩, hb15⟩; change Fresh _ _ _ _ (Po.addL (Po.mulR (Po.qr l0 l1).1 l1) (Po.qr l0 l1).2) at hv15; obtain ⟨s15, t15, rfl, ht15, hw15⟩ := hv15.slice; have hb15 := ((Below.refl w14.heap.size w14).alloc (Nat.le_refl _) _).trans (hb15.mono (by simp)); have hB15 := hB14.trans (hb15.mono hB14.size))
        | (go_at_call 11; refine (add_any _ 2 2 (two a0 a1) (two n0 n1) (two c0 c1) (two l0 l1) _ (rows_two w4 a0 a1 n0 c0 n1 c1 l0 l1 hA4 hE4 m0 m1 22) (two_le hk0 hk1)).mono ?_; rintro e w5 ⟨⟨v5, rfl, hv5⟩, hb5⟩; change Fresh _ _ _ _ (Po.addL l0 l1) at hv5; obtain ⟨s5, t5, rfl, ht5, hw5⟩ := hv5.slice; have hb5 := ((Below.refl w4.heap.size w4).alloc (Nat.le_refl _) _).trans (hb5.mono (by simp)); have hB5 := hB4.trans (hb5.mono hB4.size))
        | (go_at_call 18; with_reducible refine (at_any s5 _ t5 (Po.addL l0 l1) a2 w5 hw5).mono ?_; rintro e w6 ⟨rfl, hb6⟩; have hB6 := hB5.trans (hb6.mono hB5.size))
        | (go_at_call 18; with_reducible refine (at_any a0 n0 c0 l0 a2 w6 (hA4.below hB6)).mono ?_; rintro e w7 ⟨rfl, hb7⟩; have hB7 := hB6.trans (hb7.mono hB6.size))
        | (go_at_call 18; with_reducible refine (at_any a1 n1 c1 l1 a2 w7 (hE4.below hB7)).mono ?_; rintro e w8 ⟨rfl, hb8⟩; have hB8 := hB7.trans (hb8.mono hB7.size))
        | (go_at_call 12; with_reducible refine (pmul_any a0 a1 n0 c0 n1 c1 l0 l1 w8 (hA4.below hB8) (hE4.below hB8) m0 m1 hkp).mono ?_; rintro e w9 ⟨⟨v9, rfl, hv9⟩, hb9⟩; obtain ⟨s9, t9, rfl, ht9, hw9⟩ := hv9.slice; have hB9 := hB8.trans (hb9.mono hB8.size))
        | (go_at_call 18; with_reducible refine (at_any s9 _ t9 (Po.mulR l0 l1) a2 w9 hw9).mono ?_; rintro e w10 ⟨rfl, hb10⟩; have hB10 := hB9.trans (hb10.mono hB9.size))
        | (go_at_call 18; with_reducible refine (at_any a0 n0 c0 l0 a2 w10 (hA4.below hB10)).mono ?_; rintro e w11 ⟨rfl, hb11⟩; have hB11 := hB10.trans (hb11.mono hB10.size))
        | (go_at_call 18; with_reducible refine (at_any a1 n1 c1 l1 a2 w11 (hE4.below hB11)).mono ?_; rintro e w12 ⟨rfl, hb12⟩; have hB12 := hB11.trans (hb12.mono hB11.size))
        | (go_at_call 33; refine (mul_any _ _ _).mono ?_; rintro e w' ⟨rfl, rfl⟩)
        | (go_at_call 25; with_reducible refine (pdiv_any a0 a1 n0 c0 n1 c1 l0 l1 w12 (hA4.below hB12) (hE4.below hB12) m1 hk0 hk1 hz).mono ?_; rintro e w13 ⟨⟨v13, u13, rfl, hv13, hu13⟩, hb13⟩; obtain ⟨s13, t13, rfl, ht13, hw13⟩ := hv13.slice; obtain ⟨p13, q13, rfl, hq13, hp13⟩ := hu13.slice; have hB13 := hB12.trans (hb13.mono hB12.size))
        | (go_at_call 12; with_reducible refine (pmul_any s13 a1 _ t13 n1 c1 (Po.qr l0 l1).1 l1 w13 hw13 (hE4.below hB13) ht13 m1 hkq).mono ?_; rintro e w14 ⟨⟨v14, rfl, hv14⟩, hb14⟩; obtain ⟨s14, t14, rfl, ht14, hw14⟩ := hv14.slice; have hB14 := hB13.trans (hb14.mono hB13.size))
        | (go_at_call 22; with_reducible refine (trim_any a0 n0 c0 l0 w15 (hA4.below hB15) hk0).mono ?_; rintro e w16 ⟨⟨v16, rfl, hv16⟩, hb16⟩; obtain ⟨s16, t16, rfl, ht16, hw16⟩ := hv16.slice; have hB16 := hB15.trans (hb16.mono hB15.size); rw [htl] at hw16)
        | (go_at_call 13; with_reducible refine (words_same s15 s16 _ t15 _ t16 _ (Po.trim l0) w16 (hw15.below hb16) hw16 hback.out).mono ?_; rintro e w17 ⟨rfl, hd17⟩; have hb17 := hd17.below w16.heap.size; have hB17 := hB16.trans (hb17.mono hB16.size))
        | (go_at_call 24; with_reducible refine (pdegree_any p13 _ q13 (Po.qr l0 l1).2 w17 ((((hp13.below hb14).below hb15).below hb16).below hb17)).mono ?_; rintro e w18 ⟨rfl, hb18⟩; have hB18 := hB17.trans (hb18.mono hB17.size))
        | (go_at_call 24; with_reducible refine (pdegree_any a1 n1 c1 l1 w18 (hE4.below hB18)).mono ?_; rintro e w19 ⟨rfl, hb19⟩; have hB19 := hB18.trans (hb19.mono hB18.size)))
      go_ret
      exact ⟨rfl, hw4.trans (hB19.mono hw4.size)⟩
end Go.Proofs.Ytpemaglajhlghaa
