/- RootsZero -/
import Derived.Test.YtlackhjlnoefcaaRoL2
namespace Go.Proofs.Ytlackhjlnoefcaa
open Go Go.RowKit Go.ChangeShapes Go.WideShapes
/-- what is left when factors are taken out: m of them since it had N coefficients at most -/
structure Po.Left (p R : List (BitVec 32)) (N m : Nat) : Prop where
  ne : Po.len1 R ≠ 0
  tr : Po.len1 R = R.length
  le : Po.len1 R + m ≤ N
  sub : ∀ a, Po.ev R a = 0 → Po.ev p a = 0
theorem Po.Left.start {p : List (BitVec 32)} (h : Po.len1 p ≠ 0) : Po.Left p (Po.trim p) (Po.len1 p) 0 :=
  ⟨by rw [Po.len1_trim]; exact h, by rw [Po.len1_trim, Po.trim_length], by rw [Po.len1_trim]; exact Nat.le_refl _, fun a ha => by rw [← ha]; exact (Po.ev_congr (Po.cf_trim p) a).symm⟩
theorem Po.Left.again {p R : List (BitVec 32)} {N m : Nat} (h : Po.Left p R N m) : Po.Left p R N 0 := ⟨h.ne, h.tr, by have := h.le; omega, h.sub⟩
theorem Po.lin_ne (x : BitVec 32) : Po.len1 [x, 1] ≠ 0 := by rw [Po.len1_lin]; omega
theorem Po.Left.rest {p R : List (BitVec 32)} {N m : Nat} (h : Po.Left p R N m) {x : BitVec 32} (hx : Po.ev R x = 0) : (Po.qr R [x, 1]).2 = [] ∧ Po.Left p (Po.qr R [x, 1]).1 N (m + 1) ∧ ∀ b, Po.ev R b ≠ 0 → Po.ev (Po.qr R [x, 1]).1 b ≠ 0 := by
  have hr := (Po.factor hx).rest (Po.lin_ne x)
  have hs := Po.qr_spec R (Po.lin_ne x)
  have he := hs.eq
  rw [hr, Po.cf_nil, Po.addF_zero] at he
  obtain ⟨h1, h2⟩ := Po.mul_ne he h.ne
  have hl := Po.len_mul he h1 h2
  rw [Po.len1_lin] at hl
  have hev : ∀ b, Po.ev R b = Gf.mul (x ^^^ b) (Po.ev (Po.qr R [x, 1]).1 b) := fun b => by rw [Po.ev_mul he, Po.ev_lin]
  have htl := Po.trim_length (Po.qr R [x, 1]).1
  rw [hs.tq] at htl
  refine ⟨hr, ⟨h2, htl.symm, by have := h.le; omega, fun a ha => h.sub a (by rw [hev, ha]; exact Gf.mul_zero _)⟩, fun b hb hq => hb (by rw [hev, hq]; exact Gf.mul_zero _)⟩
theorem Po.rest_pos {R : List (BitVec 32)} {x : BitVec 32} (hx : Po.ev R x ≠ 0) : 0 < (Po.qr R [x, 1]).2.length := by
  rcases Nat.eq_zero_or_pos (Po.qr R [x, 1]).2.length with h | h
  · exfalso
    have hs := Po.qr_spec R (Po.lin_ne x)
    have he := hs.eq
    rw [List.length_eq_zero_iff.1 h, Po.cf_nil, Po.addF_zero] at he
    apply hx
    rw [Po.ev_mul he, Po.ev_lin, BitVec.xor_self]
    exact Gf.zero_mul _
  · exact h
theorem Po.no_roots {R : List (BitVec 32)} (h : ∀ a, Po.ev R a ≠ 0) : (Po.rts R).length = 0 := by
  rcases Nat.eq_zero_or_pos (Po.rts R).length with h0 | h0
  · exact h0
  · exfalso
    obtain ⟨a, ha⟩ := List.length_pos_iff_exists_mem.1 h0
    exact h a (Po.rts_mem.1 ha)
set_option maxHeartbeats 4000000 in
set_option maxRecDepth 100000 in
theorem rootsZeroWalkK (K : RootsOk) {H : Type} {enc : TypeId × Value → H} (W : World) (base : Nat) (v0 : Value) (d0 : DataW H) (p0 : List MemPlace)
    (o0 : Value.okWide Try.prog W .any base 22 v0)
    (h0 : DataW.Trod enc Try.prog W 0 (fun _ => true) true 22 v0 d0 p0) :
    Calls Try.prog 6 #[v0] W fun e w' => e = .returned (.bool true) ∧ Below W.heap.size W w' := by
  obtain ⟨a0, n0, c0, l0, rfl, w0, m0, z0⟩ := arg_wordsc Try.underlying22 Try.underlying37 (by kernel_rfl) o0 h0
  have hl0 := w0.1
  have hle := Po.len1_le l0
  by_cases h14 : 14 < n0
  · have h14' : (14 : Int) < (n0 : Int) := by omega
    go_enter Try.func6, Try.ntmps6
    go_wp2_with (first
      | (go_at_call 8; refine (alive04 K _).mono ?_; rintro e w1 ⟨rfl, hb1⟩))
    go_ret
    exact ⟨rfl, hb1⟩
  · have h14' : ¬ (14 : Int) < (n0 : Int) := by omega
    have hn1k : n0 ≤ 1000 := by omega
    have hn11 : n0 ≤ 1099511627776 := by omega
    by_cases h0 : Po.len1 l0 = 0
    · have hnf : ¬ Po.Fits l0 := fun h => h.1 h0
      have hdg : (Po.len1 l0 : Int) - 1 < 0 := by omega
      go_enter Try.func6, Try.ntmps6
      go_wp2_with (first
        | (go_at_call 26; refine (pdegree_any a0 n0 c0 l0 w2 (w0.below hB2)).mono ?_; rintro e w3 ⟨rfl, hb3⟩)
        | (go_at_call 9; refine (K.all_no a0 n0 c0 l0 w1 (w0.below hb1) m0 z0 hn1k hnf).mono ?_; rintro e w2 ⟨⟨la, lc, rfl⟩, hb2⟩; have hB2 := hb1.trans (hb2.mono hb1.size); unfold errRange)
        | (go_at_call 8; refine (alive04 K _).mono ?_; rintro e w1 ⟨rfl, hb1⟩))
      go_ret
      exact ⟨rfl, hB2.trans (hb3.mono hB2.size)⟩
    · have hft : Po.Fits l0 := ⟨h0, by omega⟩
      obtain ⟨q, hq⟩ : ∃ q, q = Po.rts l0 := ⟨_, rfl⟩
      obtain ⟨QL, hQL⟩ : ∃ QL, QL = q.length := ⟨_, rfl⟩
      have hql : q.length = QL := hQL.symm
      have hqr : ∀ x, x ∈ q → Po.ev l0 x = 0 := fun x hx => by rw [hq] at hx; exact Po.rts_mem.1 hx
      have hqm : ∀ x, Po.ev l0 x = 0 → x ∈ q := fun x hx => by rw [hq]; exact Po.rts_mem.2 hx
      obtain ⟨N, hN⟩ : ∃ N, N = Po.len1 l0 := ⟨_, rfl⟩
      have hNn : N ≤ n0 := by omega
      have htl : (Po.trim l0).length = N := by rw [Po.trim_length, hN]
      have hlf := Po.Left.start h0
      rw [← hN] at hlf
      have hQ14 : QL ≤ 14 := by
        have := Po.count_le h0 (Po.rts_srt l0).nodup fun x hx => Po.rts_mem.1 hx
        rw [hQL, hq]
        omega
      have HQ := Lib.hid (And.intro hq (And.intro hqr (And.intro hqm (And.intro hlf hft))))
      clear hq hQL hqr hqm hlf hft hN h0 hle
      go_enter Try.func6, Try.ntmps6
      go_wp2_with (first
        | (go_at_call 28; refine (trim_any a0 n0 c0 l0 w2 (w0.below hB2) hn11).mono ?_; rintro e w3 ⟨⟨v3, rfl, hv3⟩, hb3⟩; have hY3 := (Below.refl w2.heap.size w2).trans hb3)
        | (go_at_call 9; refine (K.all_ok a0 n0 c0 l0 w1 (w0.below hb1) m0 z0 hn1k HQ.out.2.2.2.2).mono ?_; rintro e w2 ⟨⟨v2, rfl, hv2⟩, hb2⟩; rw [← HQ.out.1] at hv2; obtain ⟨la, lc, rfl, hlc, hla0, hlw⟩ := fresh_shapeK hv2 hql; have hB2 := hb1.trans (hb2.mono hb1.size))
        | (go_at_call 8; refine (alive04 K _).mono ?_; rintro e w1 ⟨rfl, hb1⟩))
      go_loopw [5, 31] (fun vr iv wr => ∃ (i : Nat) (R : List (BitVec 32)), i ≤ QL ∧ iv = .int .i64 i ∧ Fresh 37 w2.heap.size wr vr R ∧ RowKit.Hid (Po.Left l0 R N 0 ∧ ∀ j, j < i → Po.ev R (q.getD j 0) ≠ 0) ∧ Below w2.heap.size w2 wr) (fun _ iv _ => QL - (intOf iv).toNat)
      case atStart => exact ⟨0, _, Nat.zero_le _, rfl, hv3, Lib.hid ⟨HQ.out.2.2.2.1, fun j hj => by omega⟩, hY3⟩
      case round =>
        obtain ⟨i, R, hi, rfl, hfr, HR, hb⟩ := hrel
        clear hY3 hv3
        have hBr := hB2.trans (hb.mono hB2.size)
        by_cases hlt : i < QL
        · obtain ⟨ad, rfl, hx⟩ := (hlw.below hb).2.2 i hlt
          obtain ⟨x, hxe⟩ : ∃ x, x = q.getD i 0 := ⟨_, rfl⟩
          rw [← hxe] at hx
          have hex : Po.ev l0 x = 0 := HQ.out.2.1 x (by rw [hxe]; exact Po.mem_getD (by omega))
          have hexb : (Po.ev l0 x != 0#32) = false := by rw [hex]; rfl
          have HX := Lib.hid (And.intro hxe hex)
          clear hxe hex
          go_wp2_with (first
            | (go_at_call 22; refine (at_any a0 n0 c0 l0 x wr (w0.below hBr)).mono ?_; rintro e w4 ⟨rfl, hb4⟩; have hY4 := hb.trans (hb4.mono hb.size); have hfr4 := hfr.below hb4))
          go_loopw [5, 41] (fun vr mv wr => ∃ (m : Nat) (S : List (BitVec 32)), m ≤ n0 ∧ mv = .int .i64 m ∧ Fresh 37 w2.heap.size wr vr S ∧ RowKit.Hid (Po.Left l0 S N m ∧ ∀ j, j < i → Po.ev S (q.getD j 0) ≠ 0) ∧ Below w2.heap.size w2 wr) (fun _ mv _ => n0 - (intOf mv).toNat)
          case atStart => exact ⟨0, R, Nat.zero_le _, rfl, hfr4, HR, hY4⟩
          case round =>
            obtain ⟨m, S, hm, rfl, hfs, HSl, hb5⟩ := hrel
            clear hfr hfr4 hY4 hx
            by_cases hltm : m < n0
            · obtain ⟨sa, sc, rfl, hsc, hs0, hsw⟩ := fresh_shape0 hfs
              have hS11 : S.length ≤ 1099511627776 := by have := HSl.out.1.le; have := HSl.out.1.tr; omega
              have h211 : (2 : Nat) ≤ 1099511627776 := by omega
              have hmn : (m : Int) < (n0 : Int) := by omega
              by_cases hsx : Po.ev S x = 0
              · obtain ⟨r1, r2, r3⟩ := HSl.out.1.rest hsx
                have r1l : (Po.qr S [x, 1#32]).2.length = 0 := by rw [show (Po.qr S [x, 1#32]).2 = [] from r1]; rfl
                have HS2 := Lib.hid (And.intro r2 (fun j hj => r3 _ (HSl.out.2 j hj)))
                clear r1 r2 r3 hsx
                go_wp2_with (first
                  | (go_at_call 29; refine (pdiv_any sa _ _ sc 2 2 S [x, 1#32] _ (hsw.past _) (words_two _ x 1#32 37) (Nat.le_refl _) hS11 h211 (Po.lin_ne x)).mono ?_; rintro e w6 ⟨⟨v6, u6, rfl, hv6, hu6⟩, hb6⟩; obtain ⟨ua, uc, rfl, huc, hu0, huw⟩ := fresh_shapeK hu6 r1l; have hb56 := hb5.alloc hb5.size (.cells #[.int .u32 (nb32 x), .int .u32 (nb32 1#32)] 37); have hb7 := hb56.trans (hb6.mono hb56.size); have hv7 := hv6.low hb56.size))
                go_roundw
                case rel => exact ⟨m + 1, _, by omega, by go_num, hv7, HS2, hb7⟩
                case measure => simp [intOf]; omega
              · have r1l := Po.rest_pos hsx
                have HR2 : RowKit.Hid (Po.Left l0 S N 0 ∧ ∀ j, j < i + 1 → Po.ev S (q.getD j 0) ≠ 0) := Lib.hid ⟨HSl.out.1.again, fun j hj => by
                  by_cases e : j = i
                  · rw [e, ← HX.out.1]; exact hsx
                  · exact HSl.out.2 j (by omega)⟩
                obtain ⟨rl, hrl⟩ : ∃ rl, rl = (Po.qr S [x, 1#32]).2.length := ⟨_, rfl⟩
                have hrl' : (Po.qr S [x, 1#32]).2.length = rl := hrl.symm
                have hrp : 0 < rl := by rw [hrl]; exact r1l
                have hrp' : (0 : Int) < (rl : Int) := by omega
                clear r1l hsx hrl
                go_wp2_with (first
                  | (go_at_call 29; refine (pdiv_any sa _ _ sc 2 2 S [x, 1#32] _ (hsw.past _) (words_two _ x 1#32 37) (Nat.le_refl _) hS11 h211 (Po.lin_ne x)).mono ?_; rintro e w6 ⟨⟨v6, u6, rfl, hv6, hu6⟩, hb6⟩; obtain ⟨ua, uc, rfl, huc, hu0, huw⟩ := fresh_shapeK hu6 hrl'; have hb56 := hb5.alloc hb5.size (.cells #[.int .u32 (nb32 x), .int .u32 (nb32 1#32)] 37); have hb7 := hb56.trans (hb6.mono hb56.size); have hs7 := hfs.below (((Below.refl _ _).alloc (Nat.le_refl _) (.cells #[.int .u32 (nb32 x), .int .u32 (nb32 1#32)] 37)).trans (hb6.mono (by simp)))))
                go_roundw
                case rel => exact ⟨i + 1, S, by omega, by go_num, hs7, HR2, hb7⟩
                case measure => simp [intOf]; omega
            · exfalso
              have h1 := HSl.out.1.le
              have h2 := HSl.out.1.ne
              omega
        · have hR0 : ∀ a, Po.ev R a ≠ 0 := fun a ha => by
            have h1 := HQ.out.2.2.1 a (HR.out.1.sub a ha)
            obtain ⟨j, hj, e⟩ := List.getElem_of_mem h1
            have h2 := HR.out.2 j (by omega)
            rw [List.getD_eq_getElem?_getD, List.getElem?_eq_getElem hj] at h2
            exact h2 (by rw [show (some q[j]).getD 0 = q[j] from rfl, e]; exact ha)
          have hrn := Po.no_roots hR0
          have hRf : Po.Fits R := ⟨HR.out.1.ne, by have := HR.out.1.le; omega⟩
          have hRl : R.length ≤ 1000 := by have := HR.out.1.le; have := HR.out.1.tr; omega
          have HF := Lib.hid (And.intro hrn hRf)
          clear hR0 hrn hRf
          obtain ⟨ra, rc, rfl, hrc, hr0, hrw⟩ := fresh_shape0 hfr
          go_wp2_with (first
            | (go_at_call 10; refine (K.count_ok ra _ rc R wr hrw hrc hr0 hRl HF.out.2).mono ?_; rintro e w8 ⟨rfl, hb8⟩; rw [HF.out.1]))
          go_ret
          exact ⟨rfl, hBr.trans (hb8.mono hBr.size)⟩
end Go.Proofs.Ytlackhjlnoefcaa
