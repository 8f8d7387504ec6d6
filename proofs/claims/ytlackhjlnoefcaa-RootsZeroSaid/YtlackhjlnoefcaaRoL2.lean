/- RootsTraces -/
import Derived.Test.YtlackhjlnoefcaaRoK
namespace Go.Proofs.Ytlackhjlnoefcaa
open Go Go.RowKit Go.ChangeShapes Go.WideShapes
theorem Po.set_rts (l : List (BitVec 32)) : Po.Set (Po.rts (Po.fromL l)) l := ⟨Po.rts_srt _, fun a => by rw [Po.rts_mem, Po.mem_fromL]⟩
theorem Po.fits_from {l : List (BitVec 32)} (h : l.length ≤ 60) : Po.Fits (Po.fromL l) := by
  have := (Po.fromL_all l).2
  exact ⟨by omega, by omega⟩
theorem words_none (w : World) : Words32 w none 0 [] := ⟨rfl, by unfold maxLen; omega, fun i hi => by omega⟩
theorem Po.not_fits_nil : ¬ Po.Fits [] := fun h => h.1 rfl
theorem Po.mem_getD {l : List (BitVec 32)} {k : Nat} (h : k < l.length) : l.getD k 0 ∈ l := by
  rw [List.getD_eq_getElem?_getD, List.getElem?_eq_getElem h]
  exact List.getElem_mem h
set_option maxHeartbeats 4000000 in
set_option maxRecDepth 100000 in
theorem rootsTracesWalkK (K : RootsOk) {H : Type} {enc : TypeId × Value → H} (W : World) (base : Nat) (v0 : Value) (d0 : DataW H) (p0 : List MemPlace) (v1 : Value) (d1 : DataW H) (p1 : List MemPlace)
    (o0 : Value.okWide Try.prog W .any base 22 v0) (o1 : Value.okWide Try.prog W .any base 37 v1)
    (h0 : DataW.Trod enc Try.prog W 0 (fun _ => true) true 22 v0 d0 p0) (h1 : DataW.Trod enc Try.prog W 0 (fun _ => true) true 37 v1 d1 p1) :
    Calls Try.prog 4 #[v0, v1] W fun e w' => e = .returned (.bool true) ∧ Below W.heap.size W w' := by
  obtain ⟨a0, n0, c0, l0, rfl, w0, m0, z0⟩ := arg_wordsc Try.underlying22 Try.underlying37 (by kernel_rfl) o0 h0
  obtain ⟨a1, rfl⟩ := arg_u32 Try.underlying37 o1 h1
  have hl0 := w0.1
  by_cases h8 : 8 < n0
  · have h8' : (8 : Int) < (n0 : Int) := by omega
    go_enter Try.func4, Try.ntmps4
    go_wp2_with (first
      | (go_at_call 8; refine (alive04 K _).mono ?_; rintro e w1 ⟨rfl, hb1⟩))
    go_ret
    exact ⟨rfl, hb1⟩
  · have h8' : ¬ (8 : Int) < (n0 : Int) := by omega
    have hfl := (Po.fromL_all l0).1
    rw [hl0] at hfl
    have hft := Po.fits_from (l := l0) (by omega)
    have h0 := hft.1
    obtain ⟨t, ht⟩ : ∃ t, t = Po.trc (Po.fromL l0) a1 32 := ⟨_, rfl⟩
    have hev : ∀ x, x ∈ l0 → Po.ev t x = Gf.trace (Gf.mul a1 x) 32 := fun x hx => by rw [ht]; exact Po.trc_ev h0 (Po.mem_fromL.2 hx) a1 32
    obtain ⟨TL, hTL⟩ : ∃ TL, TL = t.length := ⟨_, rfl⟩
    have htl : t.length = TL := hTL.symm
    obtain ⟨q, hq⟩ : ∃ q, Po.Set q l0 := ⟨_, Po.set_rts l0⟩
    obtain ⟨QL, hQL⟩ : ∃ QL, QL = q.length := ⟨_, rfl⟩
    have hql : q.length = QL := hQL.symm
    have HT := Lib.hid (And.intro ht (And.intro hev hq))
    have hn30 : n0 ≤ 1073741824 := by omega
    have hn1k : n0 + 1 ≤ 1000 := by omega
    have hn1m : n0 + 1 ≤ 1000000 := by omega
    have hnk : n0 ≤ 1000 := by omega
    clear ht hev hq hTL hQL hft
    go_enter Try.func4, Try.ntmps4
    go_wp2_with (first
      | (go_at_call 13; refine (words_same ta ra TL tc TL rc t t w4 (htw.below hb4) hrw rfl).mono ?_; rintro e w5 ⟨rfl, hd5⟩; have hX5 := hb4.trans (hd5.below _))
      | (go_at_call 20; refine (rtraces_any pa (n0 + 1) pc (Po.fromL l0) a1 w3 (hpw.below hb3) hpc hp0 hn1m h0).mono ?_; rintro e w4 ⟨⟨v4, rfl, hv4⟩, hb4⟩; rw [← HT.out.1] at hv4; obtain ⟨ra, rc, rfl, hrc, hr0, hrw⟩ := fresh_shapeK hv4 htl)
      | (go_at_call 19; refine (K.traces_ok pa (n0 + 1) pc (Po.fromL l0) a1 w2 hpw hpc hp0 hn1k (Po.fits_from (by omega))).mono ?_; rintro e w3 ⟨⟨v3, rfl, hv3⟩, hb3⟩; rw [← HT.out.1] at hv3; obtain ⟨ta, tc, rfl, htc, ht0, htw⟩ := fresh_shapeK hv3 htl; have hB3 := hB2.trans (hb3.mono hB2.size))
      | (go_at_call 18; refine (from_any a0 n0 c0 l0 w1 (w0.below hb1) hn30).mono ?_; rintro e w2 ⟨⟨v2, rfl, hv2⟩, hb2⟩; obtain ⟨pa, pc, rfl, hpc, hp0, hpw⟩ := fresh_shapeK hv2 hfl; have hB2 := hb1.trans (hb2.mono hb1.size))
      | (go_at_call 8; refine (alive04 K _).mono ?_; rintro e w1 ⟨rfl, hb1⟩))
    go_loopw [35] (fun iv wr => ∃ i : Nat, i ≤ n0 ∧ iv = .int .i64 i ∧ Below w3.heap.size w3 wr) (fun iv _ => n0 - (intOf iv).toNat)
    case atStart => exact ⟨0, Nat.zero_le _, rfl, hX5⟩
    case round =>
      obtain ⟨i, hi, rfl, hb⟩ := hrel
      clear hX5
      have hBr := hB3.trans (hb.mono hB3.size)
      by_cases hlt : i < n0
      · obtain ⟨ad, rfl, hx⟩ := (w0.below hBr).2.2 i hlt
        obtain ⟨x, hxe⟩ : ∃ x, x = l0.getD i 0 := ⟨_, rfl⟩
        have hxm : x ∈ l0 := by rw [hxe]; exact Po.mem_getD (by omega)
        rw [← hxe] at hx
        have hex := HT.out.2.1 x hxm
        have hbn : (Po.ev t x != Gf.trace (Gf.mul a1 x) 32) = false := by rw [hex]; simp
        have HX := Lib.hid hex
        clear hxe hxm hex
        by_cases hqn : QL = n0
        · have hqb : ((QL : Int) == (n0 : Int)) = true := by simp [hqn]
          clear hqn
          go_wp2_with (first
            | (go_at_call 23; refine (trace_any _ _).mono ?_; rintro e w8 ⟨rfl, rfl⟩)
            | (go_at_call 24; refine (mul_any _ _ _).mono ?_; rintro e w8 ⟨rfl, rfl⟩)
            | (go_at_call 22; refine (at_any ta TL tc t x w6 (htw.below hX6)).mono ?_; rintro e w7 ⟨rfl, hb7⟩; have hX7 := hX6.trans (hb7.mono hX6.size))
            | (go_at_call 21; refine (sorted_any (some ad) n0 c0 l0 wr (w0.below hBr) hnk).mono ?_; rintro e w6 ⟨⟨v6, q6, rfl, hv6, hq6⟩, hb6⟩; have e6 := hq6.unique HT.out.2.2; subst e6; obtain ⟨qa, qc, rfl, hqc, hq0, hqw⟩ := fresh_shapeK hv6.fresh hql; have hX6 := hb.trans (hb6.mono hb.size)))
          go_roundw
          case rel => exact ⟨i + 1, by omega, by go_num, hX7⟩
          case measure => simp [intOf]; omega
        · have hqb : ((QL : Int) == (n0 : Int)) = false := by simp; omega
          clear hqn
          go_wp2_with (first
            | (go_at_call 21; refine (sorted_any (some ad) n0 c0 l0 wr (w0.below hBr) hnk).mono ?_; rintro e w6 ⟨⟨v6, q6, rfl, hv6, hq6⟩, hb6⟩; have e6 := hq6.unique HT.out.2.2; subst e6; obtain ⟨qa, qc, rfl, hqc, hq0, hqw⟩ := fresh_shapeK hv6.fresh hql; have hX6 := hb.trans (hb6.mono hb.size)))
          go_roundw
          case rel => exact ⟨i + 1, by omega, by go_num, hX6⟩
          case measure => simp [intOf]; omega
      · go_wp2_with (first
          | (go_at_call 15; refine (is_range _).mono ?_; rintro e w9 ⟨rfl, rfl⟩)
          | (go_at_call 19; refine (K.traces_no none 0 0 [] a1 wr (words_none _) (Nat.le_refl _) (fun _ => rfl) (by omega) Po.not_fits_nil).mono ?_; rintro e w8 ⟨⟨a', c', rfl⟩, hb8⟩))
        go_ret
        exact ⟨rfl, hBr.trans (hb8.mono hBr.size)⟩
end Go.Proofs.Ytlackhjlnoefcaa
