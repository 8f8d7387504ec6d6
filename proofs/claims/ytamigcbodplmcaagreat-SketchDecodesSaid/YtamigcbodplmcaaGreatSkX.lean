/- SketchDecodes -/
import Derived.Test.YtamigcbodplmcaaGreatSkL
import Derived.Test.YtamigcbodplmcaaGreatSkT
namespace Go.Proofs.YtamigcbodplmcaaGreat
open Go Go.RowKit Go.ChangeShapes Go.WideShapes
theorem Dec5.yes {B : Nat} {l A : List (BitVec 32)} {e : Ending} {w' : World} (h : Dec5 B l e w') (hA : Sk.Is l A) : ∃ v, e = .returned (.tuple #[v, .bool true]) ∧ OwnW 40 B w' v A := by
  rcases h with ⟨v, A2, rfl, h2, ho⟩ | ⟨_, hno⟩
  · obtain rfl := h2.unique hA
    exact ⟨v, rfl, ho⟩
  · exact absurd hA (hno A)
theorem Dec5.no {B : Nat} {l : List (BitVec 32)} {e : Ending} {w' : World} (h : Dec5 B l e w') (hA : ∀ A, ¬ Sk.Is l A) : e = .returned (.tuple #[.slice none 0 0, .bool false]) := by
  rcases h with ⟨v, A2, rfl, h2, ho⟩ | ⟨h1, _⟩
  · exact absurd h2 (hA A2)
  · exact h1
set_option maxRecDepth 100000 in
set_option maxHeartbeats 4000000 in
theorem sketchDecodesWalk {H : Type} {enc : TypeId × Value → H} (W : World) (base : Nat) (v0 : Value) (d0 : DataW H) (p0 : List MemPlace)
    (o0 : Value.okWide Tryz.prog W .any base 22 v0)
    (h0 : DataW.Trod enc Tryz.prog W 0 (fun _ => true) true 22 v0 d0 p0) :
    Calls Tryz.prog 3 #[v0] W fun e w' => e = .returned (.bool true) ∧ Below W.heap.size W w' := by
  obtain ⟨a, n, c, l, rfl, hw, hnc, ha0⟩ := arg_wordsc Tryz.underlying22 Tryz.underlying40 (by kernel_rfl) o0 h0
  clear o0 h0
  have hl := hw.1
  have hmx : n ≤ 9223372036854775807 := hw.2.1
  by_cases hrange : 1 ≤ n ∧ n ≤ 6
  · obtain ⟨h1, h6⟩ := hrange
    have hn1 : ¬ (n : Int) < 1 := by omega
    have hn6 : ¬ (6 : Int) < (n : Int) := by omega
    obtain ⟨m, hm⟩ : ∃ m, m = 4 * n := ⟨_, rfl⟩
    have HM := Lib.hid hm
    have hbl : (bytes8 l).length = m := by rw [bytes8_length, hl, hm]
    have hss : sums8 (bytes8 l) = l := sums8_bytes8 l
    have HL := Lib.hid (And.intro hl (And.intro hbl hss))
    clear hm hl hbl hss
    by_cases hex : ∃ A, Sk.Is l A
    · obtain ⟨A, hA⟩ := hex
      obtain ⟨k, hk⟩ : ∃ k, A.length = k := ⟨_, rfl⟩
      have HA := Lib.hid (And.intro hA hk)
      clear hA hk
      go_enter Tryz.func3, Tryz.ntmps3
      go_wp2_with (first
        | (go_at_call 10; refine (words_same ia _ k ic k rc A A _ (hiw.below hb5) hrw rfl).mono ?_; rintro e w6 ⟨rfl, hd6⟩)
        | (go_at_call 8; refine (rdecode5_any a n c l w4 (hw.below hT4) (by omega)).mono ?_; rintro e w5 ⟨hres, hb5⟩; have hT5 := hT4.trans (hb5.mono hT4.size); obtain ⟨rv, rfl, hrv⟩ := hres.yes HA.out.1; obtain ⟨ra, rc, rfl, hrc, hr0, hrw⟩ := fresh_shapeK hrv.fresh HA.out.2)
        | (go_at_call 7; refine (sdec_ok _ g ga n d l A w3 hsk HA.out.1).mono ?_; rintro e w4 ⟨⟨iv, rfl, hiv⟩, hb4⟩; obtain ⟨ia, ic, rfl, hic, hi0, hiw⟩ := fresh_shapeK hiv HA.out.2; have hT4 := hT3.trans (hb4.mono hT3.size))
        | (go_at_call 5; refine (sread_ok ba m bc (bytes8 l) w2 hbw hbc n HM h1 (by omega)).mono ?_; rw [HL.out.2.2]; rintro e w3 ⟨⟨g, ga, d, rfl, hsk⟩, hb3⟩; have hT3 := hT2.trans (hb3.mono hT2.size))
        | (go_at_call 6; refine (rbytes5_any a n c l w1 (hw.below hb1) (by omega)).mono ?_; rintro e w2 ⟨⟨bv, rfl, hbv⟩, hb2⟩; obtain ⟨ba, bc, rfl, hbc, hba0, hbw⟩ := hbv.shape HL.out.2.1; have hT2 := hb1.trans (hb2.mono hb1.size))
        | (go_at_call 4; refine (alive05 W).mono ?_; rintro e w1 ⟨rfl, hb1⟩))
      go_ret
      exact ⟨rfl, hT5.trans ((hd6.below _).mono hT5.size)⟩
    · have hno : ∀ A, ¬ Sk.Is l A := fun A h => hex ⟨A, h⟩
      have HA := Lib.hid hno
      clear hno hex
      go_enter Tryz.func3, Tryz.ntmps3
      go_wp2_with (first
        | (go_at_call 9; refine (is_err 13 rfl _).mono ?_; rintro e w6 ⟨rfl, rfl⟩)
        | (go_at_call 8; refine (rdecode5_any a n c l w4 (hw.below hT4) (by omega)).mono ?_; rintro e w5 ⟨hres, hb5⟩; have hT5 := hT4.trans (hb5.mono hT4.size); obtain rfl := hres.no HA.out)
        | (go_at_call 7; refine (sdec_no _ g ga n d l w3 hsk HA.out).mono ?_; rintro e w4 ⟨rfl, hb4⟩; have hT4 := hT3.trans (hb4.mono hT3.size))
        | (go_at_call 5; refine (sread_ok ba m bc (bytes8 l) w2 hbw hbc n HM h1 (by omega)).mono ?_; rw [HL.out.2.2]; rintro e w3 ⟨⟨g, ga, d, rfl, hsk⟩, hb3⟩; have hT3 := hT2.trans (hb3.mono hT2.size))
        | (go_at_call 6; refine (rbytes5_any a n c l w1 (hw.below hb1) (by omega)).mono ?_; rintro e w2 ⟨⟨bv, rfl, hbv⟩, hb2⟩; obtain ⟨ba, bc, rfl, hbc, hba0, hbw⟩ := hbv.shape HL.out.2.1; have hT2 := hb1.trans (hb2.mono hb1.size))
        | (go_at_call 4; refine (alive05 W).mono ?_; rintro e w1 ⟨rfl, hb1⟩))
      go_ret
      exact ⟨rfl, hT5⟩
  · rcases Nat.lt_or_ge n 1 with h1 | h1
    · have hn1 : (n : Int) < 1 := by omega
      clear hrange
      go_enter Tryz.func3, Tryz.ntmps3
      go_wp2_with (first
        | (go_at_call 4; refine (alive05 W).mono ?_; rintro e w1 ⟨rfl, hb1⟩))
      go_ret
      exact ⟨rfl, hb1⟩
    · have hn1 : ¬ (n : Int) < 1 := by omega
      have hn6 : (6 : Int) < (n : Int) := by omega
      clear hrange
      go_enter Tryz.func3, Tryz.ntmps3
      go_wp2_with (first
        | (go_at_call 4; refine (alive05 W).mono ?_; rintro e w1 ⟨rfl, hb1⟩))
      go_ret
      exact ⟨rfl, hb1⟩
end Go.Proofs.YtamigcbodplmcaaGreat
