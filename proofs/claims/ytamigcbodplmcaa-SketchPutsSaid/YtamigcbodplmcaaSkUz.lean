/- SketchPuts -/
import Derived.Test.YtamigcbodplmcaaSkUA
import Derived.Test.YtamigcbodplmcaaSkUB
namespace Go.Proofs.Ytamigcbodplmcaa
open Go Go.RowKit Go.ChangeShapes Go.WideShapes
set_option maxRecDepth 100000 in
set_option maxHeartbeats 16000000 in
theorem sketchPutsWalk {H : Type} {enc : TypeId × Value → H} (W : World) (base : Nat) (v0 : Value) (d0 : DataW H) (p0 : List MemPlace) (v1 : Value) (d1 : DataW H) (p1 : List MemPlace) (v2 : Value) (d2 : DataW H) (p2 : List MemPlace)
    (o0 : Value.okWide Try.prog W .any base 3 v0) (o1 : Value.okWide Try.prog W .any base 22 v1) (o2 : Value.okWide Try.prog W .any base 22 v2)
    (h0 : DataW.Trod enc Try.prog W 0 (fun _ => true) true 3 v0 d0 p0) (h1 : DataW.Trod enc Try.prog W 0 (fun _ => true) true 22 v1 d1 p1) (h2 : DataW.Trod enc Try.prog W 0 (fun _ => true) true 22 v2 d2 p2) :
    Calls Try.prog 6 #[v0, v1, v2] W fun e w' => e = .returned (.bool true) ∧ Below W.heap.size W w' := by
  obtain ⟨z, rfl, hz⟩ := arg_int Try.underlying3 o0 h0
  obtain ⟨a1, n1, c1, l1, rfl, hw1, hnc1, ha1⟩ := arg_wordsc Try.underlying22 Try.underlying54 (by kernel_rfl) o1 h1
  obtain ⟨a2, n2, c2, l2, rfl, hw2, hnc2, ha2⟩ := arg_wordsc Try.underlying22 Try.underlying54 (by kernel_rfl) o2 h2
  clear o0 h0 o1 h1 o2 h2
  have hl1 := hw1.1
  have hl2 := hw2.1
  have hmx1 : n1 ≤ 9223372036854775807 := hw1.2.1
  have hmx2 : n2 ≤ 9223372036854775807 := hw2.2.1
  obtain ⟨r, hr⟩ := ex_bool ((0 : BitVec 32) ∈ l1)
  obtain ⟨r2, hr2⟩ := ex_bool ((0 : BitVec 32) ∈ l2)
  have HR := Lib.hid (And.intro hr (And.intro hr2 (And.intro hl1 hl2)))
  clear hr hr2 hl1 hl2
  by_cases hgd : n1 ≤ 20 ∧ n2 ≤ 20 ∧ 1 ≤ z ∧ z ≤ 40 ∧ r = false
  · obtain ⟨hn1, hn2, hz1, hz40, rfl⟩ := hgd
    obtain ⟨cap, rfl⟩ := Int.eq_ofNat_of_zero_le (show 0 ≤ z by omega)
    have hcap1 : 1 ≤ cap := by omega
    have hcap40 : cap ≤ 40 := by omega
    have hm1 : ¬ (0 : BitVec 32) ∈ l1 := fun h => Bool.false_ne_true (HR.out.1.2 h)
    cases r2 with
    | true => exact putsA W cap a1 n1 c1 l1 hw1 ha1 a2 n2 c2 l2 hw2 ha2 hn1 hn2 hcap1 hcap40 hm1 (HR.out.2.1.1 rfl)
    | false => exact putsB W cap a1 n1 c1 l1 hw1 ha1 a2 n2 c2 l2 hw2 ha2 hn1 hn2 hcap1 hcap40 hm1 (fun h => Bool.false_ne_true (HR.out.2.1.2 h))
  · by_cases g1 : (20 : Int) < (n1 : Int)
    · clear hgd
      go_enter Try.func6, Try.ntmps6
      go_wp2_with (first | (go_at_call 7; refine (alive05 W).mono ?_; rintro e w1 ⟨rfl, hb1⟩))
      go_ret
      exact ⟨rfl, hb1⟩
    · by_cases g2 : (20 : Int) < (n2 : Int)
      · clear hgd
        go_enter Try.func6, Try.ntmps6
        go_wp2_with (first | (go_at_call 7; refine (alive05 W).mono ?_; rintro e w1 ⟨rfl, hb1⟩))
        go_ret
        exact ⟨rfl, hb1⟩
      · by_cases g3 : z < 1
        · clear hgd
          go_enter Try.func6, Try.ntmps6
          go_wp2_with (first | (go_at_call 7; refine (alive05 W).mono ?_; rintro e w1 ⟨rfl, hb1⟩))
          go_ret
          exact ⟨rfl, hb1⟩
        · by_cases g4 : 40 < z
          · clear hgd
            go_enter Try.func6, Try.ntmps6
            go_wp2_with (first | (go_at_call 7; refine (alive05 W).mono ?_; rintro e w1 ⟨rfl, hb1⟩))
            go_ret
            exact ⟨rfl, hb1⟩
          · have hrt : r = true := by
              cases r with
              | true => rfl
              | false => exact absurd ⟨by omega, by omega, by omega, by omega, rfl⟩ hgd
            subst hrt
            have HM1 := Lib.hid (HR.out.1.1 rfl)
            clear hgd HR
            go_enter Try.func6, Try.ntmps6
            go_wp2_with (first
              | (go_at_call 16; refine (none5_any a1 n1 c1 l1 w1 (hw1.below hb1) true ⟨fun _ => HM1.out, fun _ => rfl⟩).mono ?_; rintro e wi ⟨rfl, rfl⟩)
              | (go_at_call 7; refine (alive05 W).mono ?_; rintro e w1 ⟨rfl, hb1⟩))
            go_ret
            exact ⟨rfl, hb1⟩
end Go.Proofs.Ytamigcbodplmcaa
