/- MasseyShortest -/
import Derived.Test.YtmjboiaopihjeaaMsL
namespace Go.Proofs.Ytmjboiaopihjeaa
open Go Go.RowKit Go.ChangeShapes Go.WideShapes
set_option maxHeartbeats 4000000 in
set_option maxRecDepth 100000 in
theorem masseyShortestWalk {H : Type} {enc : TypeId × Value → H} (W : World) (base : Nat) (v0 : Value) (d0 : DataW H) (p0 : List MemPlace)
    (o0 : Value.okWide Try.prog W .any base 22 v0)
    (h0 : DataW.Trod enc Try.prog W 0 (fun _ => true) true 22 v0 d0 p0) :
    Calls Try.prog 3 #[v0] W fun e w' => e = .returned (.bool true) ∧ Below W.heap.size W w' := by
  obtain ⟨a0, n0, c0, l0, rfl, w0, m0, z0⟩ := arg_wordsc Try.underlying22 Try.underlying29 (by kernel_rfl) o0 h0
  have hl0 := w0.1
  by_cases h24 : 24 < n0
  · have h24' : (24 : Int) < (n0 : Int) := by omega
    go_enter Try.func3, Try.ntmps3
    go_wp2_with (first
      | (go_at_call 8; refine (alive03 _).mono ?_; rintro e w1 ⟨rfl, hb1⟩))
    go_ret
    exact ⟨rfl, hb1⟩
  · have h24' : ¬ (24 : Int) < (n0 : Int) := by omega
    obtain ⟨L, hL, hLn⟩ := Ms.Least.ofn (Po.cf l0) n0
    have HL := Lib.hid hL
    clear hL
    have hk0 : n0 ≤ 1000000 := by omega
    have hk3 : n0 ≤ 1000 := by omega
    have hK0 : L + 1 ≤ 1000000 := by omega
    have hsb : ([] : List (BitVec 32)).length + n0 ≤ 1099511627776 := by simp; omega
    go_enter Try.func3, Try.ntmps3
    go_wp2_with (first
      | (go_at_call 8; refine (alive03 _).mono ?_; rintro e w1 ⟨rfl, hb1⟩; have hfresh := Has.fresh w1 29 #[])
      | (at_builtin; refine wpList_append_words rfl (.tmp 12) (.tmp 13) 22 rfl 29 Try.underlying22 info_word w1.heap.size _ [] rfl (OwnW.empty (Nat.le_refl _) hfresh) a0 n0 c0 l0 rfl ((w0.below hb1).past _) z0 hsb (by simp) ?_; intro v' w2 h1 h2; have hB2 := hb1.trans ((below_own_row ((Below.refl _ w1).alloc (Nat.le_refl _) _) h2 (OwnW.empty (Nat.le_refl _) hfresh).lt).mono hb1.size); rw [List.nil_append] at h1; obtain ⟨oa, oc, rfl, hoc, how⟩ := own_shape h1 hl0)
      | (go_at_call 9; refine (shortest_any oa n0 oc L l0 w2 how hoc hk0 HL.out).mono ?_; rintro e w3 ⟨⟨v, lc, rfl, hv, hlc, hrc⟩, hb3⟩; obtain ⟨va, vc, rfl, hvc, hvw⟩ := fresh_shape hv hlc)
      | (go_at_call 10; refine (rlength_any a0 n0 c0 L l0 _ (w0.below (hB2.trans (hb3.mono hB2.size))) hk3 HL.out).mono ?_; rintro e w4 ⟨rfl, hb4⟩; have hB4 := hb3.trans (hb4.mono hb3.size))
      | (go_at_call 11; refine (length_any oa n0 oc L l0 _ (how.below hB4) hoc hk0 HL.out).mono ?_; rintro e w5 ⟨rfl, hb5⟩; have hB5 := hB4.trans (hb5.mono hB4.size); have hX5 := hb4.trans (hb5.mono hb4.size))
      | (go_at_call 12; refine (rkeeps_any va a0 (L + 1) vc n0 c0 lc l0 _ (hvw.below hX5) (w0.below (hB2.trans (hB5.mono hB2.size))) hK0 hk0 true ⟨fun _ => ⟨Nat.succ_ne_zero _, hrc⟩, fun _ => rfl⟩).mono ?_; rintro e w6 ⟨rfl, hd6⟩; have hX6 := hX5.trans (hd6.below _); have hB6 := hB5.trans (hd6.below _))
      | (go_at_call 13; refine (keeps_any va oa (L + 1) vc n0 oc lc l0 _ (hvw.below hX6) (how.below hB6) hoc hK0 hk0 true ⟨fun _ => ⟨Nat.succ_ne_zero _, hrc⟩, fun _ => rfl⟩).mono ?_; rintro e w7 ⟨rfl, hb7⟩; have hX7 := hX6.trans (hb7.mono hX6.size); have hB7 := hB6.trans (hb7.mono hB6.size))
      | (go_at_call 14; refine (words_same oa a0 n0 oc n0 c0 l0 l0 _ (how.below hB7) (w0.below (hB2.trans (hB7.mono hB2.size))) rfl).mono ?_; rintro e w8 ⟨rfl, hd8⟩; have hX8 := hX7.trans (hd8.below _); have hB8 := hB7.trans (hd8.below _)))
    obtain ⟨g, cs, rfl, hg, hh, hcs⟩ := (hv.below hX8).buf.open (Nat.succ_pos L)
    go_loopw [50] (fun i wr => ∃ (k : Nat) (cs' : Array Value), k ≤ L + 1 ∧ i = .int .i64 k ∧ Has wr g 29 cs' ∧ L + 1 ≤ cs'.size ∧ Below w2.heap.size w2 wr) (fun i _ => L + 1 - (intOf i).toNat)
    case atStart => exact ⟨0, cs, Nat.zero_le _, rfl, hh, hcs, hB8⟩
    case round =>
      obtain ⟨k, cs', hk, rfl, hh', hcs', hb⟩ := hrel
      clear hh hcs
      by_cases hlt : k < L + 1
      · have hcl := hh'.cell_at (i := k) (Array.getElem?_eq_getElem (by omega))
        have hlo := hh'.loose k
        have hlt' : (k : Int) < (L : Int) + 1 := by omega
        have hh2 := hh'.put k (.int .u32 77)
        have hb2 := hb.setCell (p := ⟨g, k, none⟩) hg (.int .u32 77)
        go_wp2
        go_roundw
        case rel => exact ⟨k + 1, _, by omega, by go_num, hh2, by rw [Array.size_setIfInBounds]; exact hcs', hb2⟩
        case measure => simp [intOf]; omega
      · have hlt' : ¬ (k : Int) < (L : Int) + 1 := by omega
        go_wp2_with (first
          | (go_at_call 14; refine (words_same oa a0 n0 oc n0 c0 l0 l0 _ (how.below hb) (w0.below (hB2.trans (hb.mono hB2.size))) rfl).mono ?_; rintro e w9 ⟨rfl, hd9⟩))
        go_ret
        exact ⟨rfl, hB2.trans ((hb.trans (hd9.below _)).mono hB2.size)⟩
end Go.Proofs.Ytmjboiaopihjeaa
