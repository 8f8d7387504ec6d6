/- MasseyKeeps, MasseyLess -/
import Derived.Test.YtmjboiaopihjeaaMsL
namespace Go.Proofs.Ytmjboiaopihjeaa
open Go Go.RowKit Go.ChangeShapes Go.WideShapes
theorem ex_bool (p : Prop) : ∃ r : Bool, r = true ↔ p := by
  by_cases h : p
  · exact ⟨true, fun _ => h, fun _ => rfl⟩
  · exact ⟨false, fun e => (Bool.false_ne_true e).elim, fun e => (h e).elim⟩
set_option maxHeartbeats 4000000 in
set_option maxRecDepth 100000 in
theorem masseyKeepsWalk {H : Type} {enc : TypeId × Value → H} (W : World) (base : Nat) (v0 : Value) (d0 : DataW H) (p0 : List MemPlace) (v1 : Value) (d1 : DataW H) (p1 : List MemPlace)
    (o0 : Value.okWide Try.prog W .any base 22 v0) (o1 : Value.okWide Try.prog W .any base 22 v1)
    (h0 : DataW.Trod enc Try.prog W 0 (fun _ => true) true 22 v0 d0 p0) (h1 : DataW.Trod enc Try.prog W 0 (fun _ => true) true 22 v1 d1 p1) :
    Calls Try.prog 4 #[v0, v1] W fun e w' => e = .returned (.bool true) ∧ Below W.heap.size W w' := by
  obtain ⟨a0, n0, c0, l0, rfl, w0, m0, z0⟩ := arg_wordsc Try.underlying22 Try.underlying29 (by kernel_rfl) o0 h0
  obtain ⟨a1, n1, c1, l1, rfl, w1, m1, z1⟩ := arg_wordsc Try.underlying22 Try.underlying29 (by kernel_rfl) o1 h1
  rename Words32 W a1 n1 l1 => w1'
  rename n1 ≤ c1 => m1'
  obtain ⟨r, hr⟩ := ex_bool (n0 ≠ 0 ∧ Ms.Rec l0 (n0 - 1) (Po.cf l1) n1)
  have HR := Lib.hid hr
  clear hr
  by_cases h24 : 24 < n0
  · have h24' : (24 : Int) < (n0 : Int) := by omega
    go_enter Try.func4, Try.ntmps4
    go_wp2_with (first
      | (go_at_call 8; refine (alive03 _).mono ?_; rintro e w1 ⟨rfl, hb1⟩))
    go_ret
    exact ⟨rfl, hb1⟩
  · have h24' : ¬ (24 : Int) < (n0 : Int) := by omega
    by_cases h48 : 48 < n1
    · have h48' : (48 : Int) < (n1 : Int) := by omega
      go_enter Try.func4, Try.ntmps4
      go_wp2_with (first
        | (go_at_call 8; refine (alive03 _).mono ?_; rintro e w1 ⟨rfl, hb1⟩))
      go_ret
      exact ⟨rfl, hb1⟩
    · have h48' : ¬ (48 : Int) < (n1 : Int) := by omega
      have hk0 : n0 ≤ 1000000 := by omega
      have hk1 : n1 ≤ 1000000 := by omega
      go_enter Try.func4, Try.ntmps4
      go_wp2_with (first
        | (go_at_call 8; refine (alive03 _).mono ?_; rintro e w1 ⟨rfl, hb1⟩)
        | (go_at_call 13; refine (keeps_any a0 a1 n0 c0 n1 c1 l0 l1 _ (w0.below hb1) (w1'.below hb1) m1' hk0 hk1 r HR.out).mono ?_; rintro e w2 ⟨rfl, hb2⟩; have hB2 := hb1.trans (hb2.mono hb1.size))
        | (go_at_call 12; refine (rkeeps_any a0 a1 n0 c0 n1 c1 l0 l1 _ (w0.below hB2) (w1'.below hB2) hk0 hk1 r HR.out).mono ?_; rintro e w3 ⟨rfl, hd⟩))
      go_ret
      exact ⟨rfl, hB2.trans (hd.below _)⟩
theorem Ms.least_start (f : Nat → BitVec 32) : Ms.Least f 0 0 := ⟨⟨[1], Ms.one_rec f 0⟩, fun _ _ _ => Nat.zero_le _⟩
set_option maxHeartbeats 4000000 in
set_option maxRecDepth 100000 in
theorem masseyLessWalk {H : Type} {enc : TypeId × Value → H} (W : World) (base : Nat) (v0 : Value) (d0 : DataW H) (p0 : List MemPlace)
    (o0 : Value.okWide Try.prog W .any base 22 v0)
    (h0 : DataW.Trod enc Try.prog W 0 (fun _ => true) true 22 v0 d0 p0) :
    Calls Try.prog 7 #[v0] W fun e w' => e = .returned (.bool true) ∧ Below W.heap.size W w' := by
  obtain ⟨a0, n0, c0, l0, rfl, w0, m0, z0⟩ := arg_wordsc Try.underlying22 Try.underlying29 (by kernel_rfl) o0 h0
  have hl0 := w0.1
  by_cases h40 : 40 < n0
  · have h40' : (40 : Int) < (n0 : Int) := by omega
    go_enter Try.func7, Try.ntmps7
    go_wp2_with (first
      | (go_at_call 8; refine (alive03 _).mono ?_; rintro e w1 ⟨rfl, hb1⟩))
    go_ret
    exact ⟨rfl, hb1⟩
  · have h40' : ¬ (40 : Int) < (n0 : Int) := by omega
    go_enter Try.func7, Try.ntmps7
    go_wp2_with (first
      | (go_at_call 8; refine (alive03 _).mono ?_; rintro e w1 ⟨rfl, hb1⟩))
    go_loopw [3, 13] (fun x i wr => ∃ k L : Nat, k ≤ n0 ∧ L ≤ k ∧ i = .int .i64 k ∧ x = .int .i64 L ∧ RowKit.Hid (Ms.Least (Po.cf l0) k L) ∧ Below W.heap.size W wr) (fun _ i _ => n0 - (intOf i).toNat)
    case atStart => exact ⟨0, 0, Nat.zero_le _, Nat.le_refl _, rfl, rfl, Lib.hid (Ms.least_start _), hb1⟩
    case round =>
      obtain ⟨k, L, hk, hLk, rfl, rfl, HL, hb⟩ := hrel
      by_cases hlt : k < n0
      · have hk1 : k + 1 ≤ n0 := hlt
        have hk1c : (k : Int) + 1 ≤ (c0 : Int) := by omega
        have hk10 : (0 : Int) ≤ (k : Int) + 1 := by omega
        have hk1m : k + 1 ≤ 1000000 := by omega
        have hwk : IntKind.i64.wrap ((k : Int) + 1) = (k : Int) + 1 := IntWalk.i64_in _ (by omega)
        have hwl : IntKind.i64.wrap ((k : Int) + 1 - (L : Int)) = (k : Int) + 1 - (L : Int) := IntWalk.i64_in _ (by omega)
        obtain ⟨L', hL', hle⟩ := Ms.Least.ofn (Po.cf l0) (k + 1)
        have hs := HL.out.succ hL'
        have hcg := hL'.congr (g := Po.cf (l0.take (k + 1))) fun i hi => by rw [Po.cf_take, if_pos hi]
        have HL' := Lib.hid (And.intro hL' hcg)
        have hwt := w0.take hk1
        have h1 : ¬ (L' : Int) < (L : Int) := by omega
        have h2 : ¬ (k : Int) + 1 < (L' : Int) := by omega
        have hkc1 : k + 1 ≤ c0 := by omega
        clear hL' hcg
        by_cases hgt : L < L'
        · have h3 : (L : Int) < (L' : Int) := by omega
          have h4 : ((L' : Int) != (k : Int) + 1 - (L : Int)) = false := by simp; omega
          clear hs
          go_wp2_with (first
            | (go_at_call 11; refine (length_any a0 (k + 1) c0 L' (l0.take (k + 1)) _ (hwt.below hb) hkc1 hk1m HL'.out.2).mono ?_; rintro e w2 ⟨rfl, hb2⟩))
          go_roundw
          case rel => exact ⟨k + 1, L', by omega, by omega, by go_num, rfl, Lib.hid HL'.out.1, hb.trans (hb2.mono hb.size)⟩
          case measure => simp [intOf]; omega
        · have h3 : ¬ (L : Int) < (L' : Int) := by omega
          clear hs
          go_wp2_with (first
            | (go_at_call 11; refine (length_any a0 (k + 1) c0 L' (l0.take (k + 1)) _ (hwt.below hb) hkc1 hk1m HL'.out.2).mono ?_; rintro e w2 ⟨rfl, hb2⟩))
          go_roundw
          case rel => exact ⟨k + 1, L', by omega, by omega, by go_num, rfl, Lib.hid HL'.out.1, hb.trans (hb2.mono hb.size)⟩
          case measure => simp [intOf]; omega
      · go_wp2
        go_ret
        exact ⟨rfl, hb⟩
end Go.Proofs.Ytmjboiaopihjeaa
