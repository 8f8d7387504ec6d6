/- The statements GfMuls and GfNone of layer 1 walked. -/
import Derived.Test.YtjcfnlmmebhldaaGfLaws
import Derived.Test.YtjcfnlmmebhldaaGfRef
namespace Go.Proofs.Ytjcfnlmmebhldaa
open Go.ChangeShapes Go.WideShapes Go.ChangeAt Go.RowKit
theorem Drawn.grown {W w w' : World} (h : Drawn w w') (hb : Below W.heap.size W w) : Below W.heap.size W w' := by
  obtain ⟨n, rfl⟩ := h
  exact below_draws hb n
set_option maxHeartbeats 1000000 in
theorem muls_walk (a b : BitVec 32) (A : Option Addr) (n c : Nat) (l : List (BitVec 32)) (w : World) (hw : Words32 w A n l) :
    Calls Try.prog 3 #[.int .u32 (nb32 a), .int .u32 (nb32 b), .slice A n c] w fun e w' => e = .returned (.bool true) ∧ Below w.heap.size w w' := by
  obtain ⟨hl, hm, hc⟩ := hw
  by_cases hbig : 100 < n
  · have hm2 := hm
    unfold maxLen at hm2
    clear hc hl
    go_enter Try.func3, Try.ntmps3
    go_wp2_with (go_at_call 10; refine (alive01 _).mono ?_; rintro e w' ⟨rfl, rfl⟩)
    go_ret
    exact ⟨rfl, Below.refl _ _⟩
  · have HL := Lib.hid hl
    have HC := Lib.hid hc
    have HW : Hid (Words32 w A n l) := ⟨hl, hm, hc⟩
    have hm2 := hm
    unfold maxLen at hm2
    clear hc hl
    go_enter Try.func3, Try.ntmps3
    go_wp2_with (go_at_call 10; refine (alive01 _).mono ?_; rintro e w' ⟨rfl, rfl⟩)
    go_loop [7, 18] (fun s i => ∃ k : Nat, k ≤ n ∧ i = .int .i64 k ∧ s = .int .u32 (nb32 (xors (l.take k)))) (fun _ i => n - (intOf i).toNat)
    case atStart => exact ⟨0, Nat.zero_le _, rfl, rfl⟩
    case round =>
      obtain ⟨k, hk, rfl, rfl⟩ := hrel
      by_cases hlt : k < n
      · obtain ⟨x, rfl, hx⟩ := HC.out k hlt
        have hs := xors_take l k (by have := HL.out; omega)
        have HS := Lib.hid hs
        clear hs
        go_wp2
        go_round
        case rel => exact ⟨k + 1, by omega, by go_num, by rw [HS.out, List.getD_eq_getElem?_getD]; rfl⟩
        case measure => simp [intOf]; omega
      · obtain rfl : k = n := by omega
        have ht : l.take k = l := List.take_of_length_le (by have := HL.out; omega)
        rw [ht]
        clear ht
        have h1 : (Gf.square a == Gf.mul a a) = true := by rw [beq_iff_eq]; exact Gf.square_eq a
        go_wp2_with (go_at_call 11; refine (by_any _ _).mono ?_; rintro e w1 ⟨rfl, hb1, hh1⟩)
        have hsum : ∀ {w2 : World}, Drawn w1 w2 → Words32 w2 A k l := fun hd => (HW.out.below hb1).below (hd.below _)
        have HSUM := Lib.hid (hsum (Drawn.refl w1))
        clear hsum
        go_wp2_with (first
          | (go_at_call 12; refine (mul_any _ _ _).mono ?_; rintro e w' ⟨rfl, rfl⟩)
          | (go_at_call 13; refine (rmul_any _ _ _).mono ?_; rintro e w' ⟨rfl, rfl⟩)
          | (go_at_call 14; refine (square_any _ _).mono ?_; rintro e w' ⟨rfl, rfl⟩)
          | (go_at_call 15; refine (sum_any _ _ _ _ _ HSUM.out).mono ?_; rintro e w' ⟨rfl, rfl⟩)
          | (go_at_call 16; with_reducible (refine (tmul_any a _ _ _ hh1).mono ?_; rintro e w2 ⟨rfl, hd2⟩; have hh2 := hh1.drawn hd2))
          | (go_at_call 16; with_reducible (refine (tmul_any a _ _ _ hh2).mono ?_; rintro e w3 ⟨rfl, hd3⟩)))
        go_ret
        exact ⟨rfl, hd3.grown (hd2.grown hb1)⟩
theorem gfMulsWalk {H : Type} {enc : TypeId × Value → H} (W : World) (base : Nat) (v0 : Value) (d0 : DataW H) (p0 : List MemPlace) (v1 : Value) (d1 : DataW H) (p1 : List MemPlace) (v2 : Value) (d2 : DataW H) (p2 : List MemPlace)
    (o0 : Value.okWide Try.prog W .any base 22 v0) (o1 : Value.okWide Try.prog W .any base 22 v1) (o2 : Value.okWide Try.prog W .any base 23 v2)
    (h0 : DataW.Trod enc Try.prog W 0 (fun _ => true) true 22 v0 d0 p0) (h1 : DataW.Trod enc Try.prog W 0 (fun _ => true) true 22 v1 d1 p1) (h2 : DataW.Trod enc Try.prog W 0 (fun _ => true) true 23 v2 d2 p2) :
    Calls Try.prog 3 #[v0, v1, v2] W fun e w' => e = .returned (.bool true) ∧ Below W.heap.size W w' := by
  obtain ⟨a0, rfl⟩ := arg_u32 Try.underlying22 o0 h0
  obtain ⟨a1, rfl⟩ := arg_u32 Try.underlying22 o1 h1
  obtain ⟨a2, n2, c2, l2, rfl, w2⟩ := arg_words Try.underlying23 Try.underlying22 (by kernel_rfl) o2 h2
  exact muls_walk a0 a1 a2 n2 c2 l2 W w2
theorem tmul_nil (b : BitVec 32) (w : World) :
    Calls Try.prog 16 #[.pointer none, .int .u32 (nb32 b)] w fun e w' => e = .returned (.int .u32 0) ∧ w = w' := by
  go_enter Try.func16, Try.ntmps16
  go_wp2
  go_ret
  exact ⟨rfl, rfl⟩
theorem sum_none (w : World) :
    Calls Try.prog 15 #[.slice none 0 0] w fun e w' => e = .returned (.int .u32 0) ∧ w = w' :=
  sum_any none 0 0 [] w ⟨rfl, by unfold maxLen; omega, fun i hi => by omega⟩
theorem by_0 (w : World) :
    Calls Try.prog 11 #[.int .u32 0] w fun e w' => e = .returned (.pointer (some ⟨w.heap.size, 0, none⟩)) ∧ Below w.heap.size w w' ∧ Has w' w.heap.size 44 (tab 0#32) := by_any 0#32 w
theorem by_1 (w : World) :
    Calls Try.prog 11 #[.int .u32 1] w fun e w' => e = .returned (.pointer (some ⟨w.heap.size, 0, none⟩)) ∧ Below w.heap.size w w' ∧ Has w' w.heap.size 44 (tab 1#32) := by_any 1#32 w
theorem none_walk (a : BitVec 32) (w : World) :
    Calls Try.prog 9 #[.int .u32 (nb32 a)] w fun e w' => e = .returned (.bool true) ∧ Below w.heap.size w w' := by
  have h0 : (Gf.mul 0#32 a == 0#32) = true := by rw [beq_iff_eq]; exact Gf.zero_mul a
  have h1 : (Gf.mul 1#32 a == a) = true := by rw [beq_iff_eq]; exact Gf.one_mul a
  go_enter Try.func9, Try.ntmps9
  go_wp2_with (first
    | (go_at_call 10; refine (alive01 _).mono ?_; rintro e w' ⟨rfl, rfl⟩)
    | (go_at_call 15; refine (sum_none _).mono ?_; rintro e w' ⟨rfl, rfl⟩)
    | (go_at_call 11; with_reducible (refine (by_0 _).mono ?_; rintro e w1 ⟨rfl, hb1, hh1⟩))
    | (go_at_call 11; with_reducible (refine (by_1 _).mono ?_; rintro e w3 ⟨rfl, hb3, hh3⟩))
    | (go_at_call 16; with_reducible (refine (tmul_nil _ _).mono ?_; rintro e w' ⟨rfl, rfl⟩))
    | (go_at_call 16; with_reducible (refine (tmul_any _ _ _ _ hh1).mono ?_; rintro e w2 ⟨rfl, hd2⟩; have hb2 := hd2.grown hb1))
    | (go_at_call 16; with_reducible (refine (tmul_any _ _ _ _ hh3).mono ?_; rintro e w4 ⟨rfl, hd4⟩)))
  go_ret
  exact ⟨rfl, hd4.grown (hb2.trans (hb3.mono hb2.size))⟩
theorem gfNoneWalk {H : Type} {enc : TypeId × Value → H} (W : World) (base : Nat) (v0 : Value) (d0 : DataW H) (p0 : List MemPlace)
    (o0 : Value.okWide Try.prog W .any base 22 v0)
    (h0 : DataW.Trod enc Try.prog W 0 (fun _ => true) true 22 v0 d0 p0) :
    Calls Try.prog 9 #[v0] W fun e w' => e = .returned (.bool true) ∧ Below W.heap.size W w' := by
  obtain ⟨a0, rfl⟩ := arg_u32 Try.underlying22 o0 h0
  exact none_walk a0 W
end Go.Proofs.Ytjcfnlmmebhldaa
