/- The statements of layer 1 walked: that the elements are a field; squares, roots, powers; traces and solutions. -/
import Derived.Test.YtjcfnlmmebhldaaRows
import Derived.Test.YtjcfnlmmebhldaaGfW2
import Derived.Test.YtjcfnlmmebhldaaRow
import Derived.WalkKit
import Derived.ProofKit
import Derived.OpenShut
namespace Go.Proofs.Ytjcfnlmmebhldaa
open Go.ChangeShapes Go.WideShapes Go.ChangeAt Go.RowKit
theorem mul_ex (w : World) :
    Calls Try.prog 12 #[.int .u32 2, .int .u32 2147483648] w fun e w' => e = .returned (.int .u32 (nb32 0x8d#32)) ∧ w = w' := by
  have e : Gf.mul 2#32 2147483648#32 = 0x8d#32 := by decide +kernel
  rw [← e]
  exact mul_any 2#32 2147483648#32 w
theorem mul_1 (a : BitVec 32) (w : World) :
    Calls Try.prog 12 #[.int .u32 (nb32 a), .int .u32 1] w fun e w' => e = .returned (.int .u32 (nb32 a)) ∧ w = w' := by
  have := mul_any a 1#32 w
  rwa [show Gf.mul a 1#32 = a from Gf.mul_one a] at this
theorem mul_0 (a : BitVec 32) (w : World) :
    Calls Try.prog 12 #[.int .u32 (nb32 a), .int .u32 0] w fun e w' => e = .returned (.int .u32 (nb32 0#32)) ∧ w = w' := by
  have := mul_any a 0#32 w
  rwa [show Gf.mul a 0#32 = 0#32 from Gf.mul_zero a] at this
theorem alive01 (w : World) :
    Calls Try.prog 10 #[] w fun e w' => e = .returned (.bool true) ∧ w = w' := by
  go_enter Try.func10, Try.ntmps10
  go_wp2_with (go_at_call 12; refine (mul_ex _).mono ?_; rintro e w' ⟨rfl, rfl⟩)
  go_ret
  exact ⟨rfl, rfl⟩
theorem field_walk (a b c : BitVec 32) (w : World) :
    Calls Try.prog 6 #[.int .u32 (nb32 a), .int .u32 (nb32 b), .int .u32 (nb32 c)] w fun e w' => e = .returned (.bool true) ∧ Below w.heap.size w w' := by
  have h1 : (Gf.mul a (Gf.mul b c) == Gf.mul (Gf.mul a b) c) = true := by simp [Gf.mul_assoc]
  have h2 : (Gf.mul a b == Gf.mul b a) = true := by simp [Gf.mul_comm a b]
  have h3 : (Gf.mul a (b ^^^ c) == Gf.mul a b ^^^ Gf.mul a c) = true := by simp [Gf.mul_xor]
  by_cases ha : a = 0#32
  · have h4 : (Gf.inv a != 0#32) = false := by rw [ha]; simpa using Gf.inv_zero
    have h5 : (a != 0#32) = false := by simp [ha]
    have h6 : (a == 0#32) = true := by simp [ha]
    clear ha
    cases h7 : (Gf.mul a b != 0#32)
    all_goals
      go_enter Try.func6, Try.ntmps6
      go_wp2_with (first
        | (go_at_call 10; refine (alive01 _).mono ?_; rintro e w' ⟨rfl, rfl⟩)
        | (go_at_call 19; refine (inverse_any _ _).mono ?_; rintro e w' ⟨rfl, rfl⟩)
        | (go_at_call 12; with_reducible (refine (mul_1 _ _).mono ?_; rintro e w' ⟨rfl, rfl⟩))
        | (go_at_call 12; with_reducible (refine (mul_0 _ _).mono ?_; rintro e w' ⟨rfl, rfl⟩))
        | (go_at_call 12; with_reducible (refine (mul_any _ _ _).mono ?_; rintro e w' ⟨rfl, rfl⟩)))
      go_ret
      exact ⟨rfl, Below.refl _ _⟩
  · have h4 : (Gf.mul a (Gf.inv a) != 1#32) = false := by simpa using Gf.mul_inv ha
    have h5 : (a != 0#32) = true := by simp [ha]
    have h6 : (a == 0#32) = false := by simp [ha]
    have h7 : (Gf.mul a b != 0#32) = false ∧ (b == 0#32) = true ∨ (Gf.mul a b != 0#32) = true ∧ (b == 0#32) = false := by
      by_cases hb : b = 0#32
      · left; rw [hb]; exact ⟨by simpa using Gf.mul_zero a, by simp⟩
      · right
        refine ⟨?_, by simp [hb]⟩
        rw [bne_iff_ne]
        intro h
        rcases Gf.no_divisors h with h | h
        · exact ha h
        · exact hb h
    clear ha
    rcases h7 with ⟨h7, h8⟩ | ⟨h7, h8⟩
    all_goals
      go_enter Try.func6, Try.ntmps6
      go_wp2_with (first
        | (go_at_call 10; refine (alive01 _).mono ?_; rintro e w' ⟨rfl, rfl⟩)
        | (go_at_call 19; refine (inverse_any _ _).mono ?_; rintro e w' ⟨rfl, rfl⟩)
        | (go_at_call 12; with_reducible (refine (mul_1 _ _).mono ?_; rintro e w' ⟨rfl, rfl⟩))
        | (go_at_call 12; with_reducible (refine (mul_0 _ _).mono ?_; rintro e w' ⟨rfl, rfl⟩))
        | (go_at_call 12; with_reducible (refine (mul_any _ _ _).mono ?_; rintro e w' ⟨rfl, rfl⟩)))
      go_ret
      exact ⟨rfl, Below.refl _ _⟩
theorem gfFieldWalk {H : Type} {enc : TypeId × Value → H} (W : World) (base : Nat) (v0 : Value) (d0 : DataW H) (p0 : List MemPlace) (v1 : Value) (d1 : DataW H) (p1 : List MemPlace) (v2 : Value) (d2 : DataW H) (p2 : List MemPlace)
    (o0 : Value.okWide Try.prog W .any base 22 v0) (o1 : Value.okWide Try.prog W .any base 22 v1) (o2 : Value.okWide Try.prog W .any base 22 v2)
    (h0 : DataW.Trod enc Try.prog W 0 (fun _ => true) true 22 v0 d0 p0) (h1 : DataW.Trod enc Try.prog W 0 (fun _ => true) true 22 v1 d1 p1) (h2 : DataW.Trod enc Try.prog W 0 (fun _ => true) true 22 v2 d2 p2) :
    Calls Try.prog 6 #[v0, v1, v2] W fun e w' => e = .returned (.bool true) ∧ Below W.heap.size W w' := by
  obtain ⟨a0, rfl⟩ := arg_u32 Try.underlying22 o0 h0
  obtain ⟨a1, rfl⟩ := arg_u32 Try.underlying22 o1 h1
  obtain ⟨a2, rfl⟩ := arg_u32 Try.underlying22 o2 h2
  exact field_walk a0 a1 a2 W
end Go.Proofs.Ytjcfnlmmebhldaa
