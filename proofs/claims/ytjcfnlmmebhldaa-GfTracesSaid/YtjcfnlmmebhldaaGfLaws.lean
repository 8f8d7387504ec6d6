/- The statements of layer 1 walked: that the elements are a field; squares, roots, powers; traces and solutions. -/
import Derived.Test.YtjcfnlmmebhldaaRows
import Derived.Test.YtjcfnlmmebhldaaGfW2
import Derived.WalkKit
import Derived.ProofKit
import Derived.OpenShut
namespace Go.Proofs.Ytjcfnlmmebhldaa
open Go.ChangeShapes Go.WideShapes Go.ChangeAt Go.RowKit
theorem u32_of_wf {a : Int} (h : (Lit.int .u32 a).wf = true) : ∃ x : BitVec 32, a = u32 x := by
  have := bounds_u32 h
  exact u32_of_bounds this.1 (by omega)
theorem mul_ex (w : World) :
    Calls Try.prog 12 #[.int .u32 2, .int .u32 2147483648] w fun e w' => e = .returned (.int .u32 (u32 0x8d#32)) ∧ w = w' := by
  have e : Gf.mul 2#32 2147483648#32 = 0x8d#32 := by decide +kernel
  rw [← e]
  exact mul_any 2#32 2147483648#32 w
theorem mul_1 (a : BitVec 32) (w : World) :
    Calls Try.prog 12 #[.int .u32 (u32 a), .int .u32 1] w fun e w' => e = .returned (.int .u32 (u32 a)) ∧ w = w' := by
  have := mul_any a 1#32 w
  rwa [show Gf.mul a 1#32 = a from Gf.mul_one a] at this
theorem mul_0 (a : BitVec 32) (w : World) :
    Calls Try.prog 12 #[.int .u32 (u32 a), .int .u32 0] w fun e w' => e = .returned (.int .u32 (u32 0#32)) ∧ w = w' := by
  have := mul_any a 0#32 w
  rwa [show Gf.mul a 0#32 = 0#32 from Gf.mul_zero a] at this
theorem alive01 (w : World) :
    Calls Try.prog 10 #[] w fun e w' => e = .returned (.bool true) ∧ w = w' := by
  go_enter Try.func10, Try.ntmps10
  go_wp2_with (go_at_call 12; refine (mul_ex _).mono ?_; rintro e w' ⟨rfl, rfl⟩)
  go_ret
  exact ⟨rfl, rfl⟩
theorem field_walk (a b c : BitVec 32) (w : World) :
    Calls Try.prog 6 #[.int .u32 (u32 a), .int .u32 (u32 b), .int .u32 (u32 c)] w fun e w' => e = .returned (.bool true) ∧ Grown w w' := by
  have h1 : (Gf.mul a (Gf.mul b c) == Gf.mul (Gf.mul a b) c) = true := by simp [Gf.mul_assoc]
  have h2 : (Gf.mul a b == Gf.mul b a) = true := by simp [Gf.mul_comm a b]
  have h3 : (Gf.mul a (b ^^^ c) == Gf.mul a b ^^^ Gf.mul a c) = true := by simp [Gf.mul_xor]
  by_cases ha : a = 0#32
  · have h4 : (Gf.inv a != 0#32) = false := by rw [ha]; simpa using Gf.inv_zero
    have h5 : (a != 0#32) = false := by simp [ha]
    have h6 : (a == 0#32) = true := by simp [ha]
    clear ha
    cases h7 : (Gf.mul a b != 0#32)
    all_goals
      go_enter Try.func6, Try.ntmps6
      go_wp2_with (first
        | (go_at_call 10; refine (alive01 _).mono ?_; rintro e w' ⟨rfl, rfl⟩)
        | (go_at_call 19; refine (inverse_any _ _).mono ?_; rintro e w' ⟨rfl, rfl⟩)
        | (go_at_call 12; with_reducible (refine (mul_1 _ _).mono ?_; rintro e w' ⟨rfl, rfl⟩))
        | (go_at_call 12; with_reducible (refine (mul_0 _ _).mono ?_; rintro e w' ⟨rfl, rfl⟩))
        | (go_at_call 12; with_reducible (refine (mul_any _ _ _).mono ?_; rintro e w' ⟨rfl, rfl⟩)))
      go_ret
      exact ⟨rfl, Grown.refl _⟩
  · have h4 : (Gf.mul a (Gf.inv a) != 1#32) = false := by simpa using Gf.mul_inv ha
    have h5 : (a != 0#32) = true := by simp [ha]
    have h6 : (a == 0#32) = false := by simp [ha]
    have h7 : (Gf.mul a b != 0#32) = false ∧ (b == 0#32) = true ∨ (Gf.mul a b != 0#32) = true ∧ (b == 0#32) = false := by
      by_cases hb : b = 0#32
      · left; rw [hb]; exact ⟨by simpa using Gf.mul_zero a, by simp⟩
      · right
        refine ⟨?_, by simp [hb]⟩
        rw [bne_iff_ne]
        intro h
        rcases Gf.no_divisors h with h | h
        · exact ha h
        · exact hb h
    clear ha
    rcases h7 with ⟨h7, h8⟩ | ⟨h7, h8⟩
    all_goals
      go_enter Try.func6, Try.ntmps6
      go_wp2_with (first
        | (go_at_call 10; refine (alive01 _).mono ?_; rintro e w' ⟨rfl, rfl⟩)
        | (go_at_call 19; refine (inverse_any _ _).mono ?_; rintro e w' ⟨rfl, rfl⟩)
        | (go_at_call 12; with_reducible (refine (mul_1 _ _).mono ?_; rintro e w' ⟨rfl, rfl⟩))
        | (go_at_call 12; with_reducible (refine (mul_0 _ _).mono ?_; rintro e w' ⟨rfl, rfl⟩))
        | (go_at_call 12; with_reducible (refine (mul_any _ _ _).mono ?_; rintro e w' ⟨rfl, rfl⟩)))
      go_ret
      exact ⟨rfl, Grown.refl _⟩
theorem gfFieldWalk (a0 : Int) (a1 : Int) (a2 : Int) (w0 : (Lit.int .u32 a0).wf = true) (w1 : (Lit.int .u32 a1).wf = true) (w2 : (Lit.int .u32 a2).wf = true) (w : World) :
    Calls Try.prog 6 #[.int .u32 a0, .int .u32 a1, .int .u32 a2] w fun e w' => e = .returned (.bool true) ∧ Grown w w' := by
  obtain ⟨a, rfl⟩ := u32_of_wf w0
  obtain ⟨b, rfl⟩ := u32_of_wf w1
  obtain ⟨c, rfl⟩ := u32_of_wf w2
  exact field_walk a b c w
end Go.Proofs.Ytjcfnlmmebhldaa
