/- The statement GfTraces of layer 1 walked. -/
import Derived.Test.YtjcfnlmmebhldaaGfLaws
namespace Go.Proofs.Ytjcfnlmmebhldaa
open Go.ChangeShapes Go.WideShapes Go.ChangeAt Go.RowKit
theorem and_not_one (y : BitVec 32) : y &&& ~~~1#32 = y ∨ y &&& ~~~1#32 = y ^^^ 1#32 := by
  have e : y &&& ~~~1#32 = y ^^^ (y &&& 1#32) :=
    Gf.lin_ext (f := fun y => y &&& ~~~1#32) (g := fun y => y ^^^ (y &&& 1#32)) (Gf.lin_and _) (Gf.Lin.id.add (Gf.lin_and _)) (by decide +kernel) y
  have h : (y &&& 1#32) &&& 0xfffffffe#32 = 0 :=
    Gf.lin_ext (f := fun y => (y &&& 1#32) &&& 0xfffffffe#32) (g := fun _ => 0) ((Gf.lin_and _).comp (Gf.lin_and _)) Gf.Lin.const0 (by decide +kernel) y
  rw [e]
  rcases Gf.bit_of_and h with h | h
  · left; rw [h]; exact BitVec.xor_zero
  · right; rw [h]; rfl
theorem even_and_not_one (y : BitVec 32) : (y &&& ~~~1#32).toNat % 2 = 0 := by
  have h : (y &&& ~~~1#32) &&& 1#32 = 0#32 :=
    Gf.lin_ext (f := fun y => (y &&& ~~~1#32) &&& 1#32) (g := fun _ => 0#32) ((Gf.lin_and _).comp (Gf.lin_and _)) Gf.Lin.const0 (by decide +kernel) y
  have := congrArg BitVec.toNat h
  rw [BitVec.toNat_and] at this
  rw [← Nat.and_one_is_mod]
  exact this
theorem square_one : Gf.square 1#32 = 1#32 := by decide +kernel
theorem solve_solves {c : BitVec 32} (h : Gf.trace c 32 = 0#32) : Gf.square (solveY c) ^^^ solveY c = c := by
  have hy : solveY c = Gf.half c 32 &&& ~~~1#32 := if_pos h
  have hs := Gf.half_solves c
  rw [h, show Gf.mul Gf.traced 0#32 = 0#32 from Gf.mul_zero _, BitVec.xor_zero] at hs
  rw [hy]
  rcases and_not_one (Gf.half c 32) with e | e
  · rw [e, hs]
  · rw [e, Gf.lin_square, square_one]
    have e2 : ∀ p q r : BitVec 32, p ^^^ r ^^^ (q ^^^ r) = p ^^^ q ^^^ (r ^^^ r) := fun p q r => by ac_rfl
    rw [e2, BitVec.xor_self, BitVec.xor_zero, hs]
theorem solve_even (c : BitVec 32) : (solveY c).toNat % 2 = 0 := by
  unfold solveY
  split
  · exact even_and_not_one _
  · rfl
theorem traces_walk (a b : BitVec 32) (w : World) :
    Calls Try.prog 8 #[.int .u32 (u32 a), .int .u32 (u32 b)] w fun e w' => e = .returned (.bool true) ∧ Grown w w' := by
  have h1 : decide (u32 (Gf.trace a 32) < 2) = true := by
    rcases Gf.trace_bit a with h | h <;> rw [h] <;> decide
  have h2 : (Gf.trace (a ^^^ b) 32 == Gf.trace a 32 ^^^ Gf.trace b 32) = true := by rw [beq_iff_eq]; exact Gf.lin_trace 32 a b
  have h3 : (Gf.trace (Gf.square a) 32 == Gf.trace a 32) = true := by rw [beq_iff_eq]; exact Gf.trace_square a
  have h4 : solveB (Gf.square b ^^^ b) = true := by
    unfold solveB; rw [beq_iff_eq]
    have := Gf.lin_trace 32 (Gf.square b) b
    simp only at this
    rw [this, Gf.trace_square, BitVec.xor_self]; rfl
  by_cases ht : Gf.trace a 32 = 0#32
  · have h5 : solveB a = true := by unfold solveB; rw [beq_iff_eq]; exact ht
    have h6 : (Gf.trace a 32 == 0#32) = true := by rw [beq_iff_eq]; exact ht
    have h7 : (Gf.square (solveY a) ^^^ solveY a == a) = true := by rw [beq_iff_eq]; exact solve_solves ht
    have h8 : (u32 (solveY a)).tmod 2 = 0 := by
      have := solve_even a
      unfold u32
      rw [Int.tmod_eq_emod_of_nonneg (by omega)]
      omega
    clear ht
    go_enter Try.func8, Try.ntmps8
    go_wp2_with (first
      | (go_at_call 10; refine (alive01 _).mono ?_; rintro e w' ⟨rfl, rfl⟩)
      | (go_at_call 25; refine (trace_any _ _).mono ?_; rintro e w' ⟨rfl, rfl⟩)
      | (go_at_call 14; refine (square_any _ _).mono ?_; rintro e w' ⟨rfl, rfl⟩)
      | (go_at_call 23; refine (solve_any _ _).mono ?_; rintro e w' ⟨rfl, rfl⟩))
    go_ret
    exact ⟨rfl, Grown.refl _⟩
  · have h5 : solveB a = false := by unfold solveB; rw [beq_eq_false_iff_ne]; exact ht
    have h6 : (Gf.trace a 32 == 0#32) = false := by rw [beq_eq_false_iff_ne]; exact ht
    have h7 : (solveY a == 0#32) = true := by rw [beq_iff_eq]; exact if_neg ht
    clear ht
    go_enter Try.func8, Try.ntmps8
    go_wp2_with (first
      | (go_at_call 10; refine (alive01 _).mono ?_; rintro e w' ⟨rfl, rfl⟩)
      | (go_at_call 25; refine (trace_any _ _).mono ?_; rintro e w' ⟨rfl, rfl⟩)
      | (go_at_call 14; refine (square_any _ _).mono ?_; rintro e w' ⟨rfl, rfl⟩)
      | (go_at_call 23; refine (solve_any _ _).mono ?_; rintro e w' ⟨rfl, rfl⟩))
    go_ret
    exact ⟨rfl, Grown.refl _⟩
theorem gfTracesWalk (a0 : Int) (a1 : Int) (w0 : (Lit.int .u32 a0).wf = true) (w1 : (Lit.int .u32 a1).wf = true) (w : World) :
    Calls Try.prog 8 #[.int .u32 a0, .int .u32 a1] w fun e w' => e = .returned (.bool true) ∧ Grown w w' := by
  obtain ⟨a, rfl⟩ := u32_of_wf w0
  obtain ⟨b, rfl⟩ := u32_of_wf w1
  exact traces_walk a b w
end Go.Proofs.Ytjcfnlmmebhldaa
