/- The statement GfTraces of layer 1 walked. -/
import Derived.Test.YtjcfnlmmebhldaaGfLaws
namespace Go.Proofs.Ytjcfnlmmebhldaa
open Go.ChangeShapes Go.WideShapes Go.ChangeAt Go.RowKit
theorem and_not_one (y : BitVec 32) : y &&& ~~~1#32 = y ∨ y &&& ~~~1#32 = y ^^^ 1#32 := by
  have e : y &&& ~~~1#32 = y ^^^ (y &&& 1#32) :=
    Gf.lin_ext (f := fun y => y &&& ~~~1#32) (g := fun y => y ^^^ (y &&& 1#32)) (Gf.lin_and _) (Gf.Lin.id.add (Gf.lin_and _)) (by decide +kernel) y
  have h : (y &&& 1#32) &&& 0xfffffffe#32 = 0 :=
    Gf.lin_ext (f := fun y => (y &&& 1#32) &&& 0xfffffffe#32) (g := fun _ => 0) ((Gf.lin_and _).comp (Gf.lin_and _)) Gf.Lin.const0 (by decide +kernel) y
  rw [e]
  rcases Gf.bit_of_and h with h | h
  · left; rw [h]; exact BitVec.xor_zero
  · right; rw [h]; rfl
theorem even_and_not_one (y : BitVec 32) : (y &&& ~~~1#32).toNat % 2 = 0 := by
  have h : (y &&& ~~~1#32) &&& 1#32 = 0#32 :=
    Gf.lin_ext (f := fun y => (y &&& ~~~1#32) &&& 1#32) (g := fun _ => 0#32) ((Gf.lin_and _).comp (Gf.lin_and _)) Gf.Lin.const0 (by decide +kernel) y
  have := congrArg BitVec.toNat h
  rw [BitVec.toNat_and] at this
  rw [← Nat.and_one_is_mod]
  exact this
theorem square_one : Gf.square 1#32 = 1#32 := by decide +kernel
theorem solve_solves {c : BitVec 32} (h : Gf.trace c 32 = 0#32) : Gf.square (solveY c) ^^^ solveY c = c := by
  have hy : solveY c = Gf.half c 32 &&& ~~~1#32 := if_pos h
  have hs := Gf.half_solves c
  rw [h, show Gf.mul Gf.traced 0#32 = 0#32 from Gf.mul_zero _, BitVec.xor_zero] at hs
  rw [hy]
  rcases and_not_one (Gf.half c 32) with e | e
  · rw [e, hs]
  · rw [e, Gf.lin_square, square_one]
    have e2 : ∀ p q r : BitVec 32, p ^^^ r ^^^ (q ^^^ r) = p ^^^ q ^^^ (r ^^^ r) := fun p q r => by ac_rfl
    rw [e2, BitVec.xor_self, BitVec.xor_zero, hs]
theorem solve_even (c : BitVec 32) : (solveY c).toNat % 2 = 0 := by
  unfold solveY
  split
  · exact even_and_not_one _
  · rfl
theorem traces_walk (a b : BitVec 32) (w : World) :
    Calls Try.prog 8 #[.int .u32 (nb32 a), .int .u32 (nb32 b)] w fun e w' => e = .returned (.bool true) ∧ Below w.heap.size w w' := by
  have h1 : decide (nb32 (Gf.trace a 32) < 2) = true := by
    rcases Gf.trace_bit a with h | h <;> rw [h] <;> decide
  have h2 : (Gf.trace (a ^^^ b) 32 == Gf.trace a 32 ^^^ Gf.trace b 32) = true := by rw [beq_iff_eq]; exact Gf.lin_trace 32 a b
  have h3 : (Gf.trace (Gf.square a) 32 == Gf.trace a 32) = true := by rw [beq_iff_eq]; exact Gf.trace_square a
  have h4 : solveB (Gf.square b ^^^ b) = true := by
    unfold solveB; rw [beq_iff_eq]
    have := Gf.lin_trace 32 (Gf.square b) b
    simp only at this
    rw [this, Gf.trace_square, BitVec.xor_self]; rfl
  by_cases ht : Gf.trace a 32 = 0#32
  · have h5 : solveB a = true := by unfold solveB; rw [beq_iff_eq]; exact ht
    have h6 : (Gf.trace a 32 == 0#32) = true := by rw [beq_iff_eq]; exact ht
    have h7 : (Gf.square (solveY a) ^^^ solveY a == a) = true := by rw [beq_iff_eq]; exact solve_solves ht
    have h8 : (solveY a % 2#32 == 0#32) = true := by
      rw [beq_iff_eq]
      apply BitVec.eq_of_toNat_eq
      rw [BitVec.toNat_umod]
      exact solve_even a
    clear ht
    go_enter Try.func8, Try.ntmps8
    go_wp2_with (first
      | (go_at_call 10; refine (alive01 _).mono ?_; rintro e w' ⟨rfl, rfl⟩)
      | (go_at_call 25; refine (trace_any _ _).mono ?_; rintro e w' ⟨rfl, rfl⟩)
      | (go_at_call 14; refine (square_any _ _).mono ?_; rintro e w' ⟨rfl, rfl⟩)
      | (go_at_call 23; refine (solve_any _ _).mono ?_; rintro e w' ⟨rfl, rfl⟩))
    go_ret
    exact ⟨rfl, Below.refl _ _⟩
  · have h5 : solveB a = false := by unfold solveB; rw [beq_eq_false_iff_ne]; exact ht
    have h6 : (Gf.trace a 32 == 0#32) = false := by rw [beq_eq_false_iff_ne]; exact ht
    have h7 : (solveY a == 0#32) = true := by rw [beq_iff_eq]; exact if_neg ht
    clear ht
    go_enter Try.func8, Try.ntmps8
    go_wp2_with (first
      | (go_at_call 10; refine (alive01 _).mono ?_; rintro e w' ⟨rfl, rfl⟩)
      | (go_at_call 25; refine (trace_any _ _).mono ?_; rintro e w' ⟨rfl, rfl⟩)
      | (go_at_call 14; refine (square_any _ _).mono ?_; rintro e w' ⟨rfl, rfl⟩)
      | (go_at_call 23; refine (solve_any _ _).mono ?_; rintro e w' ⟨rfl, rfl⟩))
    go_ret
    exact ⟨rfl, Below.refl _ _⟩
theorem gfTracesWalk {H : Type} {enc : TypeId × Value → H} (W : World) (base : Nat) (v0 : Value) (d0 : DataW H) (p0 : List MemPlace) (v1 : Value) (d1 : DataW H) (p1 : List MemPlace)
    (o0 : Value.okWide Try.prog W .any base 22 v0) (o1 : Value.okWide Try.prog W .any base 22 v1)
    (h0 : DataW.Trod enc Try.prog W 0 (fun _ => true) true 22 v0 d0 p0) (h1 : DataW.Trod enc Try.prog W 0 (fun _ => true) true 22 v1 d1 p1) :
    Calls Try.prog 8 #[v0, v1] W fun e w' => e = .returned (.bool true) ∧ Below W.heap.size W w' := by
  obtain ⟨a0, rfl⟩ := arg_u32 Try.underlying22 o0 h0
  obtain ⟨a1, rfl⟩ := arg_u32 Try.underlying22 o1 h1
  exact traces_walk a0 a1 W
end Go.Proofs.Ytjcfnlmmebhldaa
