/- The statement GfTraces of layer 1 walked. -/
import Derived.Test.YtamigcbodplmcaaGz
namespace Go.Proofs.Ytamigcbodplmcaa
open Go.ChangeShapes Go.WideShapes Go.ChangeAt Go.RowKit
theorem and_not_one (y : BitVec 32) : y &&& ~~~1#32 = y ∨ y &&& ~~~1#32 = y ^^^ 1#32 := by
  have e : y &&& ~~~1#32 = y ^^^ (y &&& 1#32) :=
    Gf.lin_ext (f := fun y => y &&& ~~~1#32) (g := fun y => y ^^^ (y &&& 1#32)) (Gf.lin_and _) (Gf.Lin.id.add (Gf.lin_and _)) (by decide +kernel) y
  have h : (y &&& 1#32) &&& 0xfffffffe#32 = 0 :=
    Gf.lin_ext (f := fun y => (y &&& 1#32) &&& 0xfffffffe#32) (g := fun _ => 0) ((Gf.lin_and _).comp (Gf.lin_and _)) Gf.Lin.const0 (by decide +kernel) y
  rw [e]
  rcases Gf.bit_of_and h with h | h
  · left; rw [h]; exact BitVec.xor_zero
  · right; rw [h]; rfl
theorem even_and_not_one (y : BitVec 32) : (y &&& ~~~1#32).toNat % 2 = 0 := by
  have h : (y &&& ~~~1#32) &&& 1#32 = 0#32 :=
    Gf.lin_ext (f := fun y => (y &&& ~~~1#32) &&& 1#32) (g := fun _ => 0#32) ((Gf.lin_and _).comp (Gf.lin_and _)) Gf.Lin.const0 (by decide +kernel) y
  have := congrArg BitVec.toNat h
  rw [BitVec.toNat_and] at this
  rw [← Nat.and_one_is_mod]
  exact this
theorem square_one : Gf.square 1#32 = 1#32 := by decide +kernel
theorem solve_solves {c : BitVec 32} (h : Gf.trace c 32 = 0#32) : Gf.square (solveY c) ^^^ solveY c = c := by
  have hy : solveY c = Gf.half c 32 &&& ~~~1#32 := if_pos h
  have hs := Gf.half_solves c
  rw [h, show Gf.mul Gf.traced 0#32 = 0#32 from Gf.mul_zero _, BitVec.xor_zero] at hs
  rw [hy]
  rcases and_not_one (Gf.half c 32) with e | e
  · rw [e, hs]
  · rw [e, Gf.lin_square, square_one]
    have e2 : ∀ p q r : BitVec 32, p ^^^ r ^^^ (q ^^^ r) = p ^^^ q ^^^ (r ^^^ r) := fun p q r => by ac_rfl
    rw [e2, BitVec.xor_self, BitVec.xor_zero, hs]
theorem solve_even (c : BitVec 32) : (solveY c).toNat % 2 = 0 := by
  unfold solveY
  split
  · exact even_and_not_one _
  · rfl
end Go.Proofs.Ytamigcbodplmcaa
