/- The statements of layer 1 walked: that the elements are a field; squares, roots, powers; traces and solutions. -/
import Derived.Test.YtlackhjlnoefcaaRows
import Derived.Test.YtlackhjlnoefcaaGfW2
import Derived.Test.YtlackhjlnoefcaaRow
import Derived.WalkKit
import Derived.ProofKit
import Derived.OpenShut
namespace Go.Proofs.Ytlackhjlnoefcaa
open Go.ChangeShapes Go.WideShapes Go.ChangeAt Go.RowKit
theorem mul_ex (w : World) :
    Calls Try.prog 24 #[.int .u32 2, .int .u32 2147483648] w fun e w' => e = .returned (.int .u32 (nb32 0x8d#32)) ∧ w = w' := by
  have e : Gf.mul 2#32 2147483648#32 = 0x8d#32 := by decide +kernel
  rw [← e]
  exact mul_any 2#32 2147483648#32 w
theorem mul_1 (a : BitVec 32) (w : World) :
    Calls Try.prog 24 #[.int .u32 (nb32 a), .int .u32 1] w fun e w' => e = .returned (.int .u32 (nb32 a)) ∧ w = w' := by
  have := mul_any a 1#32 w
  rwa [show Gf.mul a 1#32 = a from Gf.mul_one a] at this
theorem mul_0 (a : BitVec 32) (w : World) :
    Calls Try.prog 24 #[.int .u32 (nb32 a), .int .u32 0] w fun e w' => e = .returned (.int .u32 (nb32 0#32)) ∧ w = w' := by
  have := mul_any a 0#32 w
  rwa [show Gf.mul a 0#32 = 0#32 from Gf.mul_zero a] at this
end Go.Proofs.Ytlackhjlnoefcaa
