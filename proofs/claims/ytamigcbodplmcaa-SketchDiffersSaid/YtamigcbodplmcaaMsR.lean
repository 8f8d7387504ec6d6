/- the reference's Length, Keeps -/
import Derived.Test.YtamigcbodplmcaaMsS
namespace Go.Proofs.Ytamigcbodplmcaa
open Go Go.RowKit Go.ChangeShapes Go.WideShapes
theorem Ms.take_step {lc l : List (BitVec 32)} {j q : Nat} (hj : j < lc.length) (hq : j ≤ q) : Po.mulL (lc.take (j + 1)) (Po.cf l) q = Po.mulL (lc.take j) (Po.cf l) q ^^^ Gf.mul (Po.cf lc j) (Po.cf l (q - j)) := by
  rw [Po.mulL_take hj]
  show _ ^^^ (if j ≤ q then Gf.mul (Po.cf lc j) (Po.cf l (q - j)) else 0) = _
  rw [if_pos hq]
end Go.Proofs.Ytamigcbodplmcaa
