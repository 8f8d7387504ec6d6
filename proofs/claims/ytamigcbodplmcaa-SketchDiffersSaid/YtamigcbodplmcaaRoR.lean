/- the reference's roots -/
import Derived.Test.YtamigcbodplmcaaRoT
import Derived.Test.YtamigcbodplmcaaGfSo
import Derived.Test.YtamigcbodplmcaaPz
import Derived.Test.YtamigcbodplmcaaWe
import Derived.StillTailTactics
namespace Go.Proofs.Ytamigcbodplmcaa
open Go Go.RowKit Go.ChangeShapes Go.WideShapes
theorem len3 {l : List (BitVec 32)} (h0 : l ≠ []) (h1 : ∀ r, l ≠ [r]) (h2 : ∀ r s, l ≠ [r, s]) : 3 ≤ l.length := by
  match l, h0, h1, h2 with
  | [], h0, _, _ => exact (h0 rfl).elim
  | [r], _, h1, _ => exact (h1 r rfl).elim
  | [r, s], _, _, h2 => exact (h2 r s rfl).elim
  | _ :: _ :: _ :: _, _, _, _ => simp
theorem ne_0 {n : Nat} (h : n ≠ 0) : ((n : Int) == 0) = false := by simpa using h
end Go.Proofs.Ytamigcbodplmcaa
