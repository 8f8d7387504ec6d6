/- what package amount answers, as a premise; the example; AmountTotals over it -/
import Derived.Test.YtpbijcchdjppmaaAmT
import Derived.Test.YtpbijcchdjppmaaEr
import Derived.Test.YtpbijcchdjppmaaFa
import Derived.Deep.RegionHeld3
namespace Go.Proofs.Ytpbijcchdjppmaa
open Go Go.RowKit Go.ChangeShapes Go.WideShapes
def Am.Fees (a b : Int) : Prop := Am.Good a ∧ Am.Good b ∧ b ≤ a
instance (a b : Int) : Decidable (Am.Fees a b) := inferInstanceAs (Decidable (_ ∧ _))
theorem ex_good (z : Int) : ∃ b : Bool, b = true ↔ Am.Good z := ⟨decide (Am.Good z), decide_eq_true_iff⟩
end Go.Proofs.Ytpbijcchdjppmaa
