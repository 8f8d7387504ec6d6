/- the reference: Good, Right, Need, Pays, With -/
import Derived.Test.YtpbijcchdjppmaaRows
import Derived.Test.YtpbijcchdjppmaaB
import Derived.Test.YtpbijcchdjppmaaAmM
import Derived.Lib.Hide
import Derived.IntWalk
import Derived.OpenShut
import Derived.ProofKit
namespace Go.Proofs.Ytpbijcchdjppmaa
open Go Go.RowKit Go.ChangeShapes Go.WideShapes
theorem agood_any (z : Int) (b : Bool) (hb : b = true ↔ Am.Good z) (w : World) :
    Calls Try.prog 45 #[.int .i64 z] w fun e w' => e = .returned (.bool b) ∧ w = w' := by
  have HB := Lib.hid hb
  clear hb
  by_cases h1 : 0 ≤ z
  · by_cases h2 : z ≤ 2100000000000000
    · obtain rfl : b = true := HB.out.2 ⟨h1, h2⟩
      clear HB
      go_enter Try.func45, Try.ntmps45
      go_wp2
      go_ret
      exact ⟨rfl, rfl⟩
    · obtain rfl : b = false := by
        cases b
        · rfl
        · exact absurd (HB.out.1 rfl).2 h2
      clear HB
      go_enter Try.func45, Try.ntmps45
      go_wp2
      go_ret
      exact ⟨rfl, rfl⟩
  · obtain rfl : b = false := by
      cases b
      · rfl
      · exact absurd (HB.out.1 rfl).1 h1
    clear HB
    go_enter Try.func45, Try.ntmps45
    go_wp2
    go_ret
    exact ⟨rfl, rfl⟩
theorem dec_iff (p : Prop) [Decidable p] : decide p = true ↔ p := decide_eq_true_iff
/-- does a fee-rate pay? -/
def Am.Pays (f v per least : Int) : Prop := Am.needs v per ∧ Am.Right f v ∧ Am.need v per ≤ f ∧ least ≤ f
instance (f v per least : Int) : Decidable (Am.Pays f v per least) := inferInstanceAs (Decidable (_ ∧ _))
end Go.Proofs.Ytpbijcchdjppmaa
