/- The reference's values, derivatives, division. -/
import Derived.Test.YtlackhjlnoefcaaPoR3
namespace Go.Proofs.Ytlackhjlnoefcaa
open Go Go.RowKit
end Go.Proofs.Ytlackhjlnoefcaa
