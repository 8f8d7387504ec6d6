/- What the polynomials' laws have in common. -/
import Derived.Test.YtlackhjlnoefcaaPoR5
import Derived.BigQuiet
namespace Go.Proofs.Ytlackhjlnoefcaa
open Go Go.RowKit
end Go.Proofs.Ytlackhjlnoefcaa
