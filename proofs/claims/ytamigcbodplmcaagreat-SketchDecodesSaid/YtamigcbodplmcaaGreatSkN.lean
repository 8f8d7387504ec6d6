/- law05's own helpers: none -/
import Derived.Test.YtamigcbodplmcaaGreatSkM
import Derived.Test.YtamigcbodplmcaaGreatPz
import Derived.Test.YtamigcbodplmcaaGreatWe
namespace Go.Proofs.YtamigcbodplmcaaGreat
open Go Go.RowKit Go.ChangeShapes Go.WideShapes
end Go.Proofs.YtamigcbodplmcaaGreat
