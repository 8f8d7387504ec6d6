/- what package digest answers, as a premise; the example -/
import Derived.Test.YtcedecljbgailaaDoorDgy
import Derived.Test.YtcedecljbgailaaDoorDgA
import Derived.Test.YtcedecljbgailaaDoorLz
namespace Go.Proofs.YtcedecljbgailaaDoor
open Go Go.RowKit Go.ChangeShapes Go.WideShapes
end Go.Proofs.YtcedecljbgailaaDoor
