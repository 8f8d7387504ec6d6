/- what package digest answers, as a premise; the example -/
import Derived.Test.YtpbijcchdjppmaaDoorDgI
import Derived.Test.YtpbijcchdjppmaaDoorDgA
import Derived.Test.YtpbijcchdjppmaaDoorLz
namespace Go.Proofs.YtpbijcchdjppmaaDoor
open Go Go.RowKit Go.ChangeShapes Go.WideShapes
end Go.Proofs.YtpbijcchdjppmaaDoor
