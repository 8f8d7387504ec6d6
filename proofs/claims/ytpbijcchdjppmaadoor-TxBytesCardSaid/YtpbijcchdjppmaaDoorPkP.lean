/- the reference's ReadNum: whatever is read -/
import Derived.Test.YtpbijcchdjppmaaDoorPkO
namespace Go.Proofs.YtpbijcchdjppmaaDoor
open Go Go.RowKit Go.ChangeShapes Go.WideShapes
def NumPost (w0 : World) (p : Pk.Rd × BitVec 64) (e : Ending) (w' : World) : Prop :=
  (∃ v, e = .returned (.tuple #[v, .int .u64 (nb64 p.2)]) ∧ InV w' p.1 v) ∧ Below w0.heap.size w0 w'
end Go.Proofs.YtpbijcchdjppmaaDoor
