/- what the calls of package roots answer, as one premise; law04's common parts -/
import Derived.Test.YtamigcbodplmcaaRoS
import Derived.Test.YtamigcbodplmcaaPz
namespace Go.Proofs.Ytamigcbodplmcaa
open Go Go.RowKit Go.ChangeShapes Go.WideShapes
/-- what may be looked at -/
def Po.Fits (l : List (BitVec 32)) : Prop := Po.len1 l ≠ 0 ∧ Po.len1 l ≤ 61
theorem Po.rts_ex : Po.rts [2#32, 3#32, 1#32] = [1#32, 2#32] := by
  have h : Po.fromL [1#32, 2#32] = [2#32, 3#32, 1#32] := by decide +kernel
  rw [← h]
  exact Po.rts_from (List.pairwise_cons.2 ⟨fun b hb => by rw [List.mem_singleton.1 hb]; decide, List.pairwise_singleton _ _⟩)
theorem Po.fits_ex : Po.Fits [2#32, 3#32, 1#32] := by
  have : Po.len1 [2#32, 3#32, 1#32] = 3 := by decide +kernel
  exact ⟨by omega, by omega⟩
end Go.Proofs.Ytamigcbodplmcaa
