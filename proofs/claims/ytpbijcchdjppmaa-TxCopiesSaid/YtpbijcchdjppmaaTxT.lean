/- the reference's put (mktxt.py) -/
import Derived.Test.YtpbijcchdjppmaaTxK
import Derived.Test.YtpbijcchdjppmaaPkT
namespace Go.Proofs.Ytpbijcchdjppmaa
open Go Go.RowKit Go.ChangeShapes Go.WideShapes
theorem Tx.take_snoc {α : Type} {l : List α} {i : Nat} {x : α} (h : l[i]? = some x) : l.take (i + 1) = l.take i ++ [x] := by
  obtain ⟨h2, h3⟩ := List.getElem?_eq_some_iff.1 h
  rw [List.take_succ_eq_append_getElem h2, h3]
theorem bytes_lit (w : World) (y : BitVec 8) : Bytes8 (w.alloc (.cells #[.int .u8 (nb8 y)] 5)) (some ⟨w.heap.size, 0, none⟩) 1 [y] := by
  refine ⟨rfl, by unfold maxLen; omega, fun i hi => ⟨_, rfl, ?_⟩⟩
  obtain rfl : i = 0 := by omega
  exact (Has.fresh w _ _).cell_at rfl
end Go.Proofs.Ytpbijcchdjppmaa
