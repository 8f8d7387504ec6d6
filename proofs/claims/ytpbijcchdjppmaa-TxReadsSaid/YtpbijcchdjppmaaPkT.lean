/- the reference's Text, Hash; strings -/
import Derived.Test.YtpbijcchdjppmaaSg
import Derived.Test.YtpbijcchdjppmaaPkC
namespace Go.Proofs.Ytpbijcchdjppmaa
open Go Go.RowKit Go.ChangeShapes Go.WideShapes
theorem strCells_strB (l : List (BitVec 8)) : Lib.strCells (strB l) = blist l := by
  unfold Lib.strCells strB strOfNums blist
  apply List.ext_getElem?
  intro i
  simp only [List.map_map, List.getElem?_map]
  cases l[i]? with
  | none => rfl
  | some x =>
    have hx := x.isLt
    show some (Value.int .u8 ((UInt8.ofNat (nb8 x).toNat).toNat : Int)) = some (Value.int .u8 (nb8 x))
    rw [show (nb8 x).toNat = x.toNat from rfl, UInt8.toNat_ofNat_of_lt' hx]
    rfl
end Go.Proofs.Ytpbijcchdjppmaa
