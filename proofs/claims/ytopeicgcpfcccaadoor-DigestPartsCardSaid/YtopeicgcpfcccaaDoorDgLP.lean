/- DigestParts: the walk -/
import Derived.Test.YtopeicgcpfcccaaDoorDgL
import Derived.Test.YtopeicgcpfcccaaDoorDgP
namespace Go.Proofs.YtopeicgcpfcccaaDoor
open Go Go.RowKit Go.ChangeShapes Go.WideShapes
theorem digestPartsWalk {H : Type} {enc : TypeId × Value → H} (W : World) (base : Nat) (v0 : Value) (d0 : DataW H) (p0 : List MemPlace)
    (o0 : Value.okWide Tryd.prog W .any base 31 v0) (h0 : DataW.Trod enc Tryd.prog W 0 (fun _ => true) true 31 v0 d0 p0) (hL : laidMetH Tryd.prog Rows.digestPartsRow.laid W) :
    Calls Tryd.prog 4 #[v0] W fun e w' => e = .returned (.bool true) ∧ Below W.heap.size W w' :=
  digestPartsWalkK digestOk W base v0 d0 p0 o0 h0 (laid_dg2 hL)
end Go.Proofs.YtopeicgcpfcccaaDoor
