/- DigestRoots: the walk -/
import Derived.Test.YtopeicgcpfcccaaDoorDgL
import Derived.Test.YtopeicgcpfcccaaDoorDgRt
namespace Go.Proofs.YtopeicgcpfcccaaDoor
open Go Go.RowKit Go.ChangeShapes Go.WideShapes
theorem digestRootsWalk {H : Type} {enc : TypeId × Value → H} (W : World) (base : Nat) (v0 : Value) (d0 : DataW H) (p0 : List MemPlace)
    (o0 : Value.okWide Tryd.prog W .any base 33 v0) (h0 : DataW.Trod enc Tryd.prog W 0 (fun _ => true) true 33 v0 d0 p0) (hL : laidMetH Tryd.prog Rows.digestRootsRow.laid W) :
    Calls Tryd.prog 7 #[v0] W fun e w' => e = .returned (.bool true) ∧ Below W.heap.size W w' :=
  digestRootsWalkK digestOk W base v0 d0 p0 o0 h0 (laid_dg2 hL)
end Go.Proofs.YtopeicgcpfcccaaDoor
