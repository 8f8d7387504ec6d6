/- DigestOrders: the walk -/
import Derived.Test.YtopeicgcpfcccaaDoorDgL
import Derived.Test.YtopeicgcpfcccaaDoorDgO
namespace Go.Proofs.YtopeicgcpfcccaaDoor
open Go Go.RowKit Go.ChangeShapes Go.WideShapes
theorem digestOrdersWalk {H : Type} {enc : TypeId × Value → H} (W : World) (base : Nat) (v0 : Value) (d0 : DataW H) (p0 : List MemPlace) (v1 : Value) (d1 : DataW H) (p1 : List MemPlace)
    (o0 : Value.okWide Tryd.prog W .any base 25 v0) (o1 : Value.okWide Tryd.prog W .any base 25 v1)
    (h0 : DataW.Trod enc Tryd.prog W 0 (fun _ => true) true 25 v0 d0 p0) (h1 : DataW.Trod enc Tryd.prog W 0 (fun _ => true) true 25 v1 d1 p1) (hL : laidMetH Tryd.prog Rows.digestOrdersRow.laid W) :
    Calls Tryd.prog 6 #[v0, v1] W fun e w' => e = .returned (.bool true) ∧ Below W.heap.size W w' :=
  digestOrdersWalkK digestOk W base v0 d0 p0 v1 d1 p1 o0 o1 h0 h1 (laid_dg2 hL)
end Go.Proofs.YtopeicgcpfcccaaDoor
