/- LockKeys: the walk -/
import Derived.Test.YtcedecljbgailaaDoorTxLd
import Derived.Test.YtcedecljbgailaaDoorLkK
import Derived.Test.YtcedecljbgailaaDoorLkQ
namespace Go.Proofs.YtcedecljbgailaaDoor
open Go Go.RowKit Go.ChangeShapes Go.WideShapes
set_option maxRecDepth 100000 in
theorem lockKeysWalk {H : Type} {enc : TypeId × Value → H} (W : World) (base : Nat) (v0 : Value) (d0 : DataW H) (p0 : List MemPlace) (v1 : Value) (d1 : DataW H) (p1 : List MemPlace) (v2 : Value) (d2 : DataW H) (p2 : List MemPlace)
    (o0 : Value.okWide Tryd.prog W .any base 28 v0) (o1 : Value.okWide Tryd.prog W .any base 30 v1) (o2 : Value.okWide Tryd.prog W .any base 23 v2)
    (h0 : DataW.Trod enc Tryd.prog W 0 (fun _ => true) true 28 v0 d0 p0) (h1 : DataW.Trod enc Tryd.prog W 0 (fun _ => true) true 30 v1 d1 p1) (h2 : DataW.Trod enc Tryd.prog W 0 (fun _ => true) true 23 v2 d2 p2) (hL : laidMetH Tryd.prog Rows.lockKeysRow.laid W) :
    Calls Tryd.prog 3 #[v0, v1, v2] W fun e w' => e = .returned (.bool true) ∧ Below W.heap.size W w' :=
  lockKeysWalkK lockA W base v0 d0 p0 v1 d1 p1 v2 d2 p2 o0 o1 o2 h0 h1 h2 (tlaid_dg3 hL).1 (tlaid_dg3 hL).2
end Go.Proofs.YtcedecljbgailaaDoor
