/- LockChecks: the walk -/
import Derived.Test.YtcedecljbgailaaDoorTxLd
import Derived.Test.YtcedecljbgailaaDoorLkM
namespace Go.Proofs.YtcedecljbgailaaDoor
open Go Go.RowKit Go.ChangeShapes Go.WideShapes
set_option maxRecDepth 100000 in
theorem lockChecksWalk {H : Type} {enc : TypeId × Value → H} (W : World) (base : Nat) (v0 : Value) (d0 : DataW H) (p0 : List MemPlace) (v1 : Value) (d1 : DataW H) (p1 : List MemPlace)
    (o0 : Value.okWide Tryd.prog W .any base 38 v0) (o1 : Value.okWide Tryd.prog W .any base 36 v1)
    (h0 : DataW.Trod enc Tryd.prog W 0 (fun _ => true) true 38 v0 d0 p0) (h1 : DataW.Trod enc Tryd.prog W 0 (fun _ => true) true 36 v1 d1 p1) (hL : laidMetH Tryd.prog Rows.lockChecksRow.laid W) :
    Calls Tryd.prog 5 #[v0, v1] W fun e w' => e = .returned (.bool true) ∧ Below W.heap.size W w' :=
  lockChecksWalkK lockA lockChk W base v0 d0 p0 v1 d1 p1 o0 o1 h0 h1 (tlaid_dg3 hL).1 (tlaid_dg3 hL).2
end Go.Proofs.YtcedecljbgailaaDoor
