/- TxChecksWalk (mktxz.py) -/
import Derived.Test.YtpbijcchdjppmaaTxD
import Derived.Test.YtpbijcchdjppmaaTxLC
namespace Go.Proofs.Ytpbijcchdjppmaa
open Go Go.RowKit Go.ChangeShapes Go.WideShapes
set_option maxRecDepth 100000 in
theorem txChecksWalk {H : Type} {enc : TypeId × Value → H} (W : World) (base : Nat) (v0 : Value) (d0 : DataW H) (p0 : List MemPlace) (v1 : Value) (d1 : DataW H) (p1 : List MemPlace)
    (o0 : Value.okWide Try.prog W .any base 25 v0) (o1 : Value.okWide Try.prog W .any base 25 v1)
    (h0 : DataW.Trod enc Try.prog W 0 (fun _ => true) true 25 v0 d0 p0) (h1 : DataW.Trod enc Try.prog W 0 (fun _ => true) true 25 v1 d1 p1) :
    Calls Try.prog 3 #[v0, v1] W fun e w' => e = .returned (.bool true) ∧ Below W.heap.size W w' :=
  txChecksWalkK txOk W base v0 d0 p0 v1 d1 p1 o0 o1 h0 h1
end Go.Proofs.Ytpbijcchdjppmaa
