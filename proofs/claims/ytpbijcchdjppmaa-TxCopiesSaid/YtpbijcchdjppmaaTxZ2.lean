/- TxCopiesWalk (mktxz.py) -/
import Derived.Test.YtpbijcchdjppmaaTxD
import Derived.Test.YtpbijcchdjppmaaTxLP
namespace Go.Proofs.Ytpbijcchdjppmaa
open Go Go.RowKit Go.ChangeShapes Go.WideShapes
set_option maxRecDepth 100000 in
theorem txCopiesWalk {H : Type} {enc : TypeId × Value → H} (W : World) (base : Nat) (v0 : Value) (d0 : DataW H) (p0 : List MemPlace)
    (o0 : Value.okWide Try.prog W .any base 25 v0)
    (h0 : DataW.Trod enc Try.prog W 0 (fun _ => true) true 25 v0 d0 p0) :
    Calls Try.prog 5 #[v0] W fun e w' => e = .returned (.bool true) ∧ Below W.heap.size W w' :=
  txCopiesWalkK txOk W base v0 d0 p0 o0 h0
end Go.Proofs.Ytpbijcchdjppmaa
