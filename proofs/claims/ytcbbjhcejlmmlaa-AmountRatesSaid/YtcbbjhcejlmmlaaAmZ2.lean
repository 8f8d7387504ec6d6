/- AmountRatesWalk (mkamz.py) -/
import Derived.Test.YtcbbjhcejlmmlaaAmW
import Derived.Test.YtcbbjhcejlmmlaaAmA
namespace Go.Proofs.Ytcbbjhcejlmmlaa
open Go Go.RowKit Go.ChangeShapes Go.WideShapes
theorem amountRatesWalk {H : Type} {enc : TypeId × Value → H} (W : World) (base : Nat) (v0 : Value) (d0 : DataW H) (p0 : List MemPlace) (v1 : Value) (d1 : DataW H) (p1 : List MemPlace)
    (o0 : Value.okWide Try.prog W .any base 38 v0) (o1 : Value.okWide Try.prog W .any base 38 v1)
    (h0 : DataW.Trod enc Try.prog W 0 (fun _ => true) true 38 v0 d0 p0) (h1 : DataW.Trod enc Try.prog W 0 (fun _ => true) true 38 v1 d1 p1) :
    Calls Try.prog 4 #[v0, v1] W fun e w' => e = .returned (.bool true) ∧ Below W.heap.size W w' :=
  amountRatesWalkK amountOk W base v0 d0 p0 v1 d1 p1 o0 o1 h0 h1
end Go.Proofs.Ytcbbjhcejlmmlaa
