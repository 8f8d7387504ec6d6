/- AmountOrdersWalk (mkamz.py) -/
import Derived.Test.YtcbbjhcejlmmlaaAmW
import Derived.Test.YtcbbjhcejlmmlaaAmO
namespace Go.Proofs.Ytcbbjhcejlmmlaa
open Go Go.RowKit Go.ChangeShapes Go.WideShapes
theorem amountOrdersWalk {H : Type} {enc : TypeId × Value → H} (W : World) (base : Nat) (v0 : Value) (d0 : DataW H) (p0 : List MemPlace) (v1 : Value) (d1 : DataW H) (p1 : List MemPlace) (v2 : Value) (d2 : DataW H) (p2 : List MemPlace)
    (o0 : Value.okWide Try.prog W .any base 38 v0) (o1 : Value.okWide Try.prog W .any base 38 v1) (o2 : Value.okWide Try.prog W .any base 38 v2)
    (h0 : DataW.Trod enc Try.prog W 0 (fun _ => true) true 38 v0 d0 p0) (h1 : DataW.Trod enc Try.prog W 0 (fun _ => true) true 38 v1 d1 p1) (h2 : DataW.Trod enc Try.prog W 0 (fun _ => true) true 38 v2 d2 p2) :
    Calls Try.prog 6 #[v0, v1, v2] W fun e w' => e = .returned (.bool true) ∧ Below W.heap.size W w' :=
  amountOrdersWalkK amountOk W base v0 d0 p0 v1 d1 p1 v2 d2 p2 o0 o1 o2 h0 h1 h2
end Go.Proofs.Ytcbbjhcejlmmlaa
