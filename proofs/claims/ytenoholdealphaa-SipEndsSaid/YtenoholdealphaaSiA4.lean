/- sipEndsWalk of the landed code -/
import Derived.Test.YtenoholdealphaaSiO
import Derived.Test.YtenoholdealphaaSiE
namespace Go.Proofs.Ytenoholdealphaa
open Go Go.RowKit Go.ChangeShapes Go.WideShapes
theorem sipEndsWalk {H : Type} {enc : TypeId × Value → H} (W : World) (base : Nat) (v0 : Value) (d0 : DataW H) (p0 : List MemPlace)
    (o0 : Value.okWide Try.prog W .any base 45 v0) (h0 : DataW.Trod enc Try.prog W 0 (fun _ => true) true 45 v0 d0 p0) :
    Calls Try.prog 6 #[v0] W fun e w' => e = .returned (.bool true) ∧ Below W.heap.size W w' := sipEndsWalkK sipOk W base v0 d0 p0 o0 h0
end Go.Proofs.Ytenoholdealphaa
