/- LockSigns: the walk -/
import Derived.Test.YtcedecljbgailaaDoorTxLd
import Derived.Test.YtcedecljbgailaaDoorLkW
namespace Go.Proofs.YtcedecljbgailaaDoor
open Go Go.RowKit Go.ChangeShapes Go.WideShapes
set_option maxRecDepth 100000 in
theorem lockSignsWalk {H : Type} {enc : TypeId × Value → H} (W : World) (base : Nat) (v0 : Value) (d0 : DataW H) (p0 : List MemPlace) (v1 : Value) (d1 : DataW H) (p1 : List MemPlace)
    (o0 : Value.okWide Tryd.prog W .any base 38 v0) (o1 : Value.okWide Tryd.prog W .any base 39 v1)
    (h0 : DataW.Trod enc Tryd.prog W 0 (fun _ => true) true 38 v0 d0 p0) (h1 : DataW.Trod enc Tryd.prog W 0 (fun _ => true) true 39 v1 d1 p1) (hL : laidMetH Tryd.prog Rows.lockSignsRow.laid W) :
    Calls Tryd.prog 4 #[v0, v1] W fun e w' => e = .returned (.bool true) ∧ Below W.heap.size W w' := by
  obtain ⟨a, n, q, b, m, r, t, rfl, ht⟩ := arg_tx o0 h0
  obtain ⟨ca, cn, cq, keys, rfl, hc, h2, h3⟩ := arg_strs o1 h1
  exact lsignsMain a n q b m r t ca cn cq keys W ht hc ⟨h2, h3⟩ (tlaid_dg3 hL).1 (tlaid_dg3 hL).2
end Go.Proofs.YtcedecljbgailaaDoor
