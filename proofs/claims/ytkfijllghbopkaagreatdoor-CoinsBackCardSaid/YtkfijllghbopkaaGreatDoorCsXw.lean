/- CoinsBack: the walk -/
import Derived.Test.YtkfijllghbopkaaGreatDoorCsX
import Derived.Test.YtkfijllghbopkaaGreatDoorCtp
import Derived.Test.YtkfijllghbopkaaGreatDoorTxLd
namespace Go.Proofs.YtkfijllghbopkaaGreatDoor
open Go Go.RowKit Go.ChangeShapes Go.WideShapes
set_option maxRecDepth 100000 in
theorem coinsBackWalk {H : Type} {enc : TypeId × Value → H} (W : World) (base : Nat) (v0 : Value) (d0 : DataW H) (p0 : List MemPlace) (v1 : Value) (d1 : DataW H) (p1 : List MemPlace)
    (o0 : Value.okWide Tryz.prog W .any base 22 v0) (o1 : Value.okWide Tryz.prog W .any base 23 v1)
    (h0 : DataW.Trod enc Tryz.prog W 0 (fun _ => true) true 22 v0 d0 p0) (h1 : DataW.Trod enc Tryz.prog W 0 (fun _ => true) true 23 v1 d1 p1) (hL : laidMetH Tryz.prog Rows.coinsBackRow.laid W) :
    Calls Tryz.prog 3 #[v0, v1] W fun e w' => e = .returned (.bool true) ∧ Below W.heap.size W w' := by
  obtain ⟨a, n, q, L, rfl, ha, h2, h3⟩ := arg_acts o0 h0
  obtain ⟨b, m, r, K, rfl, hk, h4, h5⟩ := arg_txs o1 h1
  exact cbackMain coinsOk2 a n q L b m r K W ha ⟨h2, h3⟩ hk ⟨h4, h5⟩ (tlaid_dg2 hL)
end Go.Proofs.YtkfijllghbopkaaGreatDoor
